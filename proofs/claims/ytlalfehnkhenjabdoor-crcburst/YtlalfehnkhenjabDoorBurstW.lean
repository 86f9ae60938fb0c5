/-
  CrcBurst, walked.
-/
import Derived.Test.YtlalfehnkhenjabDoorBitW
namespace Go.Proofs.YtlalfehnkhenjabDoor
open Go.RowKit

/-- A frame whose body has the first k bits of p turned, from a bit on. -/
def BI (b : List UInt8) (f p k : Nat) (L : List UInt8) : Prop := ∃ l, L = lenB b ++ (sumB b ++ l) ∧ l.length = b.length ∧ leF l = leF b ^^^ 2 ^ f * (p % 2 ^ k)
theorem BI.init (b : List UInt8) (f p : Nat) : BI b f p 0 (frameB b) := ⟨b, rfl, rfl, by simp [Nat.mod_one]⟩
theorem BI.length {b : List UInt8} {f p k : Nat} {L : List UInt8} (h : BI b f p k L) : L.length = b.length + 8 := by
  obtain ⟨l, rfl, hl, _⟩ := h
  rw [List.length_append, List.length_append, lenB_length, sumB_length]
  omega
theorem BI.flip {b : List UInt8} {f p k : Nat} {L : List UInt8} (h : BI b f p k L) (hk : f + k < 8 * b.length) (hb : p / 2 ^ k % 2 = 1) : BI b f p (k + 1) (flipF L (64 + (f + k))) := by
  obtain ⟨l, rfl, hl, he⟩ := h
  refine ⟨flipF l (f + k), ?_, by rw [flipF_length, hl], ?_⟩
  · have e : 64 + (f + k) = 8 * (lenB b).length + (8 * (sumB b).length + (f + k)) := by rw [lenB_length, sumB_length]; omega
    rw [e, flip_append_right, flip_append_right]
  · have := burst_step b l f p k hl he hk
    rw [if_pos hb] at this
    exact this
theorem BI.skip {b : List UInt8} {f p k : Nat} {L : List UInt8} (h : BI b f p k L) (hk : f + k < 8 * b.length) (hb : ¬ p / 2 ^ k % 2 = 1) : BI b f p (k + 1) L := by
  obtain ⟨l, rfl, hl, he⟩ := h
  refine ⟨l, rfl, hl, ?_⟩
  have := burst_step b l f p k hl he hk
  rw [if_neg hb] at this
  exact this
theorem tmod_two (p k : Nat) : ((p : Int) / 2 ^ k).tmod 2 = (p : Int) / 2 ^ k % 2 := by
  have e : ((p : Int) / 2 ^ k) = ((p / 2 ^ k : Nat) : Int) := by rw [Int.natCast_ediv, Int.natCast_pow]; rfl
  rw [e]
  exact Int.tmod_eq_emod_of_nonneg (Int.natCast_nonneg _)
theorem odd_mod (p k : Nat) (hp : p % 2 = 1) (hk : 0 < k) : p % 2 ^ k ≠ 0 := by
  intro e
  obtain ⟨j, rfl⟩ : ∃ j, k = j + 1 := ⟨k - 1, by omega⟩
  have h : p % 2 ^ (j + 1) % 2 = p % 2 := by rw [Nat.pow_succ, Nat.mul_comm]; exact Nat.mod_mul_right_mod p 2 (2 ^ j)
  rw [e] at h
  omega
theorem BI.take {b : List UInt8} {f p k : Nat} {L : List UInt8} (h : BI b f p k L) (hb : b.length ≤ 400000) (hp : p % 2 = 1) (hk : 0 < k) (hk2 : k ≤ 32) (hf : f < 8 * b.length) : takeF L = ([], 0, 4) := by
  obtain ⟨l, rfl, hl, he⟩ := h
  have hlt : p % 2 ^ k < 2 ^ 32 := Nat.lt_of_lt_of_le (Nat.mod_lt _ (Nat.two_pow_pos k)) (Nat.pow_le_pow_right (by omega) hk2)
  have := take_burst b l [] f (p % 2 ^ k) hb hl hlt (odd_mod p k hp hk) (by omega) he
  rw [List.append_nil] at this
  exact this

set_option maxHeartbeats 2000000 in
set_option maxRecDepth 100000 in
theorem burst_pos (body B F : ByteArray) (c0 bn p : Nat) (w : World) (hT : Tab w) (hc0 : c0 ≤ 9223372036854775807) (h63 : body.size ≤ 9223372036854775807) (hB : body.extract 0 (min (body.size : Int) 4000).toNat = B) (hB0 : 0 < B.size) (hB4 : B.size ≤ 4000) (hFe : F = ⟨(frameB B.data.toList).toArray⟩)
    (hor : bits .or .u32 (bn : Int) 1 = (p : Int)) (hp : p % 2 = 1)
    (HE : Hid (∀ w, Tab w → Calls Tryd.prog 6 #[] w fun e w' => e = .returned (.bool true) ∧ Below w.heap.size w w'))
    (HF : Hid (∀ w, Tab w → Calls Tryd.prog 7 #[.string B] w fun e w' => e = .returned (.tuple #[.string F, .int .i64 0]) ∧ Below w.heap.size w w'))
    (HK : Hid (∀ (L : List UInt8), L.length = B.size + 8 → takeF L = ([], 0, 4) → ∀ w, Tab w → Calls Tryd.prog 8 #[.string ⟨L.toArray⟩] w fun e w' => e = .returned (.tuple #[.string ⟨#[]⟩, .int .i64 0, .int .i64 4]) ∧ Below w.heap.size w w')) :
    Calls Tryd.prog 4 #[.string body, .int .i64 (c0 : Int), .int .u32 bn] w fun e w' => e = .returned (.bool true) ∧ Below w.heap.size w w' := by
  have HT := hide hT
  have hFs : F.size = B.size + 8 := by rw [hFe, mk_size, frameB_length, size_list]
  have hF8 : 8 < F.size := by omega
  have hF4 : F.size ≤ 4008 := by omega
  have hneq : ((F.size : Int) != (B.size : Int) + 8) = false := by rw [bne_eq_false_iff_eq]; omega
  have HFS := hide hFs
  have HFD : Hid (F.data.toList = frameB B.data.toList) := by rw [hFe]; exact mk_data _
  clear hT hFe hFs
  go_enter Tryd.func4, Tryd.ntmps4
  go_wp2_with fail
  refine (HE.out _ HT.out).mono ?_
  rintro e w1 ⟨rfl, b1⟩
  have B1 := hide b1
  have T1 := hide (HT.out.below B1.out)
  clear b1
  go_wp2_with fail
  refine (HF.out _ T1.out).mono ?_
  rintro e w2 ⟨rfl, b2⟩
  have B2 := hide (B1.out.trans (b2.mono B1.out.size))
  clear b2
  obtain ⟨W, cap, hcv, hat⟩ := bytes_conv w2 F
  rw [HFD.out] at hat
  have HAT := hide hat
  clear hat
  obtain ⟨f, hf, hf2⟩ : ∃ f : Nat, (c0 : Int) % (8 * (B.size : Int)) = (f : Int) ∧ f < 8 * B.size := by
    have h := Nat.mod_lt c0 (show 0 < 8 * B.size by omega)
    refine ⟨c0 % (8 * B.size), ?_, h⟩
    rw [Int.natCast_emod, Int.natCast_mul]
    rfl
  have hBz : ((B.size : Int) == 0) = false := by rw [beq_eq_false_iff_ne]; omega
  go_wp2
  rw [hf]
  clear hf
  have HINI : Hid (BI B.data.toList f p 0 (frameB B.data.toList)) := BI.init _ _ _
  have hBL := size_list B
  generalize hwg : w2.heap.size = g at *
  go_loopw [11] (fun v wv => ∃ (k : Nat) (L : List UInt8), k ≤ 32 ∧ f + k ≤ 8 * B.size ∧ v = .int .i64 k ∧ BI B.data.toList f p k L ∧ BytesAt w2 wv g L) (fun v _ => 32 - (intOf v).toNat)
  case atStart => exact ⟨0, _, by omega, by omega, rfl, HINI.out, HAT.out⟩
  case round =>
    obtain ⟨k, L, hk32, hfk, rfl, hbi, hat⟩ := hrel
    have HBI := hide hbi
    have HA := hide hat
    have hL : L.length = F.size := by
      have h1 := hbi.length
      have h2 := HFS.out
      omega
    clear hbi hat HAT HINI
    by_cases hin : k < 32 ∧ f + k < 8 * B.size
    · obtain ⟨hk, hfk2⟩ := hin
      obtain ⟨i, hi⟩ : ∃ i : Nat, (8 : Int) + ((f : Int) + (k : Int)) / 8 = (i : Int) := ⟨8 + (f + k) / 8, by omega⟩
      obtain ⟨r, hr⟩ : ∃ r : Nat, ((f : Int) + (k : Int)) % 8 = (r : Int) := ⟨(f + k) % 8, by omega⟩
      have hiL : i < L.length := by have := HFS.out; omega
      have hiI : (i : Int) < F.size := by have := HFS.out; omega
      have hiN : i < F.size := by omega
      have hr8 : r < 8 := by omega
      obtain ⟨x, hx⟩ : ∃ x, L[i] = x := ⟨_, rfl⟩
      have c1 := HA.out.cells i hiL
      rw [hx] at c1
      have f1 := HA.out.free i hiL
      have hlt := HA.out.lt
      by_cases hb : p / 2 ^ k % 2 = 1
      · have hc : (((p : Int) / 2 ^ k).tmod 2 == 1) = true := by
          rw [tmod_two]
          have e : ((p : Int) / 2 ^ k % 2) = ((p / 2 ^ k % 2 : Nat) : Int) := by rw [Int.natCast_emod, Int.natCast_ediv, Int.natCast_pow]; rfl
          rw [e, hb]
          rfl
        have HBI2 := hide (HBI.out.flip (by omega) hb)
        have HAT3 : Hid (∀ y, y = ((UInt8.ofNat (x.toNat ^^^ 2 ^ r)).toNat : Int) → BytesAt w2 (wr.setCell ⟨g, i, none⟩ (.int .u8 y)).drew g (flipF L (64 + (f + k)))) := by
          intro y hy
          rw [flip_set L (64 + (f + k)) i r (by omega) (by omega) hiL, hx]
          exact HA.out.set i hiL _ y hy
        have HY := hide (flip_val x r hr8)
        clear hb hx
        go_wp2
        go_region
        have HAT4 := hide (HAT3.out _ HY.out)
        clear HAT3 HY
        generalize (wr.setCell ⟨g, i, none⟩ (.int .u8 (bits .xor .u8 (x.toNat : Int) (2 ^ r % 256)))).drew = W4 at HAT4 ⊢
        go_wp2
        go_roundw
        case rel => exact ⟨k + 1, _, by omega, by omega, by go_num, HBI2.out, HAT4.out⟩
        case measure => simp [intOf]; omega
      · have hc : (((p : Int) / 2 ^ k).tmod 2 == 1) = false := by
          rw [tmod_two]
          have e : ((p : Int) / 2 ^ k % 2) = ((p / 2 ^ k % 2 : Nat) : Int) := by rw [Int.natCast_emod, Int.natCast_ediv, Int.natCast_pow]; rfl
          rw [e, beq_eq_false_iff_ne]
          omega
        have HBI2 := hide (HBI.out.skip (by omega) hb)
        clear hb hx
        go_wp2
        go_roundw
        case rel => exact ⟨k + 1, _, by omega, by omega, by go_num, HBI2.out, HA.out⟩
        case measure => simp [intOf]; omega
    · have hk0 : 0 < k := by omega
      have HKL := hide (HK.out L (hL.trans HFS.out) (HBI.out.take (by omega) hp hk0 hk32 (by omega)))
      have hback := HA.out.back F.size cap hL
      have B4 : Hid (Below w.heap.size w wr) := B2.out.trans (HA.out.below.mono B2.out.size)
      have T4 := hide (HT.out.below B4.out)
      clear HBI HA
      by_cases hk1 : k < 32
      · have hfk3 : ¬ (f : Int) + (k : Int) < 8 * (B.size : Int) := by omega
        go_wp2_with fail
        refine (HKL.out _ T4.out).mono ?_
        rintro e w5 ⟨rfl, b5⟩
        have B5 := hide (B4.out.trans (b5.mono B4.out.size))
        clear b5
        go_wp2
        go_ret
        exact ⟨rfl, B5.out⟩
      · go_wp2_with fail
        refine (HKL.out _ T4.out).mono ?_
        rintro e w5 ⟨rfl, b5⟩
        have B5 := hide (B4.out.trans (b5.mono B4.out.size))
        clear b5
        go_wp2
        go_ret
        exact ⟨rfl, B5.out⟩

set_option maxHeartbeats 2000000 in
set_option maxRecDepth 100000 in
theorem burst_neg (body B F : ByteArray) (c0 bn p : Nat) (w : World) (hT : Tab w) (hc0 : c0 ≤ 9223372036854775807) (h63 : body.size ≤ 9223372036854775807) (hB : body.extract 0 (min (body.size : Int) 4000).toNat = B) (hB0 : 0 < B.size) (hB4 : B.size ≤ 4000) (hFe : F = ⟨(frameB B.data.toList).toArray⟩)
    (hor : bits .or .u32 (bn : Int) 1 = (p : Int)) (hp : p % 2 = 1)
    (HE : Hid (∀ w, Tab w → Calls Tryd.prog 6 #[] w fun e w' => e = .returned (.bool true) ∧ Below w.heap.size w w'))
    (HF : Hid (∀ w, Tab w → Calls Tryd.prog 7 #[.string B] w fun e w' => e = .returned (.tuple #[.string F, .int .i64 0]) ∧ Below w.heap.size w w'))
    (HK : Hid (∀ (L : List UInt8), L.length = B.size + 8 → takeF L = ([], 0, 4) → ∀ w, Tab w → Calls Tryd.prog 8 #[.string ⟨L.toArray⟩] w fun e w' => e = .returned (.tuple #[.string ⟨#[]⟩, .int .i64 0, .int .i64 4]) ∧ Below w.heap.size w w')) :
    Calls Tryd.prog 4 #[.string body, .int .i64 (-(c0 : Int) - 1), .int .u32 bn] w fun e w' => e = .returned (.bool true) ∧ Below w.heap.size w w' := by
  have HT := hide hT
  have hFs : F.size = B.size + 8 := by rw [hFe, mk_size, frameB_length, size_list]
  have hF8 : 8 < F.size := by omega
  have hF4 : F.size ≤ 4008 := by omega
  have hneq : ((F.size : Int) != (B.size : Int) + 8) = false := by rw [bne_eq_false_iff_eq]; omega
  have HFS := hide hFs
  have HFD : Hid (F.data.toList = frameB B.data.toList) := by rw [hFe]; exact mk_data _
  clear hT hFe hFs
  go_enter Tryd.func4, Tryd.ntmps4
  go_wp2_with fail
  refine (HE.out _ HT.out).mono ?_
  rintro e w1 ⟨rfl, b1⟩
  have B1 := hide b1
  have T1 := hide (HT.out.below B1.out)
  clear b1
  go_wp2_with fail
  refine (HF.out _ T1.out).mono ?_
  rintro e w2 ⟨rfl, b2⟩
  have B2 := hide (B1.out.trans (b2.mono B1.out.size))
  clear b2
  obtain ⟨W, cap, hcv, hat⟩ := bytes_conv w2 F
  rw [HFD.out] at hat
  have HAT := hide hat
  clear hat
  obtain ⟨f, hf, hf2⟩ : ∃ f : Nat, (c0 : Int) % (8 * (B.size : Int)) = (f : Int) ∧ f < 8 * B.size := by
    have h := Nat.mod_lt c0 (show 0 < 8 * B.size by omega)
    refine ⟨c0 % (8 * B.size), ?_, h⟩
    rw [Int.natCast_emod, Int.natCast_mul]
    rfl
  have hBz : ((B.size : Int) == 0) = false := by rw [beq_eq_false_iff_ne]; omega
  go_wp2
  rw [hf]
  rw [show decide (-(c0 : Int) - 1 < 0) = true by rw [decide_eq_true_eq]; omega]
  clear hf
  have HINI : Hid (BI B.data.toList f p 0 (frameB B.data.toList)) := BI.init _ _ _
  have hBL := size_list B
  generalize hwg : w2.heap.size = g at *
  go_loopw [11] (fun v wv => ∃ (k : Nat) (L : List UInt8), k ≤ 32 ∧ f + k ≤ 8 * B.size ∧ v = .int .i64 k ∧ BI B.data.toList f p k L ∧ BytesAt w2 wv g L) (fun v _ => 32 - (intOf v).toNat)
  case atStart => exact ⟨0, _, by omega, by omega, rfl, HINI.out, HAT.out⟩
  case round =>
    obtain ⟨k, L, hk32, hfk, rfl, hbi, hat⟩ := hrel
    have HBI := hide hbi
    have HA := hide hat
    have hL : L.length = F.size := by
      have h1 := hbi.length
      have h2 := HFS.out
      omega
    clear hbi hat HAT HINI
    by_cases hin : k < 32 ∧ f + k < 8 * B.size
    · obtain ⟨hk, hfk2⟩ := hin
      obtain ⟨i, hi⟩ : ∃ i : Nat, (8 : Int) + ((f : Int) + (k : Int)) / 8 = (i : Int) := ⟨8 + (f + k) / 8, by omega⟩
      obtain ⟨r, hr⟩ : ∃ r : Nat, ((f : Int) + (k : Int)) % 8 = (r : Int) := ⟨(f + k) % 8, by omega⟩
      have hiL : i < L.length := by have := HFS.out; omega
      have hiI : (i : Int) < F.size := by have := HFS.out; omega
      have hiN : i < F.size := by omega
      have hr8 : r < 8 := by omega
      obtain ⟨x, hx⟩ : ∃ x, L[i] = x := ⟨_, rfl⟩
      have c1 := HA.out.cells i hiL
      rw [hx] at c1
      have f1 := HA.out.free i hiL
      have hlt := HA.out.lt
      by_cases hb : p / 2 ^ k % 2 = 1
      · have hc : (((p : Int) / 2 ^ k).tmod 2 == 1) = true := by
          rw [tmod_two]
          have e : ((p : Int) / 2 ^ k % 2) = ((p / 2 ^ k % 2 : Nat) : Int) := by rw [Int.natCast_emod, Int.natCast_ediv, Int.natCast_pow]; rfl
          rw [e, hb]
          rfl
        have HBI2 := hide (HBI.out.flip (by omega) hb)
        have HAT3 : Hid (∀ y, y = ((UInt8.ofNat (x.toNat ^^^ 2 ^ r)).toNat : Int) → BytesAt w2 (wr.setCell ⟨g, i, none⟩ (.int .u8 y)).drew g (flipF L (64 + (f + k)))) := by
          intro y hy
          rw [flip_set L (64 + (f + k)) i r (by omega) (by omega) hiL, hx]
          exact HA.out.set i hiL _ y hy
        have HY := hide (flip_val x r hr8)
        clear hb hx
        go_wp2
        go_region
        have HAT4 := hide (HAT3.out _ HY.out)
        clear HAT3 HY
        generalize (wr.setCell ⟨g, i, none⟩ (.int .u8 (bits .xor .u8 (x.toNat : Int) (2 ^ r % 256)))).drew = W4 at HAT4 ⊢
        go_wp2
        go_roundw
        case rel => exact ⟨k + 1, _, by omega, by omega, by go_num, HBI2.out, HAT4.out⟩
        case measure => simp [intOf]; omega
      · have hc : (((p : Int) / 2 ^ k).tmod 2 == 1) = false := by
          rw [tmod_two]
          have e : ((p : Int) / 2 ^ k % 2) = ((p / 2 ^ k % 2 : Nat) : Int) := by rw [Int.natCast_emod, Int.natCast_ediv, Int.natCast_pow]; rfl
          rw [e, beq_eq_false_iff_ne]
          omega
        have HBI2 := hide (HBI.out.skip (by omega) hb)
        clear hb hx
        go_wp2
        go_roundw
        case rel => exact ⟨k + 1, _, by omega, by omega, by go_num, HBI2.out, HA.out⟩
        case measure => simp [intOf]; omega
    · have hk0 : 0 < k := by omega
      have HKL := hide (HK.out L (hL.trans HFS.out) (HBI.out.take (by omega) hp hk0 hk32 (by omega)))
      have hback := HA.out.back F.size cap hL
      have B4 : Hid (Below w.heap.size w wr) := B2.out.trans (HA.out.below.mono B2.out.size)
      have T4 := hide (HT.out.below B4.out)
      clear HBI HA
      by_cases hk1 : k < 32
      · have hfk3 : ¬ (f : Int) + (k : Int) < 8 * (B.size : Int) := by omega
        go_wp2_with fail
        refine (HKL.out _ T4.out).mono ?_
        rintro e w5 ⟨rfl, b5⟩
        have B5 := hide (B4.out.trans (b5.mono B4.out.size))
        clear b5
        go_wp2
        go_ret
        exact ⟨rfl, B5.out⟩
      · go_wp2_with fail
        refine (HKL.out _ T4.out).mono ?_
        rintro e w5 ⟨rfl, b5⟩
        have B5 := hide (B4.out.trans (b5.mono B4.out.size))
        clear b5
        go_wp2
        go_ret
        exact ⟨rfl, B5.out⟩

set_option maxHeartbeats 1000000 in
theorem burst_zero (body B F : ByteArray) (from' bn : Int) (w : World) (hT : Tab w) (h63 : body.size ≤ 9223372036854775807) (hB : body.extract 0 (min (body.size : Int) 4000).toNat = B) (hBz : ((B.size : Int) == 0) = true)
    (HE : Hid (∀ w, Tab w → Calls Tryd.prog 6 #[] w fun e w' => e = .returned (.bool true) ∧ Below w.heap.size w w'))
    (HF : Hid (∀ w, Tab w → Calls Tryd.prog 7 #[.string B] w fun e w' => e = .returned (.tuple #[.string F, .int .i64 0]) ∧ Below w.heap.size w w')) :
    Calls Tryd.prog 4 #[.string body, .int .i64 from', .int .u32 bn] w fun e w' => e = .returned (.bool true) ∧ Below w.heap.size w w' := by
  have HT := hide hT
  clear hT
  go_enter Tryd.func4, Tryd.ntmps4
  go_wp2_with fail
  refine (HE.out _ HT.out).mono ?_
  rintro e w1 ⟨rfl, b1⟩
  have B1 := hide b1
  have T1 := hide (HT.out.below B1.out)
  clear b1
  go_wp2_with fail
  refine (HF.out _ T1.out).mono ?_
  rintro e w2 ⟨rfl, b2⟩
  have B2 := hide (B1.out.trans (b2.mono B1.out.size))
  clear b2
  go_wp2
  go_ret
  exact ⟨rfl, B2.out⟩

theorem or_one (a : Nat) : (a ||| 1) % 2 = 1 := by
  simp

theorem burst_walk (body : ByteArray) (from' : Int) (bn : Nat) (w : World) (hT : Tab w) (h63 : body.size ≤ 9223372036854775807) (hc1 : -9223372036854775808 ≤ from') (hc2 : from' ≤ 9223372036854775807) (hbn : bn < 2 ^ 32) :
    Calls Tryd.prog 4 #[.string body, .int .i64 from', .int .u32 bn] w fun e w' => e = .returned (.bool true) ∧ Below w.heap.size w w' := by
  obtain ⟨B, hB, hBs⟩ := cut_body body
  have hl := size_list B
  have hF : ∀ w, Tab w → Calls Tryd.prog 7 #[.string B] w fun e w' => e = .returned (.tuple #[.string ⟨(frameB B.data.toList).toArray⟩, .int .i64 0]) ∧ Below w.heap.size w w' := by
    intro w hT
    have h := frame_any B w hT (by omega)
    rw [show frameF B.data.toList = (frameB B.data.toList, 0) by unfold frameF; rw [if_neg (by omega)]] at h
    exact h
  have hK : ∀ (L : List UInt8), L.length = B.size + 8 → takeF L = ([], 0, 4) → ∀ w, Tab w → Calls Tryd.prog 8 #[.string ⟨L.toArray⟩] w fun e w' => e = .returned (.tuple #[.string ⟨#[]⟩, .int .i64 0, .int .i64 4]) ∧ Below w.heap.size w w' := by
    intro L h1 h2 w hT
    have h := take_any ⟨L.toArray⟩ w hT (by rw [mk_size]; omega)
    rw [mk_data, h2] at h
    exact h
  by_cases hB0 : B.size = 0
  · exact burst_zero body B _ from' bn w hT h63 hB (by rw [hB0]; rfl) examples_any hF
  · have hor : bits .or .u32 (bn : Int) 1 = ((bn ||| 1 : Nat) : Int) := u32_or_nat bn 1 hbn (by decide)
    by_cases h0 : 0 ≤ from'
    · obtain ⟨c0, rfl⟩ : ∃ c0 : Nat, from' = (c0 : Int) := ⟨from'.toNat, by omega⟩
      exact burst_pos body B _ c0 bn _ w hT (by omega) h63 hB (by omega) hBs rfl hor (or_one bn) examples_any hF hK
    · obtain ⟨c0, rfl⟩ : ∃ c0 : Nat, from' = -(c0 : Int) - 1 := ⟨(-(from' + 1)).toNat, by omega⟩
      exact burst_neg body B _ c0 bn _ w hT (by omega) h63 hB (by omega) hBs rfl hor (or_one bn) examples_any hF hK

end Go.Proofs.YtlalfehnkhenjabDoor
