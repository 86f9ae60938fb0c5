/-
  The document's own sum, as it runs.
-/
import Derived.Test.YtoolbbibnegdnaaGreatDoorProg
import Derived.Test.YtoolbbibnegdnaaGreatDoorZGB
import Derived.WalkKit
import Derived.WalkSpells
import Derived.WalkLawsBesides
import Derived.BigQuiet
import Derived.Lib.EndianBits
import Derived.Laws.BitsAll
import Derived.Laws.BytesString
namespace Go.Proofs.YtoolbbibnegdnaaGreatDoor
open Go.RowKit

theorem hide {p : Prop} (h : p) : Hid p := h

theorem bitsF_snoc (k v c : Nat) : bitsF (k + 1) v c = bitF (bitsF k v c) (c / 2 ^ k % 2) := by
  induction k generalizing v c with
  | zero => simp [bitsF]
  | succ k ih =>
    show bitsF (k + 1) (bitF v (c % 2)) (c / 2) = bitF (bitsF k (bitF v (c % 2)) (c / 2)) (c / 2 ^ (k + 1) % 2)
    rw [ih, Nat.div_div_eq_div_mul, ← Nat.pow_succ', Nat.succ_eq_add_one]

theorem bitF_lt (v b : Nat) (h : v < 2 ^ 32) : bitF v b < 2 ^ 32 := by
  unfold bitF
  split
  · exact xor_lt (by omega) poly_lt
  · omega
theorem bitsF_lt (k v c : Nat) (h : v < 2 ^ 32) : bitsF k v c < 2 ^ 32 := by
  induction k generalizing v c with
  | zero => exact h
  | succ k ih => exact ih _ _ (bitF_lt v _ h)

theorem bit_cond (c q v : Nat) : ((c : Int) / 2 ^ q % 2 != (v : Int) % 2) = decide (c / 2 ^ q % 2 ≠ v % 2) := by
  have e : ((c : Int) / 2 ^ q % 2) = ((c / 2 ^ q % 2 : Nat) : Int) := by
    rw [Int.natCast_emod, Int.natCast_ediv, Int.natCast_pow]; rfl
  rw [e, Bool.eq_iff_iff]
  simp only [bne_iff_ne, ne_eq, decide_eq_true_eq]
  omega
theorem bitF_one (v b : Nat) (h : b ≠ v % 2) (hv : v < 2 ^ 32) : bits .xor .u32 ((v : Int) / 2) 2197175160 = ((bitF v b : Nat) : Int) := by
  have e : (v : Int) / 2 = ((v / 2 : Nat) : Int) := by omega
  unfold bitF
  rw [if_pos h, e]
  exact u32_xor_nat (v / 2) 2197175160 (by omega) (by decide)
theorem bitF_two (v b : Nat) (h : ¬ b ≠ v % 2) : (v : Int) / 2 = ((bitF v b : Nat) : Int) := by
  unfold bitF
  rw [if_neg h]
  omega
theorem take_snoc (s : ByteArray) (k : Nat) (h : k < s.size) : s.data.toList.take (k + 1) = s.data.toList.take k ++ [s[k]] := by
  have hl : k < s.data.toList.length := by simpa using h
  have : s[k] = s.data.toList[k] := rfl
  rw [this, List.take_add_one, List.getElem?_eq_getElem hl]
  rfl
theorem ret_u32 {a b : Int} (h : a = b) : Ending.returned (.int .u32 a) = .returned (.int .u32 b) := by rw [h]

set_option maxHeartbeats 1000000 in
set_option maxRecDepth 100000 in
theorem rmore_any (sum : Nat) (s : ByteArray) (w : World) (hs : sum < 2 ^ 32) (_h63 : s.size ≤ 9223372036854775807) :
    Calls Tryz.prog 70 #[.int .u32 sum, .string s] w fun e w' => e = .returned (.int .u32 (moreF sum s.data.toList)) ∧ w' = w := by
  have hx : bits .xor .u32 (sum : Int) 4294967295 = ((sum ^^^ ones : Nat) : Int) := u32_xor_nat sum 4294967295 hs (by decide)
  go_enter Tryz.func70, Tryz.ntmps70
  go_wp2
  go_loop [5, 6] (fun v i => ∃ k : Nat, k ≤ s.size ∧ i = .int .i64 k ∧ v = .int .u32 ((crcF (sum ^^^ ones) (s.data.toList.take k) : Nat) : Int)) (fun _ i => s.size - (intOf i).toNat)
  case atStart => exact ⟨0, Nat.zero_le _, rfl, by first | rfl | (rw [hx]; rfl)⟩
  case round =>
    obtain ⟨k, hk, rfl, rfl⟩ := hrel
    have hv0 : crcF (sum ^^^ ones) (s.data.toList.take k) < 2 ^ 32 := crcF_lt _ _ (xor_lt hs (by decide))
    by_cases hlt : k < s.size
    · have HN : Hid (crcF (sum ^^^ ones) (s.data.toList.take (k + 1)) = byteF (crcF (sum ^^^ ones) (s.data.toList.take k)) s[k]) := by rw [take_snoc s k hlt, crcF_append]; rfl
      generalize crcF (sum ^^^ ones) (s.data.toList.take k) = v0 at *
      go_wp2
      go_loop [5, 7] (fun v j => ∃ q : Nat, q ≤ 8 ∧ j = .int .i64 q ∧ v = .int .u32 ((bitsF q v0 s[k].toNat : Nat) : Int)) (fun _ j => 8 - (intOf j).toNat)
      case atStart => exact ⟨0, by omega, rfl, rfl⟩
      case round =>
        obtain ⟨q, hq, rfl, rfl⟩ := hrel
        by_cases hq8 : q < 8
        · have hv1 := bitsF_lt q v0 s[k].toNat hv0
          have HB := hide (bitsF_snoc q v0 s[k].toNat)
          generalize bitsF q v0 s[k].toNat = v1 at *
          have hc := bit_cond s[k].toNat q v1
          by_cases hb : s[k].toNat / 2 ^ q % 2 ≠ v1 % 2
          · rw [decide_eq_true hb] at hc
            have HR := hide (bitF_one v1 _ hb hv1)
            clear hb
            go_wp2
            exact ⟨⟨q + 1, by omega, by go_num, by rw [HB.out, HR.out]⟩, by simp [intOf]; omega⟩
          · rw [decide_eq_false hb] at hc
            have HR := hide (bitF_two v1 _ hb)
            clear hb
            go_wp2
            exact ⟨⟨q + 1, by omega, by go_num, by rw [HB.out, HR.out]⟩, by simp [intOf]; omega⟩
        · have h8 : q = 8 := by omega
          subst h8
          have HV : Hid (bitsF 8 v0 s[k].toNat = byteF v0 s[k]) := rfl
          generalize bitsF 8 v0 s[k].toNat = v2 at *
          go_wp2
          exact ⟨⟨k + 1, by omega, by go_num, by rw [HN.out, ← HV.out]⟩, by simp [intOf]; omega⟩
    · have e : s.data.toList.take k = s.data.toList := List.take_of_length_le (by simp; omega)
      rw [e] at hv0 ⊢
      have hy : bits .xor .u32 ((crcF (sum ^^^ ones) s.data.toList : Nat) : Int) 4294967295 = ((moreF sum s.data.toList : Nat) : Int) := u32_xor_nat _ 4294967295 hv0 (by decide)
      obtain ⟨m, hm⟩ : ∃ m, moreF sum s.data.toList = m := ⟨_, rfl⟩
      have HM := hide hm
      rw [hm] at hy
      clear hm
      generalize crcF (sum ^^^ ones) s.data.toList = v3 at *
      go_wp2
      go_ret
      exact ⟨ret_u32 (by rw [HM.out]), rfl⟩

set_option maxHeartbeats 400000 in
theorem rsum_any (s : ByteArray) (w : World) (h63 : s.size ≤ 9223372036854775807) :
    Calls Tryz.prog 44 #[.string s] w fun e w' => e = .returned (.int .u32 (sumF s.data.toList)) ∧ w' = w := by
  have HM : Hid (∀ w, Calls Tryz.prog 70 #[.int .u32 0, .string s] w fun e w' => e = .returned (.int .u32 (sumF s.data.toList)) ∧ w' = w) := fun w => rmore_any 0 s w (by decide) h63
  generalize sumF s.data.toList = m at *
  go_enter Tryz.func44, Tryz.ntmps44
  go_wp2_with (go_at_call 70; refine (HM.out _).mono ?_; rintro e w' ⟨rfl, rfl⟩)
  go_ret
  exact ⟨rfl, rfl⟩

end Go.Proofs.YtoolbbibnegdnaaGreatDoor
/-
  The document's own word and value, as they run.
-/
namespace Go.Proofs.YtoolbbibnegdnaaGreatDoor
open Go.RowKit

theorem be4 (v : Nat) : Lib.beBytes 4 v = [v / 16777216, v / 65536, v / 256, v].map fun n => (n % 256).toUInt8 := by
  simp [Lib.beBytes, Lib.leBytes, Nat.div_div_eq_div_mul]

theorem addr_add (b off n : Nat) : (⟨b, off, none⟩ : Addr).add n = ⟨b, off + n, none⟩ := by
  unfold Addr.add
  split
  · rename_i h; subst h; rfl
  · rfl
theorem conv4 (w : World) (a b c d : UInt8) (x y z u : Int) (hx : x = (a.toNat : Int)) (hy : y = (b.toNat : Int)) (hz : z = (c.toNat : Int)) (hu : u = (d.toNat : Int)) :
    (convert 99 9 (.slice (some ⟨w.heap.size, 0, none⟩) 4 4)).run Tryz.prog (w.alloc (.cells #[.int .u8 x, .int .u8 y, .int .u8 z, .int .u8 u] 5)) =
      .ok (.string ⟨#[a, b, c, d]⟩) (w.alloc (.cells #[.int .u8 x, .int .u8 y, .int .u8 z, .int .u8 u] 5)) := by
  subst hx hy hz hu
  have h := run_convert_bytes_back (P := Tryz.prog) (w.alloc (.cells #[.int .u8 (a.toNat : Int), .int .u8 (b.toNat : Int), .int .u8 (c.toNat : Int), .int .u8 (d.toNat : Int)] 5)) 99 9 5 ⟨w.heap.size, 0, none⟩ 4 [a, b, c, d] Tryz.underlying99 Tryz.underlying5 Tryz.underlying9 ?_
  · exact h
  · intro j hj
    rw [addr_add]
    have e : (w.alloc (.cells #[.int .u8 (a.toNat : Int), .int .u8 (b.toNat : Int), .int .u8 (c.toNat : Int), .int .u8 (d.toNat : Int)] 5)).heap[w.heap.size]? = some (.cells #[.int .u8 (a.toNat : Int), .int .u8 (b.toNat : Int), .int .u8 (c.toNat : Int), .int .u8 (d.toNat : Int)] 5) := by
      show (w.heap.push _)[w.heap.size]? = _
      simp
    rw [Lib.cell_of_heap e, Nat.zero_add]
    have h4 : j = 0 ∨ j = 1 ∨ j = 2 ∨ j = 3 := by simp at hj; omega
    rcases h4 with rfl | rfl | rfl | rfl <;> rfl

theorem byte_of (n : Nat) (x : Int) (h : x = ((n % 256 : Nat) : Int)) : x = (((n % 256).toUInt8).toNat : Int) := by
  rw [h, Lib.toUInt8_mod]

set_option maxHeartbeats 1000000 in
theorem rword_any (v : Nat) (w : World) (hv : v < 2 ^ 32) :
    Calls Tryz.prog 43 #[.int .u32 v] w fun e w' => e = .returned (.string ⟨(Lib.beBytes 4 v).toArray⟩) ∧ Below w.heap.size w w' := by
  have hcv := conv4 w _ _ _ _ ((v : Int) / 16777216) ((v : Int) / 65536 % 256) ((v : Int) / 256 % 256) ((v : Int) % 256) (byte_of (v / 16777216) _ (by omega)) (byte_of (v / 65536) _ (by omega)) (byte_of (v / 256) _ (by omega)) (byte_of v _ (by omega))
  have HE : Hid ((⟨(Lib.beBytes 4 v).toArray⟩ : ByteArray) = ⟨#[(v / 16777216 % 256).toUInt8, (v / 65536 % 256).toUInt8, (v / 256 % 256).toUInt8, (v % 256).toUInt8]⟩) := by rw [be4]; rfl
  rw [← HE.out] at hcv
  generalize (⟨(Lib.beBytes 4 v).toArray⟩ : ByteArray) = L at *
  clear HE
  go_enter Tryz.func43, Tryz.ntmps43
  go_wp2
  go_ret
  exact ⟨rfl, (Below.refl _ _).alloc (Nat.le_refl _) _⟩


theorem four_of (s : ByteArray) (h : s.size = 4) : ∃ a b c d, s = ⟨#[a, b, c, d]⟩ := by
  obtain ⟨⟨l⟩⟩ := s
  have h4 : l.length = 4 := h
  match l, h4 with
  | [a, b, c, d], _ => exact ⟨a, b, c, d, rfl⟩

theorem val4 (a b c d : Nat) (ha : a < 256) (hb : b < 256) (hc : c < 256) (hd : d < 256) :
    bits .or .u32 (bits .or .u32 (bits .or .u32 ((a : Int) % 4294967296 * 16777216 % 4294967296) ((b : Int) % 4294967296 * 65536 % 4294967296)) ((c : Int) % 4294967296 * 256 % 4294967296)) ((d : Int) % 4294967296) = ((((a * 256 + b) * 256 + c) * 256 + d : Nat) : Int) := by
  have e1 : (a : Int) % 4294967296 * 16777216 % 4294967296 = ((a * 16777216 : Nat) : Int) := by omega
  have e2 : (b : Int) % 4294967296 * 65536 % 4294967296 = ((b * 65536 : Nat) : Int) := by omega
  have e3 : (c : Int) % 4294967296 * 256 % 4294967296 = ((c * 256 : Nat) : Int) := by omega
  have e4 : (d : Int) % 4294967296 = (d : Int) := by omega
  rw [e1, e2, e3, e4, u32_or_nat _ _ (by omega) (by omega), nat_join 24 _ _ (by omega) (by omega), u32_or_nat _ _ (by omega) (by omega), nat_join 16 _ _ (by omega) (by omega), u32_or_nat _ _ (by omega) (by omega), nat_join 8 _ _ (by omega) (by omega)]
  omega

set_option maxHeartbeats 1000000 in
theorem rvalue_any (s : ByteArray) (w : World) (hs : s.size = 4) :
    Calls Tryz.prog 46 #[.string s] w fun e w' => e = .returned (.int .u32 (Lib.beNat s.data.toList)) ∧ ∃ n, w' = w.drewN n := by
  obtain ⟨a, b, c, d, rfl⟩ := four_of s hs
  go_enter Tryz.func46, Tryz.ntmps46
  go_wp2
  go_quiet (fail)
  go_wp2
  go_ret
  refine ⟨ret_u32 ?_, nq, rfl⟩
  have h := val4 a.toNat b.toNat c.toNat d.toNat a.toNat_lt b.toNat_lt c.toNat_lt d.toNat_lt
  refine Eq.trans ?_ (h.trans ?_)
  · rfl
  · simp [Lib.beNat, Lib.beFrom]

end Go.Proofs.YtoolbbibnegdnaaGreatDoor
/-
  The document's own Frame and Take, as they run.
-/
namespace Go.Proofs.YtoolbbibnegdnaaGreatDoor
open Go.RowKit

theorem size_list (s : ByteArray) : s.data.toList.length = s.size := by simp
theorem mk_list (s : ByteArray) : (⟨s.data.toList.toArray⟩ : ByteArray) = s := by obtain ⟨d⟩ := s; rfl
theorem mk_append (a b : List UInt8) : (⟨a.toArray⟩ : ByteArray) ++ ⟨b.toArray⟩ = ⟨(a ++ b).toArray⟩ := by
  apply ByteArray.ext
  simp [ByteArray.data_append]
theorem list_append (a b : ByteArray) : (a ++ b).data.toList = a.data.toList ++ b.data.toList := by simp [ByteArray.data_append]
theorem mk_size (a : List UInt8) : (⟨a.toArray⟩ : ByteArray).size = a.length := by show a.toArray.size = _; simp
theorem mk_data (a : List UInt8) : (⟨a.toArray⟩ : ByteArray).data.toList = a := by simp
theorem ext_data (s : ByteArray) (i j : Nat) : (s.extract i j).data.toList = (s.data.toList.drop i).take (j - i) := by
  rw [Lib.extract_data]

set_option maxHeartbeats 1000000 in
theorem rframe_long (body : ByteArray) (w : World) (h : 400000 < body.size) (_h63 : body.size ≤ 9223372036854775807) :
    Calls Tryz.prog 21 #[.string body] w fun e w' => e = .returned (.tuple #[.string ⟨#[]⟩, .bool false]) ∧ Below w.heap.size w w' := by
  go_enter Tryz.func21, Tryz.ntmps21
  go_wp2
  go_ret2
  exact ⟨rfl, Below.refl _ _⟩

set_option maxHeartbeats 1000000 in
theorem rframe_ok (body n4 s4 : ByteArray) (m : Nat) (w : World) (h : body.size ≤ 400000) (h4 : n4.size = 4) (hs4 : s4.size = 4)
    (HW1 : Hid (∀ w, Calls Tryz.prog 43 #[.int .u32 body.size] w fun e w' => e = .returned (.string n4) ∧ Below w.heap.size w w'))
    (HS : Hid (∀ w, Calls Tryz.prog 44 #[.string (n4 ++ body)] w fun e w' => e = .returned (.int .u32 m) ∧ w' = w))
    (HW2 : Hid (∀ w, Calls Tryz.prog 43 #[.int .u32 m] w fun e w' => e = .returned (.string s4) ∧ Below w.heap.size w w')) :
    Calls Tryz.prog 21 #[.string body] w fun e w' => e = .returned (.tuple #[.string (n4 ++ s4 ++ body), .bool true]) ∧ Below w.heap.size w w' := by
  go_enter Tryz.func21, Tryz.ntmps21
  go_wp2_with fail
  refine (HW1.out _).mono ?_
  rintro e w1 ⟨rfl, b1⟩
  have B1 := hide b1
  clear b1
  go_wp2_with fail
  refine (HS.out _).mono ?_
  rintro e w2 ⟨rfl, rfl⟩
  go_wp2_with fail
  refine (HW2.out _).mono ?_
  rintro e w3 ⟨rfl, b3⟩
  have B3 := hide (B1.out.trans (b3.mono B1.out.size))
  clear b3
  go_wp2
  go_ret2
  exact ⟨rfl, B3.out⟩


theorem frame_mk (body : ByteArray) : (⟨(lenB body.data.toList).toArray⟩ : ByteArray) ++ ⟨(sumB body.data.toList).toArray⟩ ++ body = ⟨(frameB body.data.toList).toArray⟩ := by
  conv => lhs; rw [← mk_list body]
  rw [mk_append, mk_append, List.append_assoc]
  rfl

theorem rframe_any (body : ByteArray) (w : World) (h63 : body.size ≤ 9223372036854775807) :
    Calls Tryz.prog 21 #[.string body] w fun e w' => e = .returned (.tuple #[.string ⟨(frameF body.data.toList).1.toArray⟩, .bool (decide (body.size ≤ 400000))]) ∧ Below w.heap.size w w' := by
  unfold frameF
  rw [size_list]
  by_cases h : 400000 < body.size
  · rw [if_pos h, decide_eq_false (by omega)]
    exact rframe_long body w h h63
  · rw [if_neg h, decide_eq_true (by omega), ← frame_mk]
    refine rframe_ok body _ _ (sumF (lenB body.data.toList ++ body.data.toList)) w (by omega) (by rw [mk_size, lenB_length]) (by rw [mk_size, sumB_length]) ?_ ?_ ?_
    · intro w
      have := rword_any body.size w (by omega)
      rw [← size_list] at this
      exact this
    · intro w
      have := rsum_any (⟨(lenB body.data.toList).toArray⟩ ++ body) w (by rw [ByteArray.size_append, mk_size, lenB_length]; omega)
      rw [list_append, mk_data] at this
      exact this
    · intro w
      exact rword_any _ w (sumF_lt _)

set_option maxHeartbeats 1000000 in
theorem rtake_short (s : ByteArray) (w : World) (_h63 : s.size ≤ 9223372036854775807) (h : s.size < 4) :
    Calls Tryz.prog 23 #[.string s] w fun e w' => e = .returned (.tuple #[.string ⟨#[]⟩, .int .i64 0, .int .i64 2]) ∧ Below w.heap.size w w' := by
  go_enter Tryz.func23, Tryz.ntmps23
  go_wp2
  refine bodyPost_ret (v := .tuple #[.string ⟨#[]⟩, .int .i64 0, .int .i64 2]) (by simp [results, Tryz.results23, go_sem]) rfl ⟨rfl, Below.refl _ _⟩

set_option maxHeartbeats 1000000 in
theorem rtake_long (s : ByteArray) (w : World) (_h63 : s.size ≤ 9223372036854775807) (m : Nat) (h : 4 ≤ s.size) (HV : Hid (∀ w, Calls Tryz.prog 46 #[.string (s.extract 0 4)] w fun e w' => e = .returned (.int .u32 m) ∧ ∃ n, w' = w.drewN n)) (hm : 400000 < m) :
    Calls Tryz.prog 23 #[.string s] w fun e w' => e = .returned (.tuple #[.string ⟨#[]⟩, .int .i64 0, .int .i64 3]) ∧ Below w.heap.size w w' := by
  go_enter Tryz.func23, Tryz.ntmps23
  go_wp2_with fail
  refine (HV.out _).mono ?_
  rintro e w1 ⟨rfl, hw1⟩
  have B1 : Hid (Below w.heap.size w w1) := by
    obtain ⟨n1, rfl⟩ := hw1
    exact below_drewN (Below.refl _ _) n1
  clear hw1
  go_wp2
  refine bodyPost_ret (v := .tuple #[.string ⟨#[]⟩, .int .i64 0, .int .i64 3]) (by simp [results, Tryz.results23, go_sem]) rfl ⟨rfl, B1.out⟩

set_option maxHeartbeats 1000000 in
theorem rtake_torn (s : ByteArray) (w : World) (_h63 : s.size ≤ 9223372036854775807) (m : Nat) (h : 4 ≤ s.size) (HV : Hid (∀ w, Calls Tryz.prog 46 #[.string (s.extract 0 4)] w fun e w' => e = .returned (.int .u32 m) ∧ ∃ n, w' = w.drewN n)) (hm : m ≤ 400000) (h2 : s.size < 8 + m) :
    Calls Tryz.prog 23 #[.string s] w fun e w' => e = .returned (.tuple #[.string ⟨#[]⟩, .int .i64 0, .int .i64 2]) ∧ Below w.heap.size w w' := by
  go_enter Tryz.func23, Tryz.ntmps23
  go_wp2_with fail
  refine (HV.out _).mono ?_
  rintro e w1 ⟨rfl, hw1⟩
  have B1 : Hid (Below w.heap.size w w1) := by
    obtain ⟨n1, rfl⟩ := hw1
    exact below_drewN (Below.refl _ _) n1
  clear hw1
  go_wp2
  refine bodyPost_ret (v := .tuple #[.string ⟨#[]⟩, .int .i64 0, .int .i64 2]) (by simp [results, Tryz.results23, go_sem]) rfl ⟨rfl, B1.out⟩

set_option maxHeartbeats 1000000 in
theorem rtake_sum (s : ByteArray) (w : World) (_h63 : s.size ≤ 9223372036854775807) (m q p : Nat) (HV : Hid (∀ w, Calls Tryz.prog 46 #[.string (s.extract 0 4)] w fun e w' => e = .returned (.int .u32 m) ∧ ∃ n, w' = w.drewN n)) (hm : m ≤ 400000) (h2 : 8 + m ≤ s.size)
    (HQ : Hid (∀ w, Calls Tryz.prog 46 #[.string (s.extract 4 8)] w fun e w' => e = .returned (.int .u32 q) ∧ ∃ n, w' = w.drewN n))
    (HS : Hid (∀ w, Calls Tryz.prog 44 #[.string (s.extract 0 4 ++ s.extract 8 (8 + m))] w fun e w' => e = .returned (.int .u32 p) ∧ w' = w)) (hqp : ((q : Int) != (p : Int)) = true) :
    Calls Tryz.prog 23 #[.string s] w fun e w' => e = .returned (.tuple #[.string ⟨#[]⟩, .int .i64 0, .int .i64 4]) ∧ Below w.heap.size w w' := by
  go_enter Tryz.func23, Tryz.ntmps23
  go_wp2_with fail
  refine (HV.out _).mono ?_
  rintro e w1 ⟨rfl, hw1⟩
  have B1 : Hid (Below w.heap.size w w1) := by
    obtain ⟨n1, rfl⟩ := hw1
    exact below_drewN (Below.refl _ _) n1
  clear hw1
  go_wp2_with fail
  have i4 : (4 : Int) ≤ s.size := by omega
  have i8 : (8 : Int) ≤ s.size := by omega
  have im : 8 + (m : Int) ≤ s.size := by omega
  have j8 : (8 : Int) ≤ 8 + (m : Int) := by omega
  have n8 : 8 ≤ s.size := by omega
  go_quiet ((first | (go_at_call 46; exact Calls.quiet_of (HQ.out _)) | (go_at_call 44; exact Calls.quiet_of_same (HS.out _))))
  go_wp2
  refine bodyPost_ret (v := .tuple #[.string ⟨#[]⟩, .int .i64 0, .int .i64 4]) (by simp [results, Tryz.results23, go_sem]) rfl ⟨rfl, below_drewN B1.out nq⟩

set_option maxHeartbeats 1000000 in
theorem rtake_ok (s : ByteArray) (w : World) (_h63 : s.size ≤ 9223372036854775807) (m q p : Nat) (HV : Hid (∀ w, Calls Tryz.prog 46 #[.string (s.extract 0 4)] w fun e w' => e = .returned (.int .u32 m) ∧ ∃ n, w' = w.drewN n)) (hm : m ≤ 400000) (h2 : 8 + m ≤ s.size)
    (HQ : Hid (∀ w, Calls Tryz.prog 46 #[.string (s.extract 4 8)] w fun e w' => e = .returned (.int .u32 q) ∧ ∃ n, w' = w.drewN n))
    (HS : Hid (∀ w, Calls Tryz.prog 44 #[.string (s.extract 0 4 ++ s.extract 8 (8 + m))] w fun e w' => e = .returned (.int .u32 p) ∧ w' = w)) (hqp : ((q : Int) != (p : Int)) = false) :
    Calls Tryz.prog 23 #[.string s] w fun e w' => e = .returned (.tuple #[.string (s.extract 8 (8 + m)), .int .i64 (8 + m), .int .i64 0]) ∧ Below w.heap.size w w' := by
  go_enter Tryz.func23, Tryz.ntmps23
  go_wp2_with fail
  refine (HV.out _).mono ?_
  rintro e w1 ⟨rfl, hw1⟩
  have B1 : Hid (Below w.heap.size w w1) := by
    obtain ⟨n1, rfl⟩ := hw1
    exact below_drewN (Below.refl _ _) n1
  clear hw1
  go_wp2_with fail
  have i4 : (4 : Int) ≤ s.size := by omega
  have i8 : (8 : Int) ≤ s.size := by omega
  have im : 8 + (m : Int) ≤ s.size := by omega
  have j8 : (8 : Int) ≤ 8 + (m : Int) := by omega
  have n8 : 8 ≤ s.size := by omega
  go_quiet ((first | (go_at_call 46; exact Calls.quiet_of (HQ.out _)) | (go_at_call 44; exact Calls.quiet_of_same (HS.out _))))
  go_wp2
  refine bodyPost_ret (v := .tuple #[.string (s.extract 8 (8 + m)), .int .i64 (8 + m), .int .i64 0]) (by simp [results, Tryz.results23, go_sem]) rfl ⟨rfl, below_drewN B1.out nq⟩

theorem rtake_any (s : ByteArray) (w : World) (h63 : s.size ≤ 9223372036854775807) :
    Calls Tryz.prog 23 #[.string s] w fun e w' => e = .returned (.tuple #[.string ⟨(takeF s.data.toList).1.toArray⟩, .int .i64 (takeF s.data.toList).2.1, .int .i64 (takeF s.data.toList).2.2]) ∧ Below w.heap.size w w' := by
  by_cases h : s.size < 4
  · rw [show takeF s.data.toList = ([], 0, 2) by unfold takeF; rw [if_pos (by rw [size_list]; exact h)]]
    exact rtake_short s w h63 h
  · have x4 : (s.extract 0 4).data.toList = s.data.toList.take 4 := by rw [ext_data]; simp
    have x8 : (s.extract 4 8).data.toList = (s.data.toList.drop 4).take 4 := by rw [ext_data]
    obtain ⟨m, hm⟩ : ∃ m, Lib.beNat (s.data.toList.take 4) = m := ⟨_, rfl⟩
    have HV : Hid (∀ w, Calls Tryz.prog 46 #[.string (s.extract 0 4)] w fun e w' => e = .returned (.int .u32 m) ∧ ∃ n, w' = w.drewN n) := by
      intro w
      have := rvalue_any (s.extract 0 4) w (by simp; omega)
      rw [x4, hm] at this
      exact this
    by_cases h1 : 400000 < m
    · rw [show takeF s.data.toList = ([], 0, 3) by unfold takeF; rw [if_neg (by rw [size_list]; exact h), hm, if_pos h1]]
      exact rtake_long s w h63 m (by omega) HV h1
    · by_cases h2 : s.size < 8 + m
      · rw [show takeF s.data.toList = ([], 0, 2) by unfold takeF; rw [if_neg (by rw [size_list]; exact h), hm, if_neg h1, if_pos (by rw [size_list]; exact h2)]]
        exact rtake_torn s w h63 m (by omega) HV (by omega) h2
      · have xb : (s.extract 8 (8 + m)).data.toList = (s.data.toList.drop 8).take m := by rw [ext_data]; simp
        obtain ⟨q, hq⟩ : ∃ q, Lib.beNat ((s.data.toList.drop 4).take 4) = q := ⟨_, rfl⟩
        obtain ⟨p, hp⟩ : ∃ p, sumF (s.data.toList.take 4 ++ (s.data.toList.drop 8).take m) = p := ⟨_, rfl⟩
        have HQ : Hid (∀ w, Calls Tryz.prog 46 #[.string (s.extract 4 8)] w fun e w' => e = .returned (.int .u32 q) ∧ ∃ n, w' = w.drewN n) := by
          intro w
          have := rvalue_any (s.extract 4 8) w (by simp; omega)
          rw [x8, hq] at this
          exact this
        have HS : Hid (∀ w, Calls Tryz.prog 44 #[.string (s.extract 0 4 ++ s.extract 8 (8 + m))] w fun e w' => e = .returned (.int .u32 p) ∧ w' = w) := by
          intro w
          have := rsum_any (s.extract 0 4 ++ s.extract 8 (8 + m)) w (by rw [ByteArray.size_append]; simp; omega)
          rw [list_append, x4, xb, hp] at this
          exact this
        by_cases hqp : q = p
        · rw [show takeF s.data.toList = ((s.data.toList.drop 8).take m, 8 + m, 0) by unfold takeF; rw [if_neg (by rw [size_list]; exact h), hm, if_neg h1, if_neg (by rw [size_list]; exact h2), hq, hp, if_neg (by simpa using hqp)]]
          have := rtake_ok s w h63 m q p HV (by omega) (by omega) HQ HS (by subst hqp; simp)
          rw [← mk_list (s.extract 8 (8 + m)), xb] at this
          exact this
        · rw [show takeF s.data.toList = ([], 0, 4) by unfold takeF; rw [if_neg (by rw [size_list]; exact h), hm, if_neg h1, if_neg (by rw [size_list]; exact h2), hq, hp, if_pos hqp]]
          exact rtake_sum s w h63 m q p HV (by omega) (by omega) HQ HS (by rw [bne_iff_ne]; omega)

end Go.Proofs.YtoolbbibnegdnaaGreatDoor
