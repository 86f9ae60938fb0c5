/-
  The document's own take, held against the reader's; and what kindOf has to do with the letters.
-/
import Derived.Test.YtfoomgdlbkjaeaaGreatZKR1
namespace Go.Proofs.YtfoomgdlbkjaeaaGreat.K
open Go.RowKit
set_option maxHeartbeats 600000
def rkF (c : UInt8) : Int := if c = 98 then 1 else if c = 119 then 2 else if c = 108 then 3 else if c = 116 then 4 else 0
theorem byte_eq (c : UInt8) (n : Nat) (h : n < 256) : ((c.toNat : Int) == (n : Int)) = decide (c = UInt8.ofNat n) := by
  rw [Bool.eq_iff_iff]
  simp only [beq_iff_eq, decide_eq_true_eq]
  constructor
  · intro e
    apply UInt8.toNat_inj.1
    rw [UInt8.toNat_ofNat']
    omega
  · rintro rfl
    rw [UInt8.toNat_ofNat']
    omega
theorem rkindOf_any (c : UInt8) (w : World) :
    Calls Tryz.prog 104 #[.int .u8 (c.toNat : Int)] w fun e w' => e = .returned (.int .i64 (rkF c)) ∧ w' = w := by
  have e1 : ((c.toNat : Int) == 98) = decide (c = 98) := byte_eq c 98 (by decide)
  have e2 : ((c.toNat : Int) == 119) = decide (c = 119) := byte_eq c 119 (by decide)
  have e3 : ((c.toNat : Int) == 108) = decide (c = 108) := byte_eq c 108 (by decide)
  have e4 : ((c.toNat : Int) == 116) = decide (c = 116) := byte_eq c 116 (by decide)
  by_cases h1 : c = 98
  · have hv : rkF c = 1 := by simp [rkF, h1]
    rw [hv]
    rw [decide_eq_true h1] at e1
    clear hv e2 e3 e4 h1
    go_enter Tryz.func104, Tryz.ntmps104
    go_wp2
    go_ret
    exact ⟨rfl, rfl⟩
  · rw [decide_eq_false h1] at e1
    by_cases h2 : c = 119
    · have hv : rkF c = 2 := by simp [rkF, h2]
      rw [hv]
      rw [decide_eq_true h2] at e2
      clear hv e3 e4 h1 h2
      go_enter Tryz.func104, Tryz.ntmps104
      go_wp2
      go_ret
      exact ⟨rfl, rfl⟩
    · rw [decide_eq_false h2] at e2
      by_cases h3 : c = 108
      · have hv : rkF c = 3 := by simp [rkF, h3]
        rw [hv]
        rw [decide_eq_true h3] at e3
        clear hv e4 h1 h2 h3
        go_enter Tryz.func104, Tryz.ntmps104
        go_wp2
        go_ret
        exact ⟨rfl, rfl⟩
      · rw [decide_eq_false h3] at e3
        by_cases h4 : c = 116
        · have hv : rkF c = 4 := by simp [rkF, h4]
          rw [hv]
          rw [decide_eq_true h4] at e4
          clear hv h1 h2 h3 h4
          go_enter Tryz.func104, Tryz.ntmps104
          go_wp2
          go_ret
          exact ⟨rfl, rfl⟩
        · rw [decide_eq_false h4] at e4
          have hv : rkF c = 0 := by simp [rkF, h1, h2, h3, h4]
          rw [hv]
          clear hv h1 h2 h3 h4
          go_enter Tryz.func104, Tryz.ntmps104
          go_wp2
          go_ret
          exact ⟨rfl, rfl⟩
theorem add_byte (m : Nat) (c : UInt8) (h : (m : Int) < 72057594037927936) : IntKind.u64.wrap (256 * (m : Int) + IntKind.u64.wrap (c.toNat : Int)) = ((m * 256 + c.toNat : Nat) : Int) := by
  have hc := c.toNat_lt
  rw [wraps_u64 (c.toNat : Int) (by omega) (by omega), wraps_u64 _ (by omega) (by omega)]
  omega
theorem rvalue_any (s : ByteArray) (w : World) (hs : s.size ≤ 8) :
    Calls Tryz.prog 105 #[.string s] w fun e w' => e = .returned (.int .u64 (Lib.beNat s.data.toList)) ∧ w' = w := by
  go_enter Tryz.func105, Tryz.ntmps105
  go_wp2
  go_loop [3, 4] (fun n i => ∃ k : Nat, k ≤ s.size ∧ i = .int .i64 k ∧ n = .int .u64 (Lib.beNat (s.data.toList.take k))) (fun _ i => s.size - (intOf i).toNat)
  case atStart => exact ⟨0, Nat.zero_le _, rfl, rfl⟩
  case round =>
    obtain ⟨k, hk, rfl, rfl⟩ := hrel
    by_cases hlt : k < s.size
    · have hb : Lib.beNat (s.data.toList.take k) < 256 ^ 7 := by
        refine Nat.lt_of_lt_of_le (beNat_lt _) (Nat.pow_le_pow_right (by omega) ?_)
        have := List.length_take_le k s.data.toList
        omega
      have hts := take_snoc s k hlt
      have HS : Hid (Lib.beNat (s.data.toList.take (k + 1)) = Lib.beNat (s.data.toList.take k) * 256 + s[k].toNat) := by rw [hts]; exact beNat_snoc _ _
      clear hts
      generalize Lib.beNat (s.data.toList.take k) = m at hb HS ⊢
      have hb' : (m : Int) < 72057594037927936 := by omega
      clear hb
      go_wp2
      go_round
      case rel => exact ⟨k + 1, by omega, by go_num, by rw [HS.out, add_byte m _ hb']⟩
      case measure => simp [intOf]; omega
    · go_wp2
      go_ret
      exact ⟨ret_int (by rw [List.take_of_length_le (by simp; omega)]), rfl⟩
theorem take1_short (s : ByteArray) (w : World) (_hs : s.size ≤ 9223372036854775807) (h : s.size < 1) :
    Calls Tryz.prog 81 #[.int .i64 1, .string s] w fun e w' => e = .returned (.tuple #[.agg #[.int .i64 0, .int .u64 0, .string ⟨#[]⟩], .int .i64 0, .int .i64 2]) ∧ Below w.heap.size w w' := by
  have HW : Hid (∀ w, Calls Tryz.prog 102 #[.int .i64 1] w fun e w' => e = .returned (.int .i64 1) ∧ w' = w) := fun w => rwidth_any 1 w
  go_enter Tryz.func81, Tryz.ntmps81
  go_wp2_with (go_at_call 102; refine (HW.out _).mono ?_; rintro e w' ⟨rfl, rfl⟩)
  refine bodyPost_ret (v := .tuple #[.agg #[.int .i64 0, .int .u64 0, .string ⟨#[]⟩], .int .i64 0, .int .i64 2]) (by simp [results, Tryz.results81, go_sem]) rfl ⟨rfl, ?_⟩
  exact (Below.refl _ _).alloc (Nat.le_refl _) _
theorem take1_ok (s : ByteArray) (w : World) (_hs : s.size ≤ 9223372036854775807) (h : 1 ≤ s.size) :
    Calls Tryz.prog 81 #[.int .i64 1, .string s] w fun e w' => e = .returned (.tuple #[.agg #[.int .i64 1, .int .u64 (Lib.beNat (s.extract 0 1).data.toList), .string ⟨#[]⟩], .int .i64 1, .int .i64 0]) ∧ Below w.heap.size w w' := by
  have HW : Hid (∀ w, Calls Tryz.prog 102 #[.int .i64 1] w fun e w' => e = .returned (.int .i64 1) ∧ w' = w) := fun w => rwidth_any 1 w
  have HV : Hid (∀ w, Calls Tryz.prog 105 #[.string (s.extract 0 1)] w fun e w' => e = .returned (.int .u64 (Lib.beNat (s.extract 0 1).data.toList)) ∧ w' = w) := fun w => rvalue_any _ w (num_ok s 1 (by decide))
  generalize Lib.beNat (s.extract 0 1).data.toList = m at HV ⊢
  go_enter Tryz.func81, Tryz.ntmps81
  go_wp2_with (go_at_call 102; refine (HW.out _).mono ?_; rintro e w' ⟨rfl, rfl⟩)
  refine (HV.out _).mono ?_
  rintro e w' ⟨rfl, rfl⟩
  go_wp2
  refine bodyPost_ret (v := .tuple #[.agg #[.int .i64 1, .int .u64 m, .string ⟨#[]⟩], .int .i64 1, .int .i64 0]) (by simp [results, Tryz.results81, go_sem]) rfl ⟨rfl, ?_⟩
  exact (Below.refl _ _).alloc (Nat.le_refl _) _
theorem take2_short (s : ByteArray) (w : World) (_hs : s.size ≤ 9223372036854775807) (h : s.size < 4) :
    Calls Tryz.prog 81 #[.int .i64 2, .string s] w fun e w' => e = .returned (.tuple #[.agg #[.int .i64 0, .int .u64 0, .string ⟨#[]⟩], .int .i64 0, .int .i64 2]) ∧ Below w.heap.size w w' := by
  have HW : Hid (∀ w, Calls Tryz.prog 102 #[.int .i64 2] w fun e w' => e = .returned (.int .i64 4) ∧ w' = w) := fun w => rwidth_any 2 w
  go_enter Tryz.func81, Tryz.ntmps81
  go_wp2_with (go_at_call 102; refine (HW.out _).mono ?_; rintro e w' ⟨rfl, rfl⟩)
  refine bodyPost_ret (v := .tuple #[.agg #[.int .i64 0, .int .u64 0, .string ⟨#[]⟩], .int .i64 0, .int .i64 2]) (by simp [results, Tryz.results81, go_sem]) rfl ⟨rfl, ?_⟩
  exact (Below.refl _ _).alloc (Nat.le_refl _) _
theorem take2_ok (s : ByteArray) (w : World) (_hs : s.size ≤ 9223372036854775807) (h : 4 ≤ s.size) :
    Calls Tryz.prog 81 #[.int .i64 2, .string s] w fun e w' => e = .returned (.tuple #[.agg #[.int .i64 2, .int .u64 (Lib.beNat (s.extract 0 4).data.toList), .string ⟨#[]⟩], .int .i64 4, .int .i64 0]) ∧ Below w.heap.size w w' := by
  have HW : Hid (∀ w, Calls Tryz.prog 102 #[.int .i64 2] w fun e w' => e = .returned (.int .i64 4) ∧ w' = w) := fun w => rwidth_any 2 w
  have HV : Hid (∀ w, Calls Tryz.prog 105 #[.string (s.extract 0 4)] w fun e w' => e = .returned (.int .u64 (Lib.beNat (s.extract 0 4).data.toList)) ∧ w' = w) := fun w => rvalue_any _ w (num_ok s 4 (by decide))
  generalize Lib.beNat (s.extract 0 4).data.toList = m at HV ⊢
  go_enter Tryz.func81, Tryz.ntmps81
  go_wp2_with (go_at_call 102; refine (HW.out _).mono ?_; rintro e w' ⟨rfl, rfl⟩)
  refine (HV.out _).mono ?_
  rintro e w' ⟨rfl, rfl⟩
  go_wp2
  refine bodyPost_ret (v := .tuple #[.agg #[.int .i64 2, .int .u64 m, .string ⟨#[]⟩], .int .i64 4, .int .i64 0]) (by simp [results, Tryz.results81, go_sem]) rfl ⟨rfl, ?_⟩
  exact (Below.refl _ _).alloc (Nat.le_refl _) _
theorem take3_short (s : ByteArray) (w : World) (_hs : s.size ≤ 9223372036854775807) (h : s.size < 8) :
    Calls Tryz.prog 81 #[.int .i64 3, .string s] w fun e w' => e = .returned (.tuple #[.agg #[.int .i64 0, .int .u64 0, .string ⟨#[]⟩], .int .i64 0, .int .i64 2]) ∧ Below w.heap.size w w' := by
  have HW : Hid (∀ w, Calls Tryz.prog 102 #[.int .i64 3] w fun e w' => e = .returned (.int .i64 8) ∧ w' = w) := fun w => rwidth_any 3 w
  go_enter Tryz.func81, Tryz.ntmps81
  go_wp2_with (go_at_call 102; refine (HW.out _).mono ?_; rintro e w' ⟨rfl, rfl⟩)
  refine bodyPost_ret (v := .tuple #[.agg #[.int .i64 0, .int .u64 0, .string ⟨#[]⟩], .int .i64 0, .int .i64 2]) (by simp [results, Tryz.results81, go_sem]) rfl ⟨rfl, ?_⟩
  exact (Below.refl _ _).alloc (Nat.le_refl _) _
theorem take3_ok (s : ByteArray) (w : World) (_hs : s.size ≤ 9223372036854775807) (h : 8 ≤ s.size) :
    Calls Tryz.prog 81 #[.int .i64 3, .string s] w fun e w' => e = .returned (.tuple #[.agg #[.int .i64 3, .int .u64 (Lib.beNat (s.extract 0 8).data.toList), .string ⟨#[]⟩], .int .i64 8, .int .i64 0]) ∧ Below w.heap.size w w' := by
  have HW : Hid (∀ w, Calls Tryz.prog 102 #[.int .i64 3] w fun e w' => e = .returned (.int .i64 8) ∧ w' = w) := fun w => rwidth_any 3 w
  have HV : Hid (∀ w, Calls Tryz.prog 105 #[.string (s.extract 0 8)] w fun e w' => e = .returned (.int .u64 (Lib.beNat (s.extract 0 8).data.toList)) ∧ w' = w) := fun w => rvalue_any _ w (num_ok s 8 (by decide))
  generalize Lib.beNat (s.extract 0 8).data.toList = m at HV ⊢
  go_enter Tryz.func81, Tryz.ntmps81
  go_wp2_with (go_at_call 102; refine (HW.out _).mono ?_; rintro e w' ⟨rfl, rfl⟩)
  refine (HV.out _).mono ?_
  rintro e w' ⟨rfl, rfl⟩
  go_wp2
  refine bodyPost_ret (v := .tuple #[.agg #[.int .i64 3, .int .u64 m, .string ⟨#[]⟩], .int .i64 8, .int .i64 0]) (by simp [results, Tryz.results81, go_sem]) rfl ⟨rfl, ?_⟩
  exact (Below.refl _ _).alloc (Nat.le_refl _) _
theorem take4_short (s : ByteArray) (w : World) (_hs : s.size ≤ 9223372036854775807) (h : s.size < 4) :
    Calls Tryz.prog 81 #[.int .i64 4, .string s] w fun e w' => e = .returned (.tuple #[.agg #[.int .i64 0, .int .u64 0, .string ⟨#[]⟩], .int .i64 0, .int .i64 2]) ∧ Below w.heap.size w w' := by
  have HW : Hid (∀ w, Calls Tryz.prog 102 #[.int .i64 4] w fun e w' => e = .returned (.int .i64 0) ∧ w' = w) := fun w => rwidth_any 4 w
  go_enter Tryz.func81, Tryz.ntmps81
  go_wp2_with (go_at_call 102; refine (HW.out _).mono ?_; rintro e w' ⟨rfl, rfl⟩)
  refine bodyPost_ret (v := .tuple #[.agg #[.int .i64 0, .int .u64 0, .string ⟨#[]⟩], .int .i64 0, .int .i64 2]) (by simp [results, Tryz.results81, go_sem]) rfl ⟨rfl, ?_⟩
  exact (Below.refl _ _).alloc (Nat.le_refl _) _
theorem take4_long (s : ByteArray) (w : World) (_hs : s.size ≤ 9223372036854775807) (m : Nat) (h : 4 ≤ s.size) (hm : Lib.beNat (s.extract 0 4).data.toList = m) (h1 : 100000 < m) :
    Calls Tryz.prog 81 #[.int .i64 4, .string s] w fun e w' => e = .returned (.tuple #[.agg #[.int .i64 0, .int .u64 0, .string ⟨#[]⟩], .int .i64 0, .int .i64 3]) ∧ Below w.heap.size w w' := by
  have HW : Hid (∀ w, Calls Tryz.prog 102 #[.int .i64 4] w fun e w' => e = .returned (.int .i64 0) ∧ w' = w) := fun w => rwidth_any 4 w
  have HV : Hid (∀ w, Calls Tryz.prog 105 #[.string (s.extract 0 4)] w fun e w' => e = .returned (.int .u64 m) ∧ w' = w) := fun w => by rw [← hm]; exact rvalue_any _ w (num_ok s 4 (by decide))
  clear hm
  go_enter Tryz.func81, Tryz.ntmps81
  go_wp2_with (go_at_call 102; refine (HW.out _).mono ?_; rintro e w' ⟨rfl, rfl⟩)
  refine (HV.out _).mono ?_
  rintro e w' ⟨rfl, rfl⟩
  go_wp2
  refine bodyPost_ret (v := .tuple #[.agg #[.int .i64 0, .int .u64 0, .string ⟨#[]⟩], .int .i64 0, .int .i64 3]) (by simp [results, Tryz.results81, go_sem]) rfl ⟨rfl, ?_⟩
  exact (Below.refl _ _).alloc (Nat.le_refl _) _
theorem take4_torn (s : ByteArray) (w : World) (_hs : s.size ≤ 9223372036854775807) (m : Nat) (h : 4 ≤ s.size) (hm : Lib.beNat (s.extract 0 4).data.toList = m) (h1 : m ≤ 100000) (h2 : s.size < 4 + m) :
    Calls Tryz.prog 81 #[.int .i64 4, .string s] w fun e w' => e = .returned (.tuple #[.agg #[.int .i64 0, .int .u64 0, .string ⟨#[]⟩], .int .i64 0, .int .i64 2]) ∧ Below w.heap.size w w' := by
  have HW : Hid (∀ w, Calls Tryz.prog 102 #[.int .i64 4] w fun e w' => e = .returned (.int .i64 0) ∧ w' = w) := fun w => rwidth_any 4 w
  have HV : Hid (∀ w, Calls Tryz.prog 105 #[.string (s.extract 0 4)] w fun e w' => e = .returned (.int .u64 m) ∧ w' = w) := fun w => by rw [← hm]; exact rvalue_any _ w (num_ok s 4 (by decide))
  clear hm
  go_enter Tryz.func81, Tryz.ntmps81
  go_wp2_with (go_at_call 102; refine (HW.out _).mono ?_; rintro e w' ⟨rfl, rfl⟩)
  refine (HV.out _).mono ?_
  rintro e w' ⟨rfl, rfl⟩
  go_wp2
  refine bodyPost_ret (v := .tuple #[.agg #[.int .i64 0, .int .u64 0, .string ⟨#[]⟩], .int .i64 0, .int .i64 2]) (by simp [results, Tryz.results81, go_sem]) rfl ⟨rfl, ?_⟩
  exact (Below.refl _ _).alloc (Nat.le_refl _) _
theorem take4_ok (s : ByteArray) (w : World) (_hs : s.size ≤ 9223372036854775807) (m : Nat) (hm : Lib.beNat (s.extract 0 4).data.toList = m) (h1 : m ≤ 100000) (h2 : 4 + m ≤ s.size) :
    Calls Tryz.prog 81 #[.int .i64 4, .string s] w fun e w' => e = .returned (.tuple #[.agg #[.int .i64 4, .int .u64 0, .string (s.extract 4 (4 + m))], .int .i64 (4 + m), .int .i64 0]) ∧ Below w.heap.size w w' := by
  have HW : Hid (∀ w, Calls Tryz.prog 102 #[.int .i64 4] w fun e w' => e = .returned (.int .i64 0) ∧ w' = w) := fun w => rwidth_any 4 w
  have HV : Hid (∀ w, Calls Tryz.prog 105 #[.string (s.extract 0 4)] w fun e w' => e = .returned (.int .u64 m) ∧ w' = w) := fun w => by rw [← hm]; exact rvalue_any _ w (num_ok s 4 (by decide))
  clear hm
  go_enter Tryz.func81, Tryz.ntmps81
  go_wp2_with (go_at_call 102; refine (HW.out _).mono ?_; rintro e w' ⟨rfl, rfl⟩)
  refine (HV.out _).mono ?_
  rintro e w' ⟨rfl, rfl⟩
  go_wp2
  refine bodyPost_ret (v := .tuple #[.agg #[.int .i64 4, .int .u64 0, .string (s.extract 4 (4 + m))], .int .i64 (4 + m), .int .i64 0]) (by simp [results, Tryz.results81, go_sem]) rfl ⟨rfl, ?_⟩
  exact (Below.refl _ _).alloc (Nat.le_refl _) _
end Go.Proofs.YtfoomgdlbkjaeaaGreat.K
namespace Go.Proofs.YtfoomgdlbkjaeaaGreat.K
open Go.RowKit
theorem rkF_eq (c : UInt8) : rkF c = kindOfL c := by
  have h : ∀ n : Fin 256, rkF (UInt8.ofNat n.val) = kindOfL (UInt8.ofNat n.val) := by decide +kernel
  have := h ⟨c.toNat, c.toNat_lt⟩
  simpa using this
theorem ext_sub (s : ByteArray) (m : Nat) (h : 4 + m ≤ s.size) : (s.extract 4 s.size).extract 0 m = s.extract 4 (4 + m) := by
  rw [ByteArray.extract_extract]
  congr 1
  omega
theorem ext_tail (s : ByteArray) (m : Nat) : (s.extract 4 s.size).extract m (s.extract 4 s.size).size = s.extract (4 + m) s.size := by
  rw [ByteArray.extract_extract]
  have : (s.extract 4 s.size).size = s.size - 4 := by simp
  rw [this]
  by_cases h : 4 ≤ s.size
  · congr 1
    omega
  · apply ByteArray.ext
    apply Array.ext
    · simp; omega
    · intro i h1 h2
      simp at h1
      omega
theorem take_any (k : Int) (s : ByteArray) (hk : kindB k = true) (hs : s.size ≤ maxLen) :
    ∃ n : Nat, ((itemG k (widthN k) s).2.2 = 0 → n ≤ s.size ∧ (itemG k (widthN k) s).2.1 = s.extract n s.size) ∧
      ∀ w, Calls Tryz.prog 81 #[.int .i64 k, .string s] w fun e w' => e = .returned (.tuple #[(itemG k (widthN k) s).1.v, .int .i64 n, .int .i64 (itemG k (widthN k) s).2.2]) ∧ Below w.heap.size w w' := by
  have hs' := hs
  unfold maxLen at hs'
  have hs2 : s.size ≤ 9223372036854775807 := by omega
  rcases kind_cases k hk with rfl | rfl | rfl | rfl
  · by_cases h : s.size < widthN 1
    · rw [show itemG 1 (widthN 1) s = (It.zero, ⟨#[]⟩, 2) by unfold itemG; rw [if_pos h]]
      exact ⟨0, fun e => by simp at e, fun w => take1_short s w hs2 h⟩
    · rw [show itemG 1 (widthN 1) s = (⟨1, Lib.beNat (s.extract 0 1).data.toList, ⟨#[]⟩⟩, s.extract 1 s.size, 0) by unfold itemG; rw [if_neg h]; rfl]
      have h1 : 1 ≤ s.size := by have : widthN 1 = 1 := rfl; omega
      exact ⟨1, fun _ => ⟨h1, rfl⟩, fun w => take1_ok s w hs2 h1⟩
  · by_cases h : s.size < widthN 2
    · rw [show itemG 2 (widthN 2) s = (It.zero, ⟨#[]⟩, 2) by unfold itemG; rw [if_pos h]]
      exact ⟨0, fun e => by simp at e, fun w => take2_short s w hs2 h⟩
    · rw [show itemG 2 (widthN 2) s = (⟨2, Lib.beNat (s.extract 0 4).data.toList, ⟨#[]⟩⟩, s.extract 4 s.size, 0) by unfold itemG; rw [if_neg h]; rfl]
      have h1 : 4 ≤ s.size := by have : widthN 2 = 4 := rfl; omega
      exact ⟨4, fun _ => ⟨h1, rfl⟩, fun w => take2_ok s w hs2 h1⟩
  · by_cases h : s.size < widthN 3
    · rw [show itemG 3 (widthN 3) s = (It.zero, ⟨#[]⟩, 2) by unfold itemG; rw [if_pos h]]
      exact ⟨0, fun e => by simp at e, fun w => take3_short s w hs2 h⟩
    · rw [show itemG 3 (widthN 3) s = (⟨3, Lib.beNat (s.extract 0 8).data.toList, ⟨#[]⟩⟩, s.extract 8 s.size, 0) by unfold itemG; rw [if_neg h]; rfl]
      have h1 : 8 ≤ s.size := by have : widthN 3 = 8 := rfl; omega
      exact ⟨8, fun _ => ⟨h1, rfl⟩, fun w => take3_ok s w hs2 h1⟩
  · by_cases h : s.size < widthN 4
    · rw [show itemG 4 (widthN 4) s = (It.zero, ⟨#[]⟩, 2) by unfold itemG; rw [if_pos h]]
      exact ⟨0, fun e => by simp at e, fun w => take4_short s w hs2 h⟩
    · have h4 : 4 ≤ s.size := by have : widthN 4 = 4 := rfl; omega
      obtain ⟨m, hm⟩ : ∃ m, Lib.beNat (s.extract 0 4).data.toList = m := ⟨_, rfl⟩
      have hg : itemG 4 (widthN 4) s = textG m (s.extract 4 s.size) := by unfold itemG; rw [if_neg h, if_pos rfl, ← hm]; rfl
      have hz : (s.extract 4 s.size).size = s.size - 4 := by simp
      rw [hg]
      by_cases h5 : 100000 < m
      · rw [show textG m (s.extract 4 s.size) = (It.zero, ⟨#[]⟩, 3) by unfold textG; rw [if_pos h5]]
        exact ⟨0, fun e => by simp at e, fun w => take4_long s w hs2 m h4 hm h5⟩
      · by_cases h6 : s.size < 4 + m
        · rw [show textG m (s.extract 4 s.size) = (It.zero, ⟨#[]⟩, 2) by unfold textG; rw [if_neg h5, if_pos (by omega)]]
          exact ⟨0, fun e => by simp at e, fun w => take4_torn s w hs2 m h4 hm (by omega) h6⟩
        · rw [show textG m (s.extract 4 s.size) = (⟨4, 0, s.extract 4 (4 + m)⟩, s.extract (4 + m) s.size, 0) by unfold textG; rw [if_neg h5, if_neg (by omega), ext_sub s m (by omega), ext_tail s m]]
          exact ⟨4 + m, fun _ => ⟨by omega, rfl⟩, fun w => take4_ok s w hs2 m hm (by omega) (by omega)⟩
end Go.Proofs.YtfoomgdlbkjaeaaGreat.K
