/-
  The document's own Encode and Shape, as they run: the same answers as the program's.
-/
import Derived.Test.YtfcpclpaalekiaaZKR6
import Derived.Deep.RegionHeld
namespace Go.Proofs.Ytfcpclpaalekiaa.K
open Go.RowKit
set_option maxHeartbeats 800000
theorem one_kind (k n : Int) (s : ByteArray) (w : World) (hk : kindB k = false) :
    Calls Try.prog 47 #[.agg #[.int .i64 k, .int .u64 n, .string s]] w fun e w' => e = .returned (.tuple #[.string ⟨#[]⟩, .int .i64 1]) ∧ Below w.heap.size w w' := by
  have h1 : k ≠ 1 ∧ k ≠ 2 ∧ k ≠ 3 ∧ k ≠ 4 := by
    refine ⟨?_, ?_, ?_, ?_⟩ <;> (rintro rfl; simp [kindB] at hk)
  have e0 : rwF k = 0 := by simp [rwF, h1]
  have h4 : (k != 4) = true := by rw [bne_iff_ne]; exact h1.2.2.2
  have HW : Hid (∀ w, Calls Try.prog 64 #[.int .i64 k] w fun e w' => e = .returned (.int .i64 0) ∧ w' = w) := fun w => by rw [← e0]; exact rwidth_any k w
  clear h1 e0 hk
  go_enter Try.func47, Try.ntmps47
  go_wp2_with (go_at_call 64; refine (HW.out _).mono ?_; rintro e w' ⟨rfl, rfl⟩)
  go_ret2
  exact ⟨rfl, (Below.refl _ _).alloc (Nat.le_refl _) _⟩
theorem one_text_n (n : Int) (s : ByteArray) (w : World) (hn : (n != 0) = true) :
    Calls Try.prog 47 #[.agg #[.int .i64 4, .int .u64 n, .string s]] w fun e w' => e = .returned (.tuple #[.string ⟨#[]⟩, .int .i64 1]) ∧ Below w.heap.size w w' := by
  have HW : Hid (∀ w, Calls Try.prog 64 #[.int .i64 4] w fun e w' => e = .returned (.int .i64 0) ∧ w' = w) := fun w => rwidth_any 4 w
  go_enter Try.func47, Try.ntmps47
  go_wp2_with (go_at_call 64; refine (HW.out _).mono ?_; rintro e w' ⟨rfl, rfl⟩)
  go_ret2
  exact ⟨rfl, (Below.refl _ _).alloc (Nat.le_refl _) _⟩
theorem one_text_long (s : ByteArray) (w : World) (hl : 100000 < s.size) (_hs : s.size ≤ 9223372036854775807) :
    Calls Try.prog 47 #[.agg #[.int .i64 4, .int .u64 0, .string s]] w fun e w' => e = .returned (.tuple #[.string ⟨#[]⟩, .int .i64 3]) ∧ Below w.heap.size w w' := by
  have HW : Hid (∀ w, Calls Try.prog 64 #[.int .i64 4] w fun e w' => e = .returned (.int .i64 0) ∧ w' = w) := fun w => rwidth_any 4 w
  go_enter Try.func47, Try.ntmps47
  go_wp2_with (go_at_call 64; refine (HW.out _).mono ?_; rintro e w' ⟨rfl, rfl⟩)
  go_ret2
  exact ⟨rfl, (Below.refl _ _).alloc (Nat.le_refl _) _⟩
theorem one_num1_s (n : Int) (s : ByteArray) (w : World) (hs : s.toList.isEmpty = false) :
    Calls Try.prog 47 #[.agg #[.int .i64 1, .int .u64 n, .string s]] w fun e w' => e = .returned (.tuple #[.string ⟨#[]⟩, .int .i64 1]) ∧ Below w.heap.size w w' := by
  have HW : Hid (∀ w, Calls Try.prog 64 #[.int .i64 1] w fun e w' => e = .returned (.int .i64 1) ∧ w' = w) := fun w => rwidth_any 1 w
  go_enter Try.func47, Try.ntmps47
  go_wp2_with (go_at_call 64; refine (HW.out _).mono ?_; rintro e w' ⟨rfl, rfl⟩)
  go_ret2
  exact ⟨rfl, (Below.refl _ _).alloc (Nat.le_refl _) _⟩
theorem one_num1_n (n : Int) (s : ByteArray) (w : World) (hs : s.toList.isEmpty = true) (_h0 : 0 ≤ n) (hn : 256 ≤ n) :
    Calls Try.prog 47 #[.agg #[.int .i64 1, .int .u64 n, .string s]] w fun e w' => e = .returned (.tuple #[.string ⟨#[]⟩, .int .i64 1]) ∧ Below w.heap.size w w' := by
  have HW : Hid (∀ w, Calls Try.prog 64 #[.int .i64 1] w fun e w' => e = .returned (.int .i64 1) ∧ w' = w) := fun w => rwidth_any 1 w
  have hn2 : (n / 256 != 0) = true := by rw [bne_iff_ne]; omega
  go_enter Try.func47, Try.ntmps47
  go_wp2_with (go_at_call 64; refine (HW.out _).mono ?_; rintro e w' ⟨rfl, rfl⟩)
  go_ret2
  exact ⟨rfl, (Below.refl _ _).alloc (Nat.le_refl _) _⟩
theorem one_num1_ok (m : Nat) (s : ByteArray) (w : World) (hs : s.toList.isEmpty = true) (hn : m < 256) :
    Calls Try.prog 47 #[.agg #[.int .i64 1, .int .u64 m, .string s]] w fun e w' => e = .returned (.tuple #[.string ⟨(Lib.beBytes 1 m).toArray⟩, .int .i64 0]) ∧ Below w.heap.size w w' := by
  have HW : Hid (∀ w, Calls Try.prog 64 #[.int .i64 1] w fun e w' => e = .returned (.int .i64 1) ∧ w' = w) := fun w => rwidth_any 1 w
  have hn2 : ((m : Int) / 256 != 0) = false := by simp; omega
  have HN := hide (fun w => num_1 m w (by omega))
  go_enter Try.func47, Try.ntmps47
  go_wp2_with (go_at_call 64; refine (HW.out _).mono ?_; rintro e w' ⟨rfl, rfl⟩)
  refine (HN.out _).mono ?_
  rintro e w2 ⟨rfl, hb⟩
  have B2 := hide (((Below.refl _ _).alloc (Nat.le_refl _) _).trans (hb.mono (by simp)))
  clear hb
  go_wp2
  go_ret2
  exact ⟨rfl, B2.out⟩
theorem one_num2_s (n : Int) (s : ByteArray) (w : World) (hs : s.toList.isEmpty = false) :
    Calls Try.prog 47 #[.agg #[.int .i64 2, .int .u64 n, .string s]] w fun e w' => e = .returned (.tuple #[.string ⟨#[]⟩, .int .i64 1]) ∧ Below w.heap.size w w' := by
  have HW : Hid (∀ w, Calls Try.prog 64 #[.int .i64 2] w fun e w' => e = .returned (.int .i64 4) ∧ w' = w) := fun w => rwidth_any 2 w
  go_enter Try.func47, Try.ntmps47
  go_wp2_with (go_at_call 64; refine (HW.out _).mono ?_; rintro e w' ⟨rfl, rfl⟩)
  go_ret2
  exact ⟨rfl, (Below.refl _ _).alloc (Nat.le_refl _) _⟩
theorem one_num2_n (n : Int) (s : ByteArray) (w : World) (hs : s.toList.isEmpty = true) (_h0 : 0 ≤ n) (hn : 4294967296 ≤ n) :
    Calls Try.prog 47 #[.agg #[.int .i64 2, .int .u64 n, .string s]] w fun e w' => e = .returned (.tuple #[.string ⟨#[]⟩, .int .i64 1]) ∧ Below w.heap.size w w' := by
  have HW : Hid (∀ w, Calls Try.prog 64 #[.int .i64 2] w fun e w' => e = .returned (.int .i64 4) ∧ w' = w) := fun w => rwidth_any 2 w
  have hn2 : (n / 4294967296 != 0) = true := by rw [bne_iff_ne]; omega
  go_enter Try.func47, Try.ntmps47
  go_wp2_with (go_at_call 64; refine (HW.out _).mono ?_; rintro e w' ⟨rfl, rfl⟩)
  go_ret2
  exact ⟨rfl, (Below.refl _ _).alloc (Nat.le_refl _) _⟩
theorem one_num2_ok (m : Nat) (s : ByteArray) (w : World) (hs : s.toList.isEmpty = true) (hn : m < 4294967296) :
    Calls Try.prog 47 #[.agg #[.int .i64 2, .int .u64 m, .string s]] w fun e w' => e = .returned (.tuple #[.string ⟨(Lib.beBytes 4 m).toArray⟩, .int .i64 0]) ∧ Below w.heap.size w w' := by
  have HW : Hid (∀ w, Calls Try.prog 64 #[.int .i64 2] w fun e w' => e = .returned (.int .i64 4) ∧ w' = w) := fun w => rwidth_any 2 w
  have hn2 : ((m : Int) / 4294967296 != 0) = false := by simp; omega
  have HN := hide (fun w => num_4 m w (by omega))
  go_enter Try.func47, Try.ntmps47
  go_wp2_with (go_at_call 64; refine (HW.out _).mono ?_; rintro e w' ⟨rfl, rfl⟩)
  refine (HN.out _).mono ?_
  rintro e w2 ⟨rfl, hb⟩
  have B2 := hide (((Below.refl _ _).alloc (Nat.le_refl _) _).trans (hb.mono (by simp)))
  clear hb
  go_wp2
  go_ret2
  exact ⟨rfl, B2.out⟩
theorem one_num3_s (n : Int) (s : ByteArray) (w : World) (hs : s.toList.isEmpty = false) :
    Calls Try.prog 47 #[.agg #[.int .i64 3, .int .u64 n, .string s]] w fun e w' => e = .returned (.tuple #[.string ⟨#[]⟩, .int .i64 1]) ∧ Below w.heap.size w w' := by
  have HW : Hid (∀ w, Calls Try.prog 64 #[.int .i64 3] w fun e w' => e = .returned (.int .i64 8) ∧ w' = w) := fun w => rwidth_any 3 w
  go_enter Try.func47, Try.ntmps47
  go_wp2_with (go_at_call 64; refine (HW.out _).mono ?_; rintro e w' ⟨rfl, rfl⟩)
  go_ret2
  exact ⟨rfl, (Below.refl _ _).alloc (Nat.le_refl _) _⟩
theorem one_num3_ok (m : Nat) (s : ByteArray) (w : World) (hs : s.toList.isEmpty = true) (hn : m < 18446744073709551616) :
    Calls Try.prog 47 #[.agg #[.int .i64 3, .int .u64 m, .string s]] w fun e w' => e = .returned (.tuple #[.string ⟨(Lib.beBytes 8 m).toArray⟩, .int .i64 0]) ∧ Below w.heap.size w w' := by
  have HW : Hid (∀ w, Calls Try.prog 64 #[.int .i64 3] w fun e w' => e = .returned (.int .i64 8) ∧ w' = w) := fun w => rwidth_any 3 w
  have HN := hide (fun w => num_8 m w (by omega))
  go_enter Try.func47, Try.ntmps47
  go_wp2_with (go_at_call 64; refine (HW.out _).mono ?_; rintro e w' ⟨rfl, rfl⟩)
  refine (HN.out _).mono ?_
  rintro e w2 ⟨rfl, hb⟩
  have B2 := hide (((Below.refl _ _).alloc (Nat.le_refl _) _).trans (hb.mono (by simp)))
  clear hb
  go_wp2
  go_ret2
  exact ⟨rfl, B2.out⟩
end Go.Proofs.Ytfcpclpaalekiaa.K
namespace Go.Proofs.Ytfcpclpaalekiaa.K
open Go.RowKit
set_option maxHeartbeats 400000
theorem one_text_ok (s : ByteArray) (w : World) (hl : s.size ≤ 100000) :
    Calls Try.prog 47 #[.agg #[.int .i64 4, .int .u64 0, .string s]] w fun e w' => e = .returned (.tuple #[.string ⟨(Lib.beBytes 4 s.size ++ s.data.toList).toArray⟩, .int .i64 0]) ∧ Below w.heap.size w w' := by
  have HW : Hid (∀ w, Calls Try.prog 64 #[.int .i64 4] w fun e w' => e = .returned (.int .i64 0) ∧ w' = w) := fun w => rwidth_any 4 w
  have HN : Hid (∀ w, Calls Try.prog 65 #[.int .u64 (IntKind.u64.wrap (s.size : Int)), .int .i64 4] w fun e w' => e = .returned (.string ⟨(Lib.beBytes 4 s.size).toArray⟩) ∧ Below w.heap.size w w') := by
    intro w
    rw [wraps_u64 _ (by omega) (by omega)]
    exact num_4 s.size w (by omega)
  have hN : (⟨(Lib.beBytes 4 s.size).toArray⟩ : ByteArray).size ≤ 4 := by
    show (Lib.beBytes 4 s.size).toArray.size ≤ 4
    rw [List.size_toArray, Lib.beBytes_length]
    exact Nat.le_refl _
  have e1 : (⟨(Lib.beBytes 4 s.size ++ s.data.toList).toArray⟩ : ByteArray) = ⟨(Lib.beBytes 4 s.size).toArray⟩ ++ s := by
    have h := ByteArray.mk_append_mk (Lib.beBytes 4 s.size) s.data.toList
    rw [mk_back] at h
    exact h.symm
  rw [e1]
  clear e1
  generalize (⟨(Lib.beBytes 4 s.size).toArray⟩ : ByteArray) = N at HN hN ⊢
  go_enter Try.func47, Try.ntmps47
  go_wp2_with (go_at_call 64; refine (HW.out _).mono ?_; rintro e w' ⟨rfl, rfl⟩)
  go_region_held (fun w' => w'.cell? ⟨w.heap.size, 2, none⟩ = some (.string s)) (go_keep) ((go_at_call 65; refine (HN.out _).mono ?_; rintro e w2 ⟨rfl, hb⟩; have c2 : w2.cell? ⟨w.heap.size, 2, none⟩ = some (.string s) := by (rw [hb.cell (p := ⟨w.heap.size, 2, none⟩) (by simp)]; simp)))
  have B2 := hide (((Below.refl _ _).alloc (Nat.le_refl _) _).drew.trans (hb.mono (by simp)))
  clear hb c2
  go_wp2
  go_ret2
  exact ⟨rfl, B2.out⟩
end Go.Proofs.Ytfcpclpaalekiaa.K
namespace Go.Proofs.Ytfcpclpaalekiaa.K
open Go.RowKit
set_option maxHeartbeats 800000
def oneB (x : It) : List UInt8 := if faultF x = 0 then itemB x else []
theorem empty_of {s : ByteArray} (h : s.toList.isEmpty = true) : s.size = 0 := by
  rw [Lib.toList_data] at h
  have : s.data.toList = [] := List.isEmpty_iff.1 h
  rw [← size_list, this]; rfl
theorem nonempty_of {s : ByteArray} (h : s.toList.isEmpty = false) : s.size ≠ 0 := by
  intro e
  rw [isEmpty_of e] at h
  cases h
theorem one_any (x : It) (w : World) (hx : x.ok) :
    Calls Try.prog 47 #[.agg #[.int .i64 x.k, .int .u64 x.n, .string x.s]] w fun e w' => e = .returned (.tuple #[.string ⟨(oneB x).toArray⟩, .int .i64 (faultF x)]) ∧ Below w.heap.size w w' := by
  obtain ⟨k, n, s⟩ := x
  obtain ⟨_, _, h0, h64, hsz⟩ := hx
  simp only at h0 h64 hsz
  obtain ⟨m, rfl⟩ := Int.eq_ofNat_of_zero_le h0
  cases hk : kindB k with
  | false =>
    have hf : faultF ⟨k, m, s⟩ = 1 := by simp [faultF, hk]
    have ho : oneB ⟨k, m, s⟩ = [] := by simp [oneB, hf]
    rw [hf, ho]
    exact one_kind k m s w hk
  | true =>
    have num : ∀ z : Nat, k ≠ 4 → widthN k = z → ((s.toList.isEmpty = false → Calls Try.prog 47 #[.agg #[.int .i64 k, .int .u64 m, .string s]] w fun e w' => e = .returned (.tuple #[.string ⟨#[]⟩, .int .i64 1]) ∧ Below w.heap.size w w')) →
        (s.toList.isEmpty = true → ¬ m < 256 ^ z → Calls Try.prog 47 #[.agg #[.int .i64 k, .int .u64 m, .string s]] w fun e w' => e = .returned (.tuple #[.string ⟨#[]⟩, .int .i64 1]) ∧ Below w.heap.size w w') →
        (s.toList.isEmpty = true → m < 256 ^ z → Calls Try.prog 47 #[.agg #[.int .i64 k, .int .u64 m, .string s]] w fun e w' => e = .returned (.tuple #[.string ⟨(Lib.beBytes z m).toArray⟩, .int .i64 0]) ∧ Below w.heap.size w w') →
        Calls Try.prog 47 #[.agg #[.int .i64 k, .int .u64 m, .string s]] w fun e w' => e = .returned (.tuple #[.string ⟨(oneB ⟨k, m, s⟩).toArray⟩, .int .i64 (faultF ⟨k, m, s⟩)]) ∧ Below w.heap.size w w' := by
      intro z h4 hw a b c
      have ez : ((256 ^ z : Nat) : Int) = (256 : Int) ^ z := Int.natCast_pow 256 _
      cases he : s.toList.isEmpty with
      | false =>
        have hs := nonempty_of he
        have hf : faultF ⟨k, m, s⟩ = 1 := by simp [faultF, h4, hs]
        have ho : oneB ⟨k, m, s⟩ = [] := by simp [oneB, hf]
        rw [hf, ho]
        exact a he
      | true =>
        have hs := empty_of he
        by_cases hm : m < 256 ^ z
        · have hm' : (m : Int) < (256 : Int) ^ widthN k := by rw [hw, ← ez]; omega
          have hf : faultF ⟨k, m, s⟩ = 0 := by
            unfold faultF
            simp only [hk, h4, hs, hm', Bool.true_eq_false, if_false, ne_eq, not_true, not_false_iff, or_false, and_false, false_and]
            rfl
          have ho : oneB ⟨k, m, s⟩ = Lib.beBytes z m := by
            have e1 : s.data.toList = [] := list_nil hs
            simp [oneB, hf, itemB, numOf, h4, hw, e1]
          rw [hf, ho]
          exact c he hm
        · have hm' : ¬ (m : Int) < (256 : Int) ^ widthN k := by rw [hw, ← ez]; omega
          have hf : faultF ⟨k, m, s⟩ = 1 := by simp [faultF, h4, hm']
          have ho : oneB ⟨k, m, s⟩ = [] := by simp [oneB, hf]
          rw [hf, ho]
          exact b he hm
    rcases kind_cases k hk with rfl | rfl | rfl | rfl
    · exact num 1 (by decide) rfl (fun h => one_num1_s m s w h) (fun h h1 => one_num1_n m s w h (by omega) (by omega)) (fun h h1 => one_num1_ok m s w h (by omega))
    · exact num 4 (by decide) rfl (fun h => one_num2_s m s w h) (fun h h1 => one_num2_n m s w h (by omega) (by omega)) (fun h h1 => one_num2_ok m s w h (by omega))
    · exact num 8 (by decide) rfl (fun h => one_num3_s m s w h) (fun h h1 => absurd (by omega : m < 256 ^ 8) h1) (fun h h1 => one_num3_ok m s w h (by omega))
    · by_cases hm : m = 0
      · subst hm
        by_cases hl : 100000 < s.size
        · have hf : faultF ⟨4, ((0 : Nat) : Int), s⟩ = 3 := by simp [faultF, kindB, hl]
          have ho : oneB ⟨4, ((0 : Nat) : Int), s⟩ = [] := by rw [oneB, if_neg (by rw [hf]; decide)]
          rw [hf, ho]
          exact one_text_long s w hl hsz
        · have hf : faultF ⟨4, ((0 : Nat) : Int), s⟩ = 0 := by simp [faultF, kindB, hl]
          have ho : oneB ⟨4, ((0 : Nat) : Int), s⟩ = Lib.beBytes 4 s.size ++ s.data.toList := by
            rw [oneB, if_pos hf]
            rfl
          rw [hf, ho]
          exact one_text_ok s w (by omega)
      · have hm' : ¬ ((m : Int) = 0) := by omega
        have hf : faultF ⟨4, m, s⟩ = 1 := by simp [faultF, kindB, hm]
        have ho : oneB ⟨4, m, s⟩ = [] := by simp [oneB, hf]
        rw [hf, ho]
        exact one_text_n m s w (by rw [bne_iff_ne]; exact hm')
theorem oneB_len (x : It) : (oneB x).length ≤ 100008 := by
  unfold oneB
  split
  · rename_i h; exact itemB_length x (fault_size x h)
  · simp
theorem rencode_few (ao : Option Addr) (cap : Nat) (l : List It) (w : World) (hc : ItemsAt w ao l) (hok : ∀ x ∈ l, x.ok) (hlen : l.length ≤ 1000) (R : List UInt8 × Int) (hR : encF l = R) :
    Calls Try.prog 32 #[.slice ao l.length cap] w fun e w' => e = .returned (.tuple #[.string ⟨R.1.toArray⟩, .int .i64 R.2]) ∧ Below w.heap.size w w' := by
  have HC := hide hc
  have HO := hide hok
  have HR := hide hR
  clear hc hok hR
  have h1000 : ¬ 1000 < (l.length : Int) := by omega
  go_enter Try.func32, Try.ntmps32
  go_wp2
  go_loopw [4, 5] (fun sv i wr => ∃ (k : Nat) (S : ByteArray), k ≤ l.length ∧ i = .int .i64 k ∧ sv = .string S ∧ S.size ≤ 100008 * k ∧ Hid (firstFault (l.take k) = 0 ∧ S.data.toList = (l.take k).flatMap itemB) ∧ Hid (Below w.heap.size w wr)) (fun _ i _ => l.length - (intOf i).toNat)
  case atStart => exact ⟨0, ⟨#[]⟩, Nat.zero_le _, rfl, rfl, Nat.le_refl _, ⟨rfl, rfl⟩, Below.refl _ _⟩
  case round =>
    obtain ⟨k, S, hk, rfl, rfl, hS, HF, HB⟩ := hrel
    by_cases hlt : k < l.length
    · obtain ⟨b, off, rfl, hb, c0, c1, c2⟩ := HC.out k hlt
      have HX := hide (HO.out l[k] (List.getElem_mem hlt))
      have d0 := (HB.out.cell (p := ⟨b, off + k * 3, none⟩) hb).trans c0
      have d1 := (HB.out.cell (p := ⟨b, off + k * 3 + 1, none⟩) hb).trans c1
      have d2 := (HB.out.cell (p := ⟨b, off + k * 3 + 2, none⟩) hb).trans c2
      clear c0 c1 c2
      have HI := hide (fun w => one_any l[k] w HX.out)
      have HH := hide (firstFault_hit l k hlt HF.out.1)
      have HT := hide (firstFault_next l k hlt HF.out.1)
      have HN := hide (take_next l k hlt)
      have hOl := oneB_len l[k]
      have HOB : Hid (faultF l[k] = 0 → oneB l[k] = itemB l[k]) := fun h => by unfold oneB; rw [if_pos h]
      generalize l[k] = x at *
      obtain ⟨O, hO⟩ : ∃ O : ByteArray, oneB x = O.data.toList := ⟨⟨(oneB x).toArray⟩, by simp⟩
      rw [hO] at HI hOl HOB
      simp only [mk_back, size_list] at HI hOl
      clear hO
      by_cases hf : faultF x = 0
      · rw [hf] at HI HT
        have HG : Hid (firstFault (l.take (k + 1)) = 0 ∧ (S ++ O).data.toList = (l.take (k + 1)).flatMap itemB) := by
          refine ⟨HT.out, ?_⟩
          rw [HN.out, List.flatMap_append, List.flatMap_singleton, ← HF.out.2, ← HOB.out hf]
          simp [ByteArray.data_append]
        clear HT HH hf HOB HN
        go_wp2_with fail
        refine (HI.out _).mono ?_
        rintro e w2 ⟨rfl, hb2⟩
        have HB2 := hide (HB.out.trans (hb2.mono HB.out.size))
        clear hb2
        go_wp2
        go_roundw
        case rel => exact ⟨k + 1, S ++ O, by omega, by go_num, rfl, by simp; omega, HG, HB2⟩
        case measure => simp [intOf]; omega
      · have HE : Hid (R = ([], faultF x)) := by
          show R = ([], faultF x)
          rw [← HR.out, encF_hit l hlen (by rw [HH.out hf]; exact hf), HH.out hf]
        have hf2 : (faultF x != 0) = true := by rw [bne_iff_ne]; exact hf
        clear HT HH hf HOB HN
        generalize faultF x = f at *
        go_wp2_with fail
        refine (HI.out _).mono ?_
        rintro e w2 ⟨rfl, hb2⟩
        have HB2 := hide (HB.out.trans (hb2.mono HB.out.size))
        clear hb2
        go_wp2
        go_ret2
        exact ⟨ret2 (by rw [HE.out]; rfl) (by rw [HE.out]; rfl), HB2.out⟩
    · have HE : Hid (R = (S.data.toList, 0)) := by
        show R = _
        have h0 := HF.out.1
        have h1 := HF.out.2
        rw [List.take_of_length_le (by omega)] at h0 h1
        rw [← HR.out, encF_ok l hlen h0, h1]
      clear HF
      go_wp2
      go_ret2
      exact ⟨ret2 (by rw [HE.out]; show Value.string S = .string ⟨S.data.toList.toArray⟩; rw [mk_back]) (by rw [HE.out]; rfl), HB.out⟩
theorem rencode_many (ao : Option Addr) (n cap : Nat) (w : World) (hn : 1000 < n) (hm : n ≤ maxLen) :
    Calls Try.prog 32 #[.slice ao n cap] w fun e w' => e = .returned (.tuple #[.string ⟨#[]⟩, .int .i64 3]) ∧ Below w.heap.size w w' := by
  unfold maxLen at hm
  have h1 : 1000 < (n : Int) := by omega
  go_enter Try.func32, Try.ntmps32
  go_wp2
  go_ret2
  exact ⟨rfl, Below.refl _ _⟩
theorem rencode_any (ao : Option Addr) (cap : Nat) (l : List It) (w : World) (hc : ItemsAt w ao l) (hok : ∀ x ∈ l, x.ok) (hlen : l.length ≤ maxLen) :
    Calls Try.prog 32 #[.slice ao l.length cap] w fun e w' => e = .returned (.tuple #[.string ⟨(encF l).1.toArray⟩, .int .i64 (encF l).2]) ∧ Below w.heap.size w w' := by
  by_cases h : 1000 < l.length
  · have e : encF l = ([], 3) := by unfold encF; rw [if_pos h]
    rw [e]
    exact rencode_many ao l.length cap w h hlen
  · exact rencode_few ao cap l w hc hok (by omega) _ rfl
end Go.Proofs.Ytfcpclpaalekiaa.K
