import Derived.Test.YtfoomgdlbkjaeaaGreatRows
import Derived.Test.YtfoomgdlbkjaeaaGreatZKPure
import Derived.WalkKit
import Derived.WalkSpells
import Derived.WalkLawsBesides
import Derived.BigQuiet
import Derived.Lib.EndianBits
import Derived.Lib.IndexBytes
namespace Go.Proofs.YtfoomgdlbkjaeaaGreat.K
open Go.RowKit
set_option maxHeartbeats 400000
theorem width_any (k : Int) (w : World) :
    Calls Tryz.prog 70 #[.int .i64 k] w fun e w' => e = .returned (.int .i64 (widthN k)) ∧ w' = w := by
  by_cases h1 : k = 1
  · subst h1
    go_enter Tryz.func70, Tryz.ntmps70
    go_wp2
    go_ret
    exact ⟨rfl, rfl⟩
  · by_cases h3 : k = 3
    · subst h3
      go_enter Tryz.func70, Tryz.ntmps70
      go_wp2
      go_ret
      exact ⟨rfl, rfl⟩
    · have a1 : (k == 1) = false := beq_eq_false_iff_ne.2 h1
      have a3 : (k == 3) = false := beq_eq_false_iff_ne.2 h3
      have hw : widthN k = 4 := by simp [widthN, h1, h3]
      rw [hw]
      clear hw h1 h3
      go_enter Tryz.func70, Tryz.ntmps70
      go_wp2
      go_ret
      exact ⟨rfl, rfl⟩
theorem isKind_any (k : Int) (w : World) :
    Calls Tryz.prog 88 #[.int .i64 k] w fun e w' => e = .returned (.bool (kindB k)) ∧ w' = w := by
  by_cases h1 : 1 ≤ k
  · by_cases h2 : k ≤ 4
    · have hk : kindB k = true := by simp [kindB, h1, h2]
      rw [hk]
      clear hk
      go_enter Tryz.func88, Tryz.ntmps88
      go_wp2
      go_ret
      exact ⟨rfl, rfl⟩
    · have hk : kindB k = false := by simp [kindB, h2]
      rw [hk]
      clear hk
      go_enter Tryz.func88, Tryz.ntmps88
      go_wp2
      go_ret
      exact ⟨rfl, rfl⟩
  · have hk : kindB k = false := by simp [kindB, h1]
    rw [hk]
    clear hk
    go_enter Tryz.func88, Tryz.ntmps88
    go_wp2
    go_ret
    exact ⟨rfl, rfl⟩
theorem ret_bool {a b : Bool} (h : a = b) : Ending.returned (.bool a) = .returned (.bool b) := by rw [h]
theorem ret_int {k : IntKind} {a b : Int} (h : a = b) : Ending.returned (.int k a) = .returned (.int k b) := by rw [h]
theorem fit1 (n : Int) (h0 : 0 ≤ n) : (n / 256 == 0) = decide (n < 256) := by
  rw [Bool.eq_iff_iff]; simp; omega
theorem fit4 (n : Int) (h0 : 0 ≤ n) : (n / 4294967296 == 0) = decide (n < 4294967296) := by
  rw [Bool.eq_iff_iff]; simp; omega
theorem fit8 (n : Int) (h0 : 0 ≤ n) : (n / 18446744073709551616 == 0) = decide (n < 256 ^ 8) := by
  have e : (256 : Int) ^ 8 = 18446744073709551616 := by decide
  rw [e, Bool.eq_iff_iff]; simp; omega
theorem fits_any (n : Int) (k : Nat) (w : World) (h0 : 0 ≤ n) (hk : k = 1 ∨ k = 4 ∨ k = 8) :
    Calls Tryz.prog 89 #[.int .u64 n, .int .i64 k] w fun e w' => e = .returned (.bool (decide (n < 256 ^ k))) ∧ w' = w := by
  rcases hk with rfl | rfl | rfl
  · go_enter Tryz.func89, Tryz.ntmps89
    go_wp2
    go_ret
    exact ⟨ret_bool (fit1 n h0), rfl⟩
  · go_enter Tryz.func89, Tryz.ntmps89
    go_wp2
    go_ret
    exact ⟨ret_bool (fit4 n h0), rfl⟩
  · go_enter Tryz.func89, Tryz.ntmps89
    go_wp2
    go_ret
    exact ⟨ret_bool (fit8 n h0), rfl⟩
theorem or_byte (m : Nat) (c : UInt8) (h : (m : Int) < 72057594037927936) : bits .or .u64 ((m : Int) * 256) (IntKind.u64.wrap (c.toNat : Int)) = ((m * 256 + c.toNat : Nat) : Int) := by
  have hc := c.toNat_lt
  have hw : IntKind.u64.wrap (c.toNat : Int) = (c.toNat : Int) := wraps_u64 _ (by omega) (by omega)
  rw [hw, bits_join .u64 64 (by decide) wraps_u64 8 ((m : Int) * 256) (c.toNat : Int) (by omega) (by omega) (by omega) (by omega) (by omega) (by omega)]
  omega
theorem take_snoc (s : ByteArray) (k : Nat) (h : k < s.size) : s.data.toList.take (k + 1) = s.data.toList.take k ++ [s[k]] := by
  rw [List.take_succ_eq_append_getElem (by simpa using h)]; rfl
theorem number_any (s : ByteArray) (w : World) (hs : s.size ≤ 8) :
    Calls Tryz.prog 140 #[.string s] w fun e w' => e = .returned (.int .u64 (Lib.beNat s.data.toList)) ∧ w' = w := by
  go_enter Tryz.func140, Tryz.ntmps140
  go_wp2
  go_loop [3, 7] (fun n i => ∃ k : Nat, k ≤ s.size ∧ i = .int .i64 k ∧ n = .int .u64 (Lib.beNat (s.data.toList.take k))) (fun _ i => s.size - (intOf i).toNat)
  case atStart => exact ⟨0, Nat.zero_le _, rfl, rfl⟩
  case round =>
    obtain ⟨k, hk, rfl, rfl⟩ := hrel
    by_cases hlt : k < s.size
    · have hb : Lib.beNat (s.data.toList.take k) < 256 ^ 7 := by
        refine Nat.lt_of_lt_of_le (beNat_lt _) (Nat.pow_le_pow_right (by omega) ?_)
        have := List.length_take_le k s.data.toList
        omega
      have hts := take_snoc s k hlt
      have HS : Hid (Lib.beNat (s.data.toList.take (k + 1)) = Lib.beNat (s.data.toList.take k) * 256 + s[k].toNat) := by rw [hts]; exact beNat_snoc _ _
      clear hts
      generalize Lib.beNat (s.data.toList.take k) = m at hb HS ⊢
      have hb' : (m : Int) < 72057594037927936 := by omega
      clear hb
      go_wp2
      go_round
      case rel => exact ⟨k + 1, by omega, by go_num, by rw [HS.out, or_byte m _ hb']⟩
      case measure => simp [intOf]; omega
    · go_wp2
      go_ret
      exact ⟨ret_int (by rw [List.take_of_length_le (by simp; omega)]), rfl⟩
theorem kindOfL_ge (c : UInt8) : 0 ≤ kindOfL c := by
  unfold kindOfL
  have := Lib.indexByte_ge letters c
  omega
theorem kindOfL_le (c : UInt8) : kindOfL c ≤ 4 := by
  unfold kindOfL letters
  simp only [Lib.indexByte]
  repeat' split
  all_goals simp_all
theorem isLetter_iff (c : UInt8) : isLetter c = decide (1 ≤ kindOfL c) := by
  unfold isLetter kindOfL
  rw [Bool.eq_iff_iff]; simp; omega
theorem allL_append (a b : List UInt8) : allL (a ++ b) = (allL a && allL b) := by simp [allL]
theorem u8_back (c : UInt8) : ((c.toNat : Int)).toNat.toUInt8 = c := by simp
theorem letterIdx (c : UInt8) (w : World) :
    Calls Tryz.prog 138 #[.string { data := #[98, 119, 108, 116] }, .int .u8 (c.toNat : Int)] w fun e w' => e = .returned (.int .i64 (kindOfL c - 1)) ∧ w' = w := by
  refine (Tryz.IndexByte _ _ _).mono ?_
  rintro e w' ⟨rfl, rfl⟩
  refine ⟨ret_int ?_, rfl⟩
  rw [u8_back]
  unfold kindOfL
  show Lib.indexByte [98, 119, 108, 116] c = Lib.indexByte letters c + 1 - 1
  unfold letters
  omega
theorem allLetters_any (s : ByteArray) (w : World) (hs : s.size ≤ maxLen) :
    Calls Tryz.prog 126 #[.string s] w fun e w' => e = .returned (.bool (allL s.data.toList)) ∧ w' = w := by
  unfold maxLen at hs
  go_enter Tryz.func126, Tryz.ntmps126
  go_wp2
  go_loop [6] (fun i => ∃ k : Nat, k ≤ s.size ∧ i = .int .i64 k ∧ allL (s.data.toList.take k) = true) (fun i => s.size - (intOf i).toNat)
  case atStart => exact ⟨0, Nat.zero_le _, rfl, rfl⟩
  case round =>
    obtain ⟨k, hk, rfl, hall⟩ := hrel
    have HA : Hid (allL (s.data.toList.take k) = true) := hall
    clear hall
    by_cases hlt : k < s.size
    · have hts := take_snoc s k hlt
      have HS : Hid (s.data.toList.take (k + 1) = s.data.toList.take k ++ [s[k]]) := hts
      clear hts
      by_cases hl : 1 ≤ kindOfL s[k]
      · go_wp2_with (go_at_call 138; refine (letterIdx _ _).mono ?_; rintro e w' ⟨rfl, rfl⟩)
        go_round
        case rel => exact ⟨k + 1, by omega, by go_num, by rw [HS.out, allL_append, HA.out]; simp [allL, isLetter_iff, hl]⟩
        case measure => simp [intOf]; omega
      · go_wp2_with (go_at_call 138; refine (letterIdx _ _).mono ?_; rintro e w' ⟨rfl, rfl⟩)
        go_ret
        refine ⟨ret_bool ?_, rfl⟩
        have hm : s[k] ∈ s.data.toList := by
          have : s.data.toList.take (k + 1) ⊆ s.data.toList := List.take_subset _ _
          exact this (by rw [HS.out]; simp)
        symm
        rw [allL, List.all_eq_false]
        exact ⟨s[k], hm, by simp [isLetter_iff, hl]⟩
    · go_wp2
      go_ret
      refine ⟨ret_bool ?_, rfl⟩
      have := HA.out
      rw [List.take_of_length_le (by simp; omega)] at this
      exact this.symm
end Go.Proofs.YtfoomgdlbkjaeaaGreat.K
namespace Go.Proofs.YtfoomgdlbkjaeaaGreat.K
open Go.RowKit
set_option maxHeartbeats 400000
def starI (s : ByteArray) : Int := Lib.indexByte s.data.toList 42
def cutA (s : ByteArray) : ByteArray := if starI s < 0 then s else s.extract 0 (starI s).toNat
def cutB (s : ByteArray) : ByteArray := if starI s < 0 then ⟨#[]⟩ else s.extract ((starI s).toNat + 1) s.size
def cutC (s : ByteArray) : Bool := decide (0 ≤ starI s)
theorem cutA_list (s : ByteArray) : (cutA s).data.toList = (cutStar s.data.toList).1 := by
  unfold cutA cutStar starI
  by_cases h : Lib.indexByte s.data.toList 42 < 0
  · simp [h]
  · rw [if_neg h, if_neg h, Lib.extract_data]; simp
theorem cutB_list (s : ByteArray) : (cutB s).data.toList = (cutStar s.data.toList).2.1 := by
  unfold cutB cutStar starI
  by_cases h : Lib.indexByte s.data.toList 42 < 0
  · simp [h]
  · rw [if_neg h, if_neg h, Lib.extract_to_end]
theorem cutC_list (s : ByteArray) : cutC s = (cutStar s.data.toList).2.2 := by
  unfold cutC cutStar starI
  by_cases h : Lib.indexByte s.data.toList 42 < 0
  · rw [if_pos h]; simp; omega
  · rw [if_neg h]; simp; omega
theorem cutA_size (s : ByteArray) : (cutA s).size ≤ s.size := by
  unfold cutA; split
  · exact Nat.le_refl _
  · simp; omega
theorem cutB_size (s : ByteArray) : (cutB s).size ≤ s.size := by
  unfold cutB; split
  · exact Nat.zero_le _
  · simp
theorem starI_eq (s : ByteArray) (h : ([42] == s.toList) = true) : starI s = 0 := by
  have e : s.toList = [42] := by simpa using (beq_iff_eq.1 h).symm
  unfold starI
  rw [← Lib.toList_data, e]; rfl
theorem starI_lt (s : ByteArray) : starI s < s.size ∨ starI s < 0 := by
  unfold starI
  by_cases h : Lib.indexByte s.data.toList 42 < 0
  · exact Or.inr h
  · obtain ⟨o, ho⟩ : ∃ o : Nat, Lib.indexByte s.data.toList 42 = o := ⟨(Lib.indexByte s.data.toList 42).toNat, by omega⟩
    have h1 := (Lib.indexByte_some ho).1
    obtain ⟨h2, _⟩ := List.getElem?_eq_some_iff.1 h1
    left
    rw [ho]
    have : o < s.size := by simpa using h2
    omega
theorem index_star (s : ByteArray) (w : World) :
    Calls Tryz.prog 139 #[.string s, .string { data := #[42] }] w fun e w' => e = .returned (.int .i64 (starI s)) ∧ w' = w := by
  go_enter Tryz.func139, Tryz.ntmps139
  go_wp2_with (go_at_call 143; refine (Tryz.liteIndexByte _ _ _).mono ?_; rintro e w' ⟨rfl, rfl⟩)
  · go_ret
    exact ⟨ret_int (starI_eq s ‹_›).symm, rfl⟩
  · go_ret
    exact ⟨rfl, rfl⟩
theorem liteCut_star (s : ByteArray) (w : World) (hs : s.size ≤ maxLen) :
    Calls Tryz.prog 127 #[.string s, .string { data := #[42] }] w fun e w' => e = .returned (.tuple #[.string (cutA s), .string (cutB s), .bool (cutC s)]) ∧ ∃ n, w' = w.drewN n := by
  unfold maxLen at hs
  by_cases h : starI s < 0
  · have eA : cutA s = s := by simp [cutA, h]
    have eB : cutB s = ⟨#[]⟩ := by simp [cutB, h]
    have eC : cutC s = false := by simp [cutC]; omega
    rw [eA, eB, eC]
    clear eA eB eC
    go_enter Tryz.func127, Tryz.ntmps127
    go_wp2_with (go_at_call 139; refine (index_star _ _).mono ?_; rintro e w' ⟨rfl, rfl⟩)
    go_ret3
    exact ⟨rfl, 0, rfl⟩
  · obtain ⟨i, hi⟩ : ∃ i : Nat, starI s = i := ⟨(starI s).toNat, by omega⟩
    have hlt : i < s.size := by rcases starI_lt s with h' | h' <;> omega
    have eA : cutA s = s.extract 0 i := by rw [cutA, if_neg h, hi]; simp
    have eB : cutB s = s.extract (i + 1) s.size := by rw [cutB, if_neg h, hi]; simp
    have eC : cutC s = true := by simp [cutC]; omega
    have hix := fun w => index_star s w
    rw [hi] at hix
    have HX : Hid (∀ w, Calls Tryz.prog 139 #[.string s, .string { data := #[42] }] w fun e w' => e = .returned (.int .i64 i) ∧ w' = w) := hix
    rw [eA, eB, eC]
    clear eA eB eC hi h hix
    go_enter Tryz.func127, Tryz.ntmps127
    go_wp2_with (go_at_call 139; refine (HX.out _).mono ?_; rintro e w' ⟨rfl, rfl⟩)
    go_quiet (fail)
    go_wp2
    go_ret3
    exact ⟨rfl, nq, rfl⟩
theorem cut_star (s : ByteArray) (w : World) (hs : s.size ≤ maxLen) :
    Calls Tryz.prog 95 #[.string s, .string { data := #[42] }] w fun e w' => e = .returned (.tuple #[.string (cutA s), .string (cutB s), .bool (cutC s)]) ∧ ∃ n, w' = w.drewN n := by
  go_enter Tryz.func95, Tryz.ntmps95
  go_wp2_with (go_at_call 127; refine (liteCut_star _ _ hs).mono ?_; rintro e w' ⟨rfl, nq, rfl⟩)
  go_ret3
  exact ⟨rfl, nq, rfl⟩
def shapeB (s : ByteArray) : Bool := !(cutC s && (cutB s).toList.isEmpty) && (allL (cutA s).data.toList && allL (cutB s).data.toList)
theorem shapeB_eq (s : ByteArray) : shapeB s = shapeOk s.data.toList := by
  unfold shapeB shapeOk
  rw [Lib.toList_data, cutC_list, cutB_list, cutA_list]
theorem isShape_core (s a b : ByteArray) (c : Bool) (w : World) (hA : a.size ≤ maxLen) (hB : b.size ≤ maxLen)
    (HC : Hid (∀ w, Calls Tryz.prog 95 #[.string s, .string { data := #[42] }] w fun e w' => e = .returned (.tuple #[.string a, .string b, .bool c]) ∧ ∃ n, w' = w.drewN n)) :
    Calls Tryz.prog 94 #[.string s] w fun e w' => e = .returned (.bool (!(c && b.toList.isEmpty) && (allL a.data.toList && allL b.data.toList))) ∧ ∃ n, w' = w.drewN n := by
  cases hl : allL a.data.toList with
  | true =>
    have h1 := fun w => allLetters_any a w hA
    have h2 := fun w => allLetters_any b w hB
    rw [hl] at h1
    have H1 : Hid (∀ w, Calls Tryz.prog 126 #[.string a] w fun e w' => e = .returned (.bool true) ∧ w' = w) := h1
    have H2 : Hid (∀ w, Calls Tryz.prog 126 #[.string b] w fun e w' => e = .returned (.bool (allL b.data.toList)) ∧ w' = w) := h2
    clear h1 h2 hl
    generalize allL b.data.toList = lb at H2 ⊢
    cases c with
    | true =>
      cases hb : b.toList.isEmpty with
      | true =>
        go_enter Tryz.func94, Tryz.ntmps94
        go_wp2_with (go_at_call 95; refine (HC.out _).mono ?_; rintro e w' ⟨rfl, nq, rfl⟩)
        go_ret
        exact ⟨rfl, nq, rfl⟩
      | false =>
        go_enter Tryz.func94, Tryz.ntmps94
        go_wp2_with (go_at_call 95; refine (HC.out _).mono ?_; rintro e w' ⟨rfl, nq, rfl⟩)
        refine (H1.out _).mono ?_
        rintro e w' ⟨rfl, rfl⟩
        go_wp2_with fail
        refine (H2.out _).mono ?_
        rintro e w' ⟨rfl, rfl⟩
        go_wp2
        go_ret
        exact ⟨rfl, nq, rfl⟩
    | false =>
      go_enter Tryz.func94, Tryz.ntmps94
      go_wp2_with (go_at_call 95; refine (HC.out _).mono ?_; rintro e w' ⟨rfl, nq, rfl⟩)
      refine (H1.out _).mono ?_
      rintro e w' ⟨rfl, rfl⟩
      go_wp2_with fail
      refine (H2.out _).mono ?_
      rintro e w' ⟨rfl, rfl⟩
      go_wp2
      go_ret
      exact ⟨rfl, nq, rfl⟩
  | false =>
    have h1 := fun w => allLetters_any a w hA
    rw [hl] at h1
    have H1 : Hid (∀ w, Calls Tryz.prog 126 #[.string a] w fun e w' => e = .returned (.bool false) ∧ w' = w) := h1
    clear h1 hl
    have e1 : ∀ x y : Bool, (!x && (false && y)) = false := by decide
    rw [e1]
    clear e1
    cases c with
    | true =>
      cases hb : b.toList.isEmpty with
      | true =>
        go_enter Tryz.func94, Tryz.ntmps94
        go_wp2_with (go_at_call 95; refine (HC.out _).mono ?_; rintro e w' ⟨rfl, nq, rfl⟩)
        go_ret
        exact ⟨rfl, nq, rfl⟩
      | false =>
        go_enter Tryz.func94, Tryz.ntmps94
        go_wp2_with (go_at_call 95; refine (HC.out _).mono ?_; rintro e w' ⟨rfl, nq, rfl⟩)
        refine (H1.out _).mono ?_
        rintro e w' ⟨rfl, rfl⟩
        go_wp2
        go_ret
        exact ⟨rfl, nq, rfl⟩
    | false =>
      go_enter Tryz.func94, Tryz.ntmps94
      go_wp2_with (go_at_call 95; refine (HC.out _).mono ?_; rintro e w' ⟨rfl, nq, rfl⟩)
      refine (H1.out _).mono ?_
      rintro e w' ⟨rfl, rfl⟩
      go_wp2
      go_ret
      exact ⟨rfl, nq, rfl⟩
theorem isShape_any (s : ByteArray) (w : World) (hs : s.size ≤ maxLen) :
    Calls Tryz.prog 94 #[.string s] w fun e w' => e = .returned (.bool (shapeB s)) ∧ ∃ n, w' = w.drewN n :=
  isShape_core s (cutA s) (cutB s) (cutC s) w (Nat.le_trans (cutA_size s) hs) (Nat.le_trans (cutB_size s) hs) (fun w => cut_star s w hs)
end Go.Proofs.YtfoomgdlbkjaeaaGreat.K
namespace Go.Proofs.YtfoomgdlbkjaeaaGreat.K
open Go.RowKit
set_option maxHeartbeats 400000
theorem bcell {W w1 : World} {B : Nat} (hb : Below B W w1) : (∀ b o, b < B → w1.cell? ⟨b, o, none⟩ = W.cell? ⟨b, o, none⟩) ∧ (∀ b o, b < B → w1.frozen? ⟨b, o, none⟩ = W.frozen? ⟨b, o, none⟩) :=
  ⟨fun b o h => hb.cell (p := ⟨b, o, none⟩) h, fun b o h => hb.frozen (p := ⟨b, o, none⟩) h⟩
theorem clone_any (s : ByteArray) (w : World) (hs : s.size ≤ 281474976710656) :
    Calls Tryz.prog 27 #[.string s] w fun e w' => e = .returned (.string s) ∧ Below w.heap.size w w' := by
  go_enter Tryz.func27, Tryz.ntmps27
  go_wp2_with (go_at_call 55; refine (Tryz.liteClone _ _ hs).mono ?_; rintro e w' ⟨rfl, hb⟩)
  go_ret
  exact ⟨rfl, hb⟩
theorem readText_long (n : Int) (s : ByteArray) (w : World) (h : 100000 < n) :
    Calls Tryz.prog 141 #[.int .u64 n, .string s] w fun e w' => e = .returned (.tuple #[.agg #[.int .i64 0, .int .u64 0, .string ⟨#[]⟩], .string ⟨#[]⟩, .int .i64 3]) ∧ Below w.heap.size w w' := by
  go_enter Tryz.func141, Tryz.ntmps141
  go_wp2
  refine bodyPost_ret (v := .tuple #[.agg #[.int .i64 0, .int .u64 0, .string ⟨#[]⟩], .string ⟨#[]⟩, .int .i64 3]) (by simp [results, Tryz.results141, go_sem]) rfl ⟨rfl, ?_⟩
  exact (Below.refl _ _).alloc (Nat.le_refl _) _
theorem readText_short (n : Nat) (s : ByteArray) (w : World) (h : n ≤ 100000) (h2 : s.size < n) :
    Calls Tryz.prog 141 #[.int .u64 n, .string s] w fun e w' => e = .returned (.tuple #[.agg #[.int .i64 0, .int .u64 0, .string ⟨#[]⟩], .string ⟨#[]⟩, .int .i64 2]) ∧ Below w.heap.size w w' := by
  go_enter Tryz.func141, Tryz.ntmps141
  go_wp2
  refine bodyPost_ret (v := .tuple #[.agg #[.int .i64 0, .int .u64 0, .string ⟨#[]⟩], .string ⟨#[]⟩, .int .i64 2]) (by simp [results, Tryz.results141, go_sem]) rfl ⟨rfl, ?_⟩
  exact (Below.refl _ _).alloc (Nat.le_refl _) _
theorem readText_ok (n : Nat) (s : ByteArray) (w : World) (_hs : s.size ≤ maxLen) (h : n ≤ 100000) (h2 : n ≤ s.size) :
    Calls Tryz.prog 141 #[.int .u64 n, .string s] w fun e w' => e = .returned (.tuple #[.agg #[.int .i64 4, .int .u64 0, .string (s.extract 0 n)], .string (s.extract n s.size), .int .i64 0]) ∧ Below w.heap.size w w' := by
  unfold maxLen at _hs
  go_enter Tryz.func141, Tryz.ntmps141
  go_wp2
  go_region_with (go_at_call 27; refine (clone_any _ _ (by simp; omega)).mono ?_; rintro e w' ⟨rfl, hb⟩; obtain ⟨hc, hf⟩ := bcell hb; have hz := hb.size; simp only [World.size_drew, World.size_alloc] at hz hc hf; have c0 := hc w.heap.size 0 (by omega); have c1 := hc w.heap.size 1 (by omega); have c2 := hc w.heap.size 2 (by omega); have f0 := hf w.heap.size 0 (by omega); have f1 := hf w.heap.size 1 (by omega); have f2 := hf w.heap.size 2 (by omega); clear hc hf)
  simp at c0 c1 c2
  go_wp2
  refine bodyPost_ret (v := .tuple #[.agg #[.int .i64 4, .int .u64 0, .string (s.extract 0 n)], .string (s.extract n s.size), .int .i64 0]) (by simp [results, Tryz.results141, go_sem, c0, c1, c2]) rfl ⟨rfl, ?_⟩
  have hb1 : Below w.heap.size w w' := ((Below.refl _ _).alloc (Nat.le_refl _) _).drew.trans (hb.mono (by simp))
  exact ((hb1.setCell (p := ⟨w.heap.size, 0, none⟩) (Nat.le_refl _) _).setCell (p := ⟨w.heap.size, 1, none⟩) (Nat.le_refl _) _).setCell (p := ⟨w.heap.size, 2, none⟩) (Nat.le_refl _) _
def It.v (x : It) : Value := .agg #[.int .i64 x.k, .int .u64 x.n, .string x.s]
def textG (n : Nat) (s : ByteArray) : It × ByteArray × Int :=
  if 100000 < n then (It.zero, ⟨#[]⟩, 3) else if s.size < n then (It.zero, ⟨#[]⟩, 2) else (⟨4, 0, s.extract 0 n⟩, s.extract n s.size, 0)
theorem readText_any (n : Nat) (s : ByteArray) (w : World) (hs : s.size ≤ maxLen) :
    Calls Tryz.prog 141 #[.int .u64 n, .string s] w fun e w' => e = .returned (.tuple #[(textG n s).1.v, .string (textG n s).2.1, .int .i64 (textG n s).2.2]) ∧ Below w.heap.size w w' := by
  unfold textG
  by_cases h : 100000 < n
  · rw [if_pos h]; exact readText_long n s w (by omega)
  · rw [if_neg h]
    by_cases h2 : s.size < n
    · rw [if_pos h2]; exact readText_short n s w (by omega) h2
    · rw [if_neg h2]; exact readText_ok n s w hs (by omega) (by omega)
def itemG (k : Int) (z : Nat) (s : ByteArray) : It × ByteArray × Int :=
  if s.size < z then (It.zero, ⟨#[]⟩, 2)
  else if k = 4 then textG (Lib.beNat (s.extract 0 z).data.toList) (s.extract z s.size)
  else (⟨k, Lib.beNat (s.extract 0 z).data.toList, ⟨#[]⟩⟩, s.extract z s.size, 0)
end Go.Proofs.YtfoomgdlbkjaeaaGreat.K
namespace Go.Proofs.YtfoomgdlbkjaeaaGreat.K
open Go.RowKit
set_option maxHeartbeats 400000
theorem readItem_short (c : UInt8) (k : Int) (z : Nat) (s : ByteArray) (w : World)
    (HK : Hid (∀ w, Calls Tryz.prog 138 #[.string { data := #[98, 119, 108, 116] }, .int .u8 (c.toNat : Int)] w fun e w' => e = .returned (.int .i64 (k - 1)) ∧ w' = w))
    (HW : Hid (∀ w, Calls Tryz.prog 70 #[.int .i64 k] w fun e w' => e = .returned (.int .i64 z) ∧ w' = w))
    (k0 : 0 ≤ k) (k4 : k ≤ 4) (h : s.size < z) (_hz : z ≤ 8) :
    Calls Tryz.prog 128 #[.int .u8 (c.toNat : Int), .string s] w fun e w' => e = .returned (.tuple #[It.zero.v, .string ⟨#[]⟩, .int .i64 2]) ∧ Below w.heap.size w w' := by
  go_enter Tryz.func128, Tryz.ntmps128
  go_wp2_with fail
  refine (HK.out _).mono ?_
  rintro e w' ⟨rfl, rfl⟩
  go_wp2_with fail
  refine (HW.out _).mono ?_
  rintro e w' ⟨rfl, rfl⟩
  go_wp2
  refine bodyPost_ret (v := .tuple #[.agg #[.int .i64 0, .int .u64 0, .string ⟨#[]⟩], .string ⟨#[]⟩, .int .i64 2]) (by simp [results, Tryz.results128, go_sem]) rfl ⟨rfl, ?_⟩
  exact (Below.refl _ _).alloc (Nat.le_refl _) _
theorem below3 {w w1 : World} {B : Nat} (hb : Below B w w1) (b : Nat) (h : B ≤ b) (v0 v1 v2 : Value) :
    Below B w (((w1.setCell ⟨b, 0, none⟩ v0).setCell ⟨b, 1, none⟩ v1).setCell ⟨b, 2, none⟩ v2) :=
  ((hb.setCell (p := ⟨b, 0, none⟩) h _).setCell (p := ⟨b, 1, none⟩) h _).setCell (p := ⟨b, 2, none⟩) h _
theorem num_ok (s : ByteArray) (z : Nat) (hz : z ≤ 8) : (s.extract 0 z).size ≤ 8 := by simp; omega
theorem readItem_num (c : UInt8) (k : Int) (z : Nat) (s : ByteArray) (w : World) (_hs : s.size ≤ maxLen)
    (HK : Hid (∀ w, Calls Tryz.prog 138 #[.string { data := #[98, 119, 108, 116] }, .int .u8 (c.toNat : Int)] w fun e w' => e = .returned (.int .i64 (k - 1)) ∧ w' = w))
    (HW : Hid (∀ w, Calls Tryz.prog 70 #[.int .i64 k] w fun e w' => e = .returned (.int .i64 z) ∧ w' = w))
    (k0 : 0 ≤ k) (k4 : k < 4) (h : z ≤ s.size) (hz : z ≤ 8) :
    Calls Tryz.prog 128 #[.int .u8 (c.toNat : Int), .string s] w fun e w' => e = .returned (.tuple #[It.v ⟨k, Lib.beNat (s.extract 0 z).data.toList, ⟨#[]⟩⟩, .string (s.extract z s.size), .int .i64 0]) ∧ Below w.heap.size w w' := by
  unfold maxLen at _hs
  have kne : (k == 4) = false := beq_eq_false_iff_ne.2 (by omega)
  have HN : Hid (∀ w, Calls Tryz.prog 140 #[.string (s.extract 0 z)] w fun e w' => e = .returned (.int .u64 (Lib.beNat (s.extract 0 z).data.toList)) ∧ w' = w) := fun w => number_any _ w (num_ok s z hz)
  generalize Lib.beNat (s.extract 0 z).data.toList = m at HN ⊢
  go_enter Tryz.func128, Tryz.ntmps128
  go_wp2_with fail
  refine (HK.out _).mono ?_
  rintro e w' ⟨rfl, rfl⟩
  go_wp2_with fail
  refine (HW.out _).mono ?_
  rintro e w' ⟨rfl, rfl⟩
  go_wp2
  go_quiet ((go_at_call 140; exact Calls.quiet_of_same (HN.out _)))
  go_wp2
  refine bodyPost_ret (v := .tuple #[It.v ⟨k, m, ⟨#[]⟩⟩, .string (s.extract z s.size), .int .i64 0]) (by simp [results, Tryz.results128, go_sem, It.v]) rfl ⟨rfl, ?_⟩
  exact below3 (below_drewN ((Below.refl _ _).alloc (Nat.le_refl _) _) nq) _ (Nat.le_refl _) _ _ _
theorem readItem_text (c : UInt8) (z : Nat) (s : ByteArray) (w : World) (hs : s.size ≤ maxLen)
    (HK : Hid (∀ w, Calls Tryz.prog 138 #[.string { data := #[98, 119, 108, 116] }, .int .u8 (c.toNat : Int)] w fun e w' => e = .returned (.int .i64 3) ∧ w' = w))
    (HW : Hid (∀ w, Calls Tryz.prog 70 #[.int .i64 4] w fun e w' => e = .returned (.int .i64 z) ∧ w' = w))
    (h : z ≤ s.size) (hz : z ≤ 8) :
    Calls Tryz.prog 128 #[.int .u8 (c.toNat : Int), .string s] w fun e w' => e = .returned (.tuple #[(textG (Lib.beNat (s.extract 0 z).data.toList) (s.extract z s.size)).1.v, .string (textG (Lib.beNat (s.extract 0 z).data.toList) (s.extract z s.size)).2.1, .int .i64 (textG (Lib.beNat (s.extract 0 z).data.toList) (s.extract z s.size)).2.2]) ∧ Below w.heap.size w w' := by
  have HT : Hid (∀ (n : Nat) (w : World), Calls Tryz.prog 141 #[.int .u64 n, .string (s.extract z s.size)] w fun e w' => e = .returned (.tuple #[(textG n (s.extract z s.size)).1.v, .string (textG n (s.extract z s.size)).2.1, .int .i64 (textG n (s.extract z s.size)).2.2]) ∧ Below w.heap.size w w') := fun n w => readText_any n _ w (by simp; omega)
  unfold maxLen at hs
  have HN : Hid (∀ w, Calls Tryz.prog 140 #[.string (s.extract 0 z)] w fun e w' => e = .returned (.int .u64 (Lib.beNat (s.extract 0 z).data.toList)) ∧ w' = w) := fun w => number_any _ w (num_ok s z hz)
  generalize Lib.beNat (s.extract 0 z).data.toList = m at HN ⊢
  have HT1 := HT.out m
  clear HT
  generalize textG m (s.extract z s.size) = r at HT1 ⊢
  obtain ⟨⟨rk, rn, rs⟩, rr, re⟩ := r
  have HT : Hid (∀ (w : World), Calls Tryz.prog 141 #[.int .u64 m, .string (s.extract z s.size)] w fun e w' => e = .returned (.tuple #[.agg #[.int .i64 rk, .int .u64 rn, .string rs], .string rr, .int .i64 re]) ∧ Below w.heap.size w w') := HT1
  clear HT1
  go_enter Tryz.func128, Tryz.ntmps128
  go_wp2_with fail
  refine (HK.out _).mono ?_
  rintro e w' ⟨rfl, rfl⟩
  go_wp2_with fail
  refine (HW.out _).mono ?_
  rintro e w' ⟨rfl, rfl⟩
  go_wp2
  go_quiet ((go_at_call 140; exact Calls.quiet_of_same (HN.out _)))
  go_wp2_with fail
  refine (HT.out _).mono ?_
  rintro e w' ⟨rfl, hb⟩
  have hz1 := hb.size
  obtain ⟨hc, hf⟩ := bcell hb
  simp at hz1 hc hf
  have c0 := hc w.heap.size 0 (by omega)
  have c1 := hc w.heap.size 1 (by omega)
  have c2 := hc w.heap.size 2 (by omega)
  have f0 := hf w.heap.size 0 (by omega)
  have f1 := hf w.heap.size 1 (by omega)
  have f2 := hf w.heap.size 2 (by omega)
  clear hc hf
  simp at c0 c1 c2 f0 f1 f2
  go_wp2
  refine bodyPost_ret (v := .tuple #[.agg #[.int .i64 rk, .int .u64 rn, .string rs], .string rr, .int .i64 re]) (by simp [results, Tryz.results128, go_sem, c0, c1, c2]) rfl ⟨rfl, ?_⟩
  have hb1 : Below w.heap.size w w' := (below_drewN ((Below.refl _ _).alloc (Nat.le_refl _) _) nq).trans (hb.mono (by simp))
  exact below3 hb1 _ (Nat.le_refl _) _ _ _
theorem widthN_le (k : Int) : widthN k ≤ 8 := by
  unfold widthN
  split
  · omega
  · split <;> omega
theorem readItem_any (c : UInt8) (s : ByteArray) (w : World) (hs : s.size ≤ maxLen) :
    Calls Tryz.prog 128 #[.int .u8 (c.toNat : Int), .string s] w fun e w' => e = .returned (.tuple #[(itemG (kindOfL c) (widthN (kindOfL c)) s).1.v, .string (itemG (kindOfL c) (widthN (kindOfL c)) s).2.1, .int .i64 (itemG (kindOfL c) (widthN (kindOfL c)) s).2.2]) ∧ Below w.heap.size w w' := by
  have k0 := kindOfL_ge c
  have k4 := kindOfL_le c
  have HK := fun w => letterIdx c w
  have HW := fun w => width_any (kindOfL c) w
  have hz := widthN_le (kindOfL c)
  generalize widthN (kindOfL c) = z at *
  generalize kindOfL c = k at *
  unfold itemG
  by_cases h : s.size < z
  · rw [if_pos h]; exact readItem_short c k z s w HK HW k0 k4 h hz
  · rw [if_neg h]
    by_cases h4 : k = 4
    · subst h4
      rw [if_pos rfl]; exact readItem_text c z s w hs HK HW (by omega) hz
    · rw [if_neg h4]; exact readItem_num c k z s w hs HK HW k0 (by omega) (by omega) hz
theorem itemG_eq (c : UInt8) (s : ByteArray) :
    (itemG (kindOfL c) (widthN (kindOfL c)) s).1 = (itemF c s.data.toList).1 ∧ (itemG (kindOfL c) (widthN (kindOfL c)) s).2.1.data.toList = (itemF c s.data.toList).2.1 ∧ (itemG (kindOfL c) (widthN (kindOfL c)) s).2.2 = (itemF c s.data.toList).2.2 := by
  unfold itemG itemF textG
  have e0 : s.data.toList.length = s.size := by simp
  have e1 : ∀ z, (s.extract 0 z).data.toList = s.data.toList.take z := fun z => by rw [Lib.extract_data]; simp
  have e2 : ∀ z, (s.extract z s.size).data.toList = s.data.toList.drop z := fun z => Lib.extract_to_end s z
  have e3 : ∀ z, (s.extract z s.size).size = (s.data.toList.drop z).length := fun z => by rw [← e2]; simp
  rw [e0]
  by_cases h : s.size < widthN (kindOfL c)
  · simp [h]
  · rw [if_neg h, if_neg h]
    by_cases h4 : kindOfL c = 4
    · rw [if_pos h4, if_pos h4, h4]
      have w4 : widthN 4 = 4 := rfl
      rw [w4, e1, e3]
      by_cases h5 : 100000 < Lib.beNat (s.data.toList.take 4)
      · simp [h5]
      · rw [if_neg h5, if_neg h5]
        by_cases h6 : (s.data.toList.drop 4).length < Lib.beNat (s.data.toList.take 4)
        · rw [if_pos h6, if_pos h6]; simp
        · rw [if_neg h6, if_neg h6]
          refine ⟨?_, ?_, rfl⟩
          · simp only [It.mk.injEq, true_and]
            rw [Lib.extract_eq, e2]; simp
          · show ((s.extract 4 s.size).extract _ _).data.toList = _
            rw [← e3, Lib.extract_to_end, e2]
    · rw [if_neg h4, if_neg h4, e1]
      exact ⟨rfl, e2 _, rfl⟩
end Go.Proofs.YtfoomgdlbkjaeaaGreat.K
