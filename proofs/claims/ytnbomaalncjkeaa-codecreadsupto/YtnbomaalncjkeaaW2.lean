import Derived.Test.YtnbomaalncjkeaaW1
namespace Go.Proofs.Ytnbomaalncjkeaa
open Go.RowKit

def starI (s : ByteArray) : Int := Lib.indexByte s.data.toList 42
def cutA (s : ByteArray) : ByteArray := if starI s < 0 then s else s.extract 0 (starI s).toNat
def cutB (s : ByteArray) : ByteArray := if starI s < 0 then ⟨#[]⟩ else s.extract ((starI s).toNat + 1) s.size
def cutC (s : ByteArray) : Bool := decide (0 ≤ starI s)

theorem cutA_list (s : ByteArray) : (cutA s).data.toList = (cutStar s.data.toList).1 := by
  unfold cutA cutStar starI
  by_cases h : Lib.indexByte s.data.toList 42 < 0
  · simp [h]
  · rw [if_neg h, if_neg h, Lib.extract_data]; simp
theorem cutB_list (s : ByteArray) : (cutB s).data.toList = (cutStar s.data.toList).2.1 := by
  unfold cutB cutStar starI
  by_cases h : Lib.indexByte s.data.toList 42 < 0
  · simp [h]
  · rw [if_neg h, if_neg h, Lib.extract_to_end]
theorem cutC_list (s : ByteArray) : cutC s = (cutStar s.data.toList).2.2 := by
  unfold cutC cutStar starI
  by_cases h : Lib.indexByte s.data.toList 42 < 0
  · rw [if_pos h]; simp; omega
  · rw [if_neg h]; simp; omega
theorem cutA_size (s : ByteArray) : (cutA s).size ≤ s.size := by
  unfold cutA; split
  · exact Nat.le_refl _
  · simp; omega
theorem cutB_size (s : ByteArray) : (cutB s).size ≤ s.size := by
  unfold cutB; split
  · exact Nat.zero_le _
  · simp

theorem starI_eq (s : ByteArray) (h : ([42] == s.toList) = true) : starI s = 0 := by
  have e : s.toList = [42] := by simpa using (beq_iff_eq.1 h).symm
  unfold starI
  rw [← Lib.toList_data, e]; rfl
theorem starI_lt (s : ByteArray) : starI s < s.size ∨ starI s < 0 := by
  unfold starI
  by_cases h : Lib.indexByte s.data.toList 42 < 0
  · exact Or.inr h
  · obtain ⟨o, ho⟩ : ∃ o : Nat, Lib.indexByte s.data.toList 42 = o := ⟨(Lib.indexByte s.data.toList 42).toNat, by omega⟩
    have h1 := (Lib.indexByte_some ho).1
    obtain ⟨h2, _⟩ := List.getElem?_eq_some_iff.1 h1
    left
    rw [ho]
    have : o < s.size := by simpa using h2
    omega

set_option maxHeartbeats 400000 in
theorem index_star (s : ByteArray) (w : World) :
    Calls Try.prog 48 #[.string s, .string { data := #[42] }] w fun e w' => e = .returned (.int .i64 (starI s)) ∧ w' = w := by
  go_enter Try.func48, Try.ntmps48
  go_wp2_with (go_at_call 57; refine (Try.liteIndexByte _ _ _).mono ?_; rintro e w' ⟨rfl, rfl⟩)
  · go_ret
    exact ⟨ret_int (starI_eq s ‹_›).symm, rfl⟩
  · go_ret
    exact ⟨rfl, rfl⟩

theorem ret3 {a a' b b' c c' : Value} (h1 : a = a') (h2 : b = b') (h3 : c = c') : Ending.returned (.tuple #[a, b, c]) = .returned (.tuple #[a', b', c']) := by rw [h1, h2, h3]

set_option maxHeartbeats 400000 in
theorem liteCut_star (s : ByteArray) (w : World) (hs : s.size ≤ maxLen) :
    Calls Try.prog 46 #[.string s, .string { data := #[42] }] w fun e w' => e = .returned (.tuple #[.string (cutA s), .string (cutB s), .bool (cutC s)]) ∧ ∃ n, w' = w.drewN n := by
  unfold maxLen at hs
  by_cases h : starI s < 0
  · have eA : cutA s = s := by simp [cutA, h]
    have eB : cutB s = ⟨#[]⟩ := by simp [cutB, h]
    have eC : cutC s = false := by simp [cutC]; omega
    rw [eA, eB, eC]
    clear eA eB eC
    go_enter Try.func46, Try.ntmps46
    go_wp2_with (go_at_call 48; refine (index_star _ _).mono ?_; rintro e w' ⟨rfl, rfl⟩)
    go_ret3
    exact ⟨rfl, 0, rfl⟩
  · obtain ⟨i, hi⟩ : ∃ i : Nat, starI s = i := ⟨(starI s).toNat, by omega⟩
    have hlt : i < s.size := by rcases starI_lt s with h' | h' <;> omega
    have eA : cutA s = s.extract 0 i := by rw [cutA, if_neg h, hi]; simp
    have eB : cutB s = s.extract (i + 1) s.size := by rw [cutB, if_neg h, hi]; simp
    have eC : cutC s = true := by simp [cutC]; omega
    have hix := fun w => index_star s w
    rw [hi] at hix
    have HX : Hid (∀ w, Calls Try.prog 48 #[.string s, .string { data := #[42] }] w fun e w' => e = .returned (.int .i64 i) ∧ w' = w) := hix
    rw [eA, eB, eC]
    clear eA eB eC hi h hix
    go_enter Try.func46, Try.ntmps46
    go_wp2_with (go_at_call 48; refine (HX.out _).mono ?_; rintro e w' ⟨rfl, rfl⟩)
    go_quiet (fail)
    go_wp2
    go_ret3
    exact ⟨rfl, nq, rfl⟩

set_option maxHeartbeats 400000 in
theorem cut_star (s : ByteArray) (w : World) (hs : s.size ≤ maxLen) :
    Calls Try.prog 30 #[.string s, .string { data := #[42] }] w fun e w' => e = .returned (.tuple #[.string (cutA s), .string (cutB s), .bool (cutC s)]) ∧ ∃ n, w' = w.drewN n := by
  go_enter Try.func30, Try.ntmps30
  go_wp2_with (go_at_call 46; refine (liteCut_star _ _ hs).mono ?_; rintro e w' ⟨rfl, nq, rfl⟩)
  go_ret3
  exact ⟨rfl, nq, rfl⟩

def shapeB (s : ByteArray) : Bool := !(cutC s && (cutB s).toList.isEmpty) && (allL (cutA s).data.toList && allL (cutB s).data.toList)

theorem shapeB_eq (s : ByteArray) : shapeB s = shapeOk s.data.toList := by
  unfold shapeB shapeOk
  rw [Lib.toList_data, cutC_list, cutB_list, cutA_list]

theorem drewN_drewN (w : World) (a b : Nat) : (w.drewN a).drewN b = w.drewN (a + b) := by
  simp [World.drewN, Nat.add_assoc]

set_option maxHeartbeats 400000 in
theorem isShape_core (s a b : ByteArray) (c : Bool) (w : World) (hA : a.size ≤ maxLen) (hB : b.size ≤ maxLen)
    (HC : Hid (∀ w, Calls Try.prog 30 #[.string s, .string { data := #[42] }] w fun e w' => e = .returned (.tuple #[.string a, .string b, .bool c]) ∧ ∃ n, w' = w.drewN n)) :
    Calls Try.prog 29 #[.string s] w fun e w' => e = .returned (.bool (!(c && b.toList.isEmpty) && (allL a.data.toList && allL b.data.toList))) ∧ ∃ n, w' = w.drewN n := by
  cases hl : allL a.data.toList with
  | true =>
    have h1 := fun w => allLetters_any a w hA
    have h2 := fun w => allLetters_any b w hB
    rw [hl] at h1
    have H1 : Hid (∀ w, Calls Try.prog 45 #[.string a] w fun e w' => e = .returned (.bool true) ∧ w' = w) := h1
    have H2 : Hid (∀ w, Calls Try.prog 45 #[.string b] w fun e w' => e = .returned (.bool (allL b.data.toList)) ∧ w' = w) := h2
    clear h1 h2 hl
    generalize allL b.data.toList = lb at H2 ⊢
    cases c with
    | true =>
      cases hb : b.toList.isEmpty with
      | true =>
        go_enter Try.func29, Try.ntmps29
        go_wp2_with (go_at_call 30; refine (HC.out _).mono ?_; rintro e w' ⟨rfl, nq, rfl⟩)
        go_ret
        exact ⟨rfl, nq, rfl⟩
      | false =>
        go_enter Try.func29, Try.ntmps29
        go_wp2_with (go_at_call 30; refine (HC.out _).mono ?_; rintro e w' ⟨rfl, nq, rfl⟩)
        refine (H1.out _).mono ?_
        rintro e w' ⟨rfl, rfl⟩
        go_wp2_with fail
        refine (H2.out _).mono ?_
        rintro e w' ⟨rfl, rfl⟩
        go_wp2
        go_ret
        exact ⟨rfl, nq, rfl⟩
    | false =>
      go_enter Try.func29, Try.ntmps29
      go_wp2_with (go_at_call 30; refine (HC.out _).mono ?_; rintro e w' ⟨rfl, nq, rfl⟩)
      refine (H1.out _).mono ?_
      rintro e w' ⟨rfl, rfl⟩
      go_wp2_with fail
      refine (H2.out _).mono ?_
      rintro e w' ⟨rfl, rfl⟩
      go_wp2
      go_ret
      exact ⟨rfl, nq, rfl⟩
  | false =>
    have h1 := fun w => allLetters_any a w hA
    rw [hl] at h1
    have H1 : Hid (∀ w, Calls Try.prog 45 #[.string a] w fun e w' => e = .returned (.bool false) ∧ w' = w) := h1
    clear h1 hl
    have e1 : ∀ x y : Bool, (!x && (false && y)) = false := by decide
    rw [e1]
    clear e1
    cases c with
    | true =>
      cases hb : b.toList.isEmpty with
      | true =>
        go_enter Try.func29, Try.ntmps29
        go_wp2_with (go_at_call 30; refine (HC.out _).mono ?_; rintro e w' ⟨rfl, nq, rfl⟩)
        go_ret
        exact ⟨rfl, nq, rfl⟩
      | false =>
        go_enter Try.func29, Try.ntmps29
        go_wp2_with (go_at_call 30; refine (HC.out _).mono ?_; rintro e w' ⟨rfl, nq, rfl⟩)
        refine (H1.out _).mono ?_
        rintro e w' ⟨rfl, rfl⟩
        go_wp2
        go_ret
        exact ⟨rfl, nq, rfl⟩
    | false =>
      go_enter Try.func29, Try.ntmps29
      go_wp2_with (go_at_call 30; refine (HC.out _).mono ?_; rintro e w' ⟨rfl, nq, rfl⟩)
      refine (H1.out _).mono ?_
      rintro e w' ⟨rfl, rfl⟩
      go_wp2
      go_ret
      exact ⟨rfl, nq, rfl⟩

theorem isShape_any (s : ByteArray) (w : World) (hs : s.size ≤ maxLen) :
    Calls Try.prog 29 #[.string s] w fun e w' => e = .returned (.bool (shapeB s)) ∧ ∃ n, w' = w.drewN n :=
  isShape_core s (cutA s) (cutB s) (cutC s) w (Nat.le_trans (cutA_size s) hs) (Nat.le_trans (cutB_size s) hs) (fun w => cut_star s w hs)

end Go.Proofs.Ytnbomaalncjkeaa
