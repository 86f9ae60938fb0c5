/-
  The program's small functions, as they run (mkc2.py)
-/
import Derived.Test.YtominplelmbecaaZGT
import Derived.Test.YtominplelmbecaaZGM
namespace Go.Proofs.Ytominplelmbecaa
open Go.RowKit

set_option linter.unusedSimpArgs false
set_option linter.unusedVariables false
set_option maxHeartbeats 1000000 in
theorem pletter (b : Nat) (hb : b < 256) (w : World) :
    Calls Try.prog 48 #[.int .u8 (b : Int)] w fun e w' => e = .returned (.bool (letB b)) ∧ w' = w := by
  by_cases h1 : (97 : Int) ≤ (b : Int)
  · by_cases h2 : (b : Int) ≤ 122
    · by_cases h3 : (48 : Int) ≤ (b : Int)
      · by_cases h4 : (b : Int) ≤ 57
        · exfalso
          omega
        · have hk : (letB b) = true := by
            simp [letB]
            try omega
          rw [hk]
          clear hk
          go_enter Try.func48, Try.ntmps48
          go_wp2
          go_ret
          exact ⟨rfl, rfl⟩
      · by_cases h4 : (b : Int) ≤ 57
        · exfalso
          omega
        · exfalso
          omega
    · by_cases h3 : (48 : Int) ≤ (b : Int)
      · by_cases h4 : (b : Int) ≤ 57
        · exfalso
          omega
        · have hk : (letB b) = false := by
            simp [letB]
            try omega
          rw [hk]
          clear hk
          go_enter Try.func48, Try.ntmps48
          go_wp2
          go_ret
          exact ⟨rfl, rfl⟩
      · by_cases h4 : (b : Int) ≤ 57
        · exfalso
          omega
        · exfalso
          omega
  · by_cases h2 : (b : Int) ≤ 122
    · by_cases h3 : (48 : Int) ≤ (b : Int)
      · by_cases h4 : (b : Int) ≤ 57
        · have hk : (letB b) = true := by
            simp [letB]
            try omega
          rw [hk]
          clear hk
          go_enter Try.func48, Try.ntmps48
          go_wp2
          go_ret
          exact ⟨rfl, rfl⟩
        · have hk : (letB b) = false := by
            simp [letB]
            try omega
          rw [hk]
          clear hk
          go_enter Try.func48, Try.ntmps48
          go_wp2
          go_ret
          exact ⟨rfl, rfl⟩
      · by_cases h4 : (b : Int) ≤ 57
        · have hk : (letB b) = false := by
            simp [letB]
            try omega
          rw [hk]
          clear hk
          go_enter Try.func48, Try.ntmps48
          go_wp2
          go_ret
          exact ⟨rfl, rfl⟩
        · exfalso
          omega
    · by_cases h3 : (48 : Int) ≤ (b : Int)
      · by_cases h4 : (b : Int) ≤ 57
        · exfalso
          omega
        · exfalso
          omega
      · by_cases h4 : (b : Int) ≤ 57
        · exfalso
          omega
        · exfalso
          omega
set_option maxHeartbeats 1000000 in
theorem pnumber (n : Int) (w : World) :
    Calls Try.prog 51 #[.int .i64 n] w fun e w' => e = .returned (.bool (greatB n)) ∧ w' = w := by
  by_cases h1 : 0 ≤ n
  · by_cases h2 : n ≤ 9007199254740991
    · have hk : (greatB n) = true := by
        simp [greatB, *]
        try omega
      rw [hk]
      clear hk
      go_enter Try.func51, Try.ntmps51
      go_wp2
      go_ret
      exact ⟨rfl, rfl⟩
    · have hk : (greatB n) = false := by
        simp [greatB, *]
        try omega
      rw [hk]
      clear hk
      go_enter Try.func51, Try.ntmps51
      go_wp2
      go_ret
      exact ⟨rfl, rfl⟩
  · by_cases h2 : n ≤ 9007199254740991
    · have hk : (greatB n) = false := by
        simp [greatB, *]
        try omega
      rw [hk]
      clear hk
      go_enter Try.func51, Try.ntmps51
      go_wp2
      go_ret
      exact ⟨rfl, rfl⟩
    · exfalso
      omega
set_option maxHeartbeats 1000000 in
theorem pnode (n : Int) (w : World) :
    Calls Try.prog 50 #[.int .i64 n] w fun e w' => e = .returned (.bool (nodeB n)) ∧ w' = w := by
  by_cases h1 : 0 ≤ n
  · by_cases h2 : n < 7
    · have hk : (nodeB n) = true := by
        simp [nodeB, *]
        try omega
      rw [hk]
      clear hk
      go_enter Try.func50, Try.ntmps50
      go_wp2
      go_ret
      exact ⟨rfl, rfl⟩
    · have hk : (nodeB n) = false := by
        simp [nodeB, *]
        try omega
      rw [hk]
      clear hk
      go_enter Try.func50, Try.ntmps50
      go_wp2
      go_ret
      exact ⟨rfl, rfl⟩
  · by_cases h2 : n < 7
    · have hk : (nodeB n) = false := by
        simp [nodeB, *]
        try omega
      rw [hk]
      clear hk
      go_enter Try.func50, Try.ntmps50
      go_wp2
      go_ret
      exact ⟨rfl, rfl⟩
    · exfalso
      omega
set_option maxHeartbeats 1000000 in
theorem pmany (n : Int) (w : World) :
    Calls Try.prog 70 #[.int .i64 n] w fun e w' => e = .returned (.bool ((decide (1 ≤ n) && decide (n ≤ 50)))) ∧ w' = w := by
  by_cases h1 : 1 ≤ n
  · by_cases h2 : n ≤ 50
    · have hk : ((decide (1 ≤ n) && decide (n ≤ 50))) = true := by
        simp [*]
        try omega
      rw [hk]
      clear hk
      go_enter Try.func70, Try.ntmps70
      go_wp2
      go_ret
      exact ⟨rfl, rfl⟩
    · have hk : ((decide (1 ≤ n) && decide (n ≤ 50))) = false := by
        simp [*]
        try omega
      rw [hk]
      clear hk
      go_enter Try.func70, Try.ntmps70
      go_wp2
      go_ret
      exact ⟨rfl, rfl⟩
  · by_cases h2 : n ≤ 50
    · have hk : ((decide (1 ≤ n) && decide (n ≤ 50))) = false := by
        simp [*]
        try omega
      rw [hk]
      clear hk
      go_enter Try.func70, Try.ntmps70
      go_wp2
      go_ret
      exact ⟨rfl, rfl⟩
    · exfalso
      omega
set_option maxHeartbeats 1000000 in
theorem pnonum (n : Int) (w : World) :
    Calls Try.prog 66 #[.int .i64 n] w fun e w' => e = .returned (.bool (n == 0)) ∧ w' = w := by
  go_enter Try.func66, Try.ntmps66
  go_wp2
  go_ret
  exact ⟨rfl, rfl⟩
set_option maxHeartbeats 1000000 in
theorem pkey (s : ByteArray) (h63 : s.size ≤ 9223372036854775807) (w : World) :
    Calls Try.prog 67 #[.string s] w fun e w' => e = .returned (.bool (decide (s.size ≤ 100))) ∧ w' = w := by
  by_cases h1 : (s.size : Int) ≤ 100
  · have hk : (decide (s.size ≤ 100)) = true := by
      simp []
      try omega
    rw [hk]
    clear hk
    go_enter Try.func67, Try.ntmps67
    go_wp2
    go_ret
    exact ⟨rfl, rfl⟩
  · have hk : (decide (s.size ≤ 100)) = false := by
      simp []
      try omega
    rw [hk]
    clear hk
    go_enter Try.func67, Try.ntmps67
    go_wp2
    go_ret
    exact ⟨rfl, rfl⟩
set_option maxHeartbeats 1000000 in
theorem pvalue (s : ByteArray) (h63 : s.size ≤ 9223372036854775807) (w : World) :
    Calls Try.prog 68 #[.string s] w fun e w' => e = .returned (.bool (decide (s.size ≤ 1000))) ∧ w' = w := by
  by_cases h1 : (s.size : Int) ≤ 1000
  · have hk : (decide (s.size ≤ 1000)) = true := by
      simp []
      try omega
    rw [hk]
    clear hk
    go_enter Try.func68, Try.ntmps68
    go_wp2
    go_ret
    exact ⟨rfl, rfl⟩
  · have hk : (decide (s.size ≤ 1000)) = false := by
      simp []
      try omega
    rw [hk]
    clear hk
    go_enter Try.func68, Try.ntmps68
    go_wp2
    go_ret
    exact ⟨rfl, rfl⟩
theorem empty_list {s : ByteArray} : s.toList.isEmpty = (s.size == 0) := by
  have e : s.toList = s.data.toList := by rw [ByteArray.toList_eq]
  rw [e, ← size_listC]
  cases s.data.toList <;> rfl
set_option maxHeartbeats 1000000 in
theorem pnotext (s : ByteArray) (w : World) :
    Calls Try.prog 65 #[.string s] w fun e w' => e = .returned (.bool (s.size == 0)) ∧ w' = w := by
  have hE := @empty_list s
  by_cases h : s.size = 0
  · have h1 : (s.size == 0) = true := by simpa using h
    rw [h1] at hE ⊢
    go_enter Try.func65, Try.ntmps65
    go_wp2
    go_ret
    exact ⟨rfl, rfl⟩
  · have h1 : (s.size == 0) = false := by simpa using h
    rw [h1] at hE ⊢
    go_enter Try.func65, Try.ntmps65
    go_wp2
    go_ret
    exact ⟨rfl, rfl⟩
def minusB (n : Int) : Bool := n == -1 || greatB n
set_option maxHeartbeats 1000000 in
theorem pminus (n : Int) (w : World) :
    Calls Try.prog 69 #[.int .i64 n] w fun e w' => e = .returned (.bool (minusB n)) ∧ w' = w := by
  have HN := hide (pnumber n)
  by_cases h : n = -1
  · subst h
    go_enter Try.func69, Try.ntmps69
    go_wp2
    go_ret
    exact ⟨rfl, rfl⟩
  · have h1 : (n == -1) = false := by simpa using h
    have h2 : minusB n = greatB n := by unfold minusB; rw [h1]; rfl
    rw [h2]
    generalize greatB n = g at *
    go_enter Try.func69, Try.ntmps69
    go_wp2_with (go_at_call 51; refine (HN.out _).mono ?_; rintro e w' ⟨rfl, rfl⟩)
    go_ret
    exact ⟨rfl, rfl⟩
theorem take_snocC (s : ByteArray) (k : Nat) (h : k < s.size) : s.data.toList.take (k + 1) = s.data.toList.take k ++ [s[k]] := by
  have hl : k < s.data.toList.length := by simpa using h
  have : s[k] = s.data.toList[k] := rfl
  rw [this, List.take_add_one, List.getElem?_eq_getElem hl]
  rfl
theorem word_short {s : ByteArray} (h : s.size = 0) : wordB s = false := by
  unfold wordB wordL
  rw [size_listC, h]
  rfl
theorem word_long {s : ByteArray} (h : 20 < s.size) : wordB s = false := by
  unfold wordB wordL
  rw [size_listC, decide_eq_false (show ¬ s.size ≤ 20 by omega)]
  simp
theorem word_bad {s : ByteArray} {k : Nat} (h : k < s.size) (hb : letB s[k].toNat = false) : wordB s = false := by
  have : (s.data.toList.all fun b => letB b.toNat) = false := by
    rw [List.all_eq_false]
    exact ⟨s[k], List.getElem_mem _, by rw [hb]; simp⟩
  unfold wordB wordL
  rw [this]
  simp
theorem word_good {s : ByteArray} (h1 : s.size ≠ 0) (h2 : s.size ≤ 20) (h : (s.data.toList.all fun b => letB b.toNat) = true) : wordB s = true := by
  unfold wordB wordL
  rw [h, size_listC, decide_eq_true (show 1 ≤ s.size by omega), decide_eq_true h2]
  rfl
set_option maxHeartbeats 2000000 in
theorem pword (s : ByteArray) (h63 : s.size ≤ 9223372036854775807) (w : World) :
    Calls Try.prog 30 #[.string s] w fun e w' => e = .returned (.bool (wordB s)) ∧ w' = w := by
  have hE := @empty_list s
  by_cases h : s.size = 0
  · have h1 : (s.size == 0) = true := by simpa using h
    rw [h1] at hE
    rw [word_short h]
    clear h h1
    go_enter Try.func30, Try.ntmps30
    go_wp2
    go_ret
    exact ⟨rfl, rfl⟩
  · have h1 : (s.size == 0) = false := by simpa using h
    rw [h1] at hE
    by_cases h2 : (s.size : Int) > 20
    · rw [word_long (by omega)]
      clear h h1
      go_enter Try.func30, Try.ntmps30
      go_wp2
      go_ret
      exact ⟨rfl, rfl⟩
    · have HG := hide (fun hh => word_good h (by omega) hh)
      have HB := hide (fun k (hk : k < s.size) hb => word_bad (s := s) hk hb)
      have HW := hide (fun b hb => pletter b hb)
      have hle : (s.size : Int) ≤ 20 := by omega
      generalize wordB s = r at *
      clear h h1
      go_enter Try.func30, Try.ntmps30
      go_wp2
      go_loopw [13] (fun iv wv => ∃ k : Nat, k ≤ s.size ∧ iv = .int .i64 k ∧ wv = w ∧ Hid (((s.data.toList.take k).all fun b => letB b.toNat) = true)) (fun iv _ => s.size - (intOf iv).toNat)
      case atStart => exact ⟨0, Nat.zero_le _, rfl, rfl, rfl⟩
      case round =>
        obtain ⟨k, hk, rfl, rfl, HJ⟩ := hrel
        by_cases hlt : k < s.size
        · have hlt2 : (k : Int) < (s.size : Int) := by omega
          have HX : Hid (letB s[k].toNat = true → ((s.data.toList.take (k + 1)).all fun b => letB b.toNat) = true) := fun hb => by
            rw [take_snocC s k hlt, List.all_append, HJ.out]
            simp [hb]
          have HY := hide (HB.out k hlt)
          have HP := hide (HW.out s[k].toNat (UInt8.toNat_lt s[k]))
          clear HB HW HJ
          by_cases hb : letB s[k].toNat = true
          · rw [hb] at HP
            have HZ := hide (HX.out hb)
            clear hb HX HY
            go_wp2_with (go_at_call 48; refine (HP.out _).mono ?_; rintro e w' ⟨rfl, rfl⟩)
            exact ⟨⟨k + 1, by omega, by go_num, trivial, HZ⟩, by simp [intOf]; omega⟩
          · rw [Bool.not_eq_true] at hb
            rw [hb] at HP
            have HR := hide (HY.out hb)
            clear hb HX HY
            go_wp2_with fail
            refine (HP.out _).mono ?_
            rintro e w' ⟨rfl, rfl⟩
            go_wp2
            go_ret
            exact ⟨by rw [HR.out]; rfl, rfl⟩
        · have hlt2 : ¬ (k : Int) < (s.size : Int) := by omega
          have e : s.data.toList.take k = s.data.toList := List.take_of_length_le (by simp; omega)
          have HR := hide (HG.out (by have := HJ.out; rwa [e] at this))
          clear e HJ HB HW HG
          go_wp2
          go_ret
          exact ⟨by rw [HR.out]; rfl, rfl⟩
end Go.Proofs.Ytominplelmbecaa
