import Derived.Test.YtnbomaalncjkeaaW6
namespace Go.Proofs.Ytnbomaalncjkeaa
open Go.RowKit

set_option maxHeartbeats 400000 in
theorem itemFault_kind (k n : Int) (s : ByteArray) (w : World) (hk : kindB k = false) :
    Calls Try.prog 19 #[.agg #[.int .i64 k, .int .u64 n, .string s]] w fun e w' => e = .returned (.int .i64 1) ∧ Below w.heap.size w w' := by
  have HK := hide (fun w => isKind_any k w)
  rw [hk] at HK
  clear hk
  go_enter Try.func19, Try.ntmps19
  go_wp2_with (go_at_call 25; refine (HK.out _).mono ?_; rintro e w' ⟨rfl, rfl⟩)
  go_ret
  exact ⟨rfl, (Below.refl _ _).alloc (Nat.le_refl _) _⟩

set_option maxHeartbeats 800000 in
theorem itemFault_text (n : Int) (s : ByteArray) (w : World) (hs : s.size ≤ maxLen) :
    Calls Try.prog 19 #[.agg #[.int .i64 4, .int .u64 n, .string s]] w fun e w' => e = .returned (.int .i64 (faultF ⟨4, n, s⟩)) ∧ Below w.heap.size w w' := by
  unfold maxLen at hs
  have HK := hide (fun w => isKind_any 4 w)
  have e4 : kindB 4 = true := by decide
  rw [e4] at HK
  clear e4
  by_cases hn : n = 0
  · subst hn
    by_cases hl : 100000 < s.size
    · have hf : faultF ⟨4, 0, s⟩ = 3 := by simp [faultF, kindB, hl]
      rw [hf]
      clear hf
      go_enter Try.func19, Try.ntmps19
      go_wp2_with (go_at_call 25; refine (HK.out _).mono ?_; rintro e w' ⟨rfl, rfl⟩)
      go_quiet (fail)
      go_wp2
      go_ret
      exact ⟨rfl, below_drewN ((Below.refl _ _).alloc (Nat.le_refl _) _) nq⟩
    · have hf : faultF ⟨4, 0, s⟩ = 0 := by simp [faultF, kindB, hl]
      rw [hf]
      clear hf
      go_enter Try.func19, Try.ntmps19
      go_wp2_with (go_at_call 25; refine (HK.out _).mono ?_; rintro e w' ⟨rfl, rfl⟩)
      go_quiet (fail)
      go_wp2
      go_ret
      exact ⟨rfl, below_drewN ((Below.refl _ _).alloc (Nat.le_refl _) _) nq⟩
  · have hn1 : (n != 0) = true := by rw [bne_iff_ne]; exact hn
    have hf : faultF ⟨4, n, s⟩ = 1 := by simp [faultF, kindB, hn]
    rw [hf]
    clear hf hn
    go_enter Try.func19, Try.ntmps19
    go_wp2_with (go_at_call 25; refine (HK.out _).mono ?_; rintro e w' ⟨rfl, rfl⟩)
    go_quiet (fail)
    go_wp2
    go_ret
    exact ⟨rfl, below_drewN ((Below.refl _ _).alloc (Nat.le_refl _) _) nq⟩

set_option maxHeartbeats 800000 in
theorem itemFault_num (k n : Int) (s : ByteArray) (w : World) (hs : s.size ≤ maxLen) (hk : kindB k = true) (h4 : k ≠ 4) (h0 : 0 ≤ n) :
    Calls Try.prog 19 #[.agg #[.int .i64 k, .int .u64 n, .string s]] w fun e w' => e = .returned (.int .i64 (faultF ⟨k, n, s⟩)) ∧ Below w.heap.size w w' := by
  unfold maxLen at hs
  have HK := hide (fun w => isKind_any k w)
  rw [hk] at HK
  have k4 : (k != 4) = true := by rw [bne_iff_ne]; exact h4
  have k5 : (k == 4) = false := by rw [beq_eq_false_iff_ne]; exact h4
  by_cases he : s.size = 0
  · have hse := isEmpty_of he
    have hz : widthN k = 1 ∨ widthN k = 4 ∨ widthN k = 8 := by
      unfold widthN
      split
      · omega
      · split <;> omega
    have HW := hide (fun w => width_any k w)
    have HF := hide (fun w => fits_any n (widthN k) w h0 hz)
    have hf : faultF ⟨k, n, s⟩ = if decide (n < 256 ^ widthN k) = true then 0 else 1 := by
      unfold faultF
      simp only [hk, h4, he, false_and, if_false, ne_eq, not_true, not_false_iff, false_or, true_and]
      by_cases h : n < 256 ^ widthN k
      · simp [h]
      · simp [h]
    rw [hf]
    clear hf hk h4
    generalize decide (n < 256 ^ widthN k) = fb at HF ⊢
    generalize widthN k = z at HW HF hz
    have hl : ¬ 100000 < s.size := by omega
    clear he hz
    cases fb with
    | true =>
      rw [if_pos rfl]
      go_enter Try.func19, Try.ntmps19
      go_wp2_with (go_at_call 25; refine (HK.out _).mono ?_; rintro e w' ⟨rfl, rfl⟩)
      go_quiet ((first | (go_at_call 20; exact Calls.quiet_of_same (HW.out _)) | (go_at_call 37; exact Calls.quiet_of_same (HF.out _))))
      go_wp2
      go_ret
      exact ⟨rfl, below_drewN ((Below.refl _ _).alloc (Nat.le_refl _) _) nq⟩
    | false =>
      rw [if_neg (by decide)]
      go_enter Try.func19, Try.ntmps19
      go_wp2_with (go_at_call 25; refine (HK.out _).mono ?_; rintro e w' ⟨rfl, rfl⟩)
      go_quiet ((first | (go_at_call 20; exact Calls.quiet_of_same (HW.out _)) | (go_at_call 37; exact Calls.quiet_of_same (HF.out _))))
      go_wp2
      go_ret
      exact ⟨rfl, below_drewN ((Below.refl _ _).alloc (Nat.le_refl _) _) nq⟩
  · have hse := notEmpty_of he
    have hf : faultF ⟨k, n, s⟩ = 1 := by simp [faultF, h4, he]
    rw [hf]
    clear hf he hk h4
    go_enter Try.func19, Try.ntmps19
    go_wp2_with (go_at_call 25; refine (HK.out _).mono ?_; rintro e w' ⟨rfl, rfl⟩)
    go_quiet (fail)
    go_wp2
    go_ret
    exact ⟨rfl, below_drewN ((Below.refl _ _).alloc (Nat.le_refl _) _) nq⟩

theorem itemFault_any (x : It) (w : World) (hx : x.ok) :
    Calls Try.prog 19 #[.agg #[.int .i64 x.k, .int .u64 x.n, .string x.s]] w fun e w' => e = .returned (.int .i64 (faultF x)) ∧ Below w.heap.size w w' := by
  obtain ⟨k, n, s⟩ := x
  obtain ⟨_, _, h0, _, hs⟩ := hx
  cases hk : kindB k with
  | false =>
    have hf : faultF ⟨k, n, s⟩ = 1 := by simp [faultF, hk]
    rw [hf]
    exact itemFault_kind k n s w hk
  | true =>
    by_cases h4 : k = 4
    · subst h4; exact itemFault_text n s w (by unfold maxLen; simp at hs; omega)
    · exact itemFault_num k n s w (by unfold maxLen; simp at hs; omega) hk h4 h0

end Go.Proofs.Ytnbomaalncjkeaa
