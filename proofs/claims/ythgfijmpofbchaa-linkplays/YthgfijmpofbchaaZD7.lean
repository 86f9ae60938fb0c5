/-
  The program's isRight, as it runs (mkd7.py).
-/
import Derived.Test.YthgfijmpofbchaaZD1
namespace Go.Proofs.Ythgfijmpofbchaa
open Go.RowKit

def numB (n : Int) : Bool := decide (0 ≤ n ∧ n ≤ 9007199254740991)
def epB (n : Int) : Bool := decide (1 ≤ n ∧ n ≤ 9007199254740991)
theorem isNumber_b (n : Int) (w : World) : Calls Try.prog 35 #[.int .i64 n] w fun e w' => e = .returned (.bool (numB n)) ∧ w' = w := isNumber_any n w
theorem isEpoch_b (n : Int) (w : World) : Calls Try.prog 23 #[.int .i64 n] w fun e w' => e = .returned (.bool (epB n)) ∧ w' = w := isEpoch_any n w
theorem empty_of {s : ByteArray} (h : s = ⟨#[]⟩) : s.toList.isEmpty = true := by rw [h, Lib.toList_data]; rfl
set_option maxHeartbeats 8000000 in
set_option linter.unusedSimpArgs false in
theorem pright (f : FR) (hf : f.ok) (w : World) : Calls Try.prog 30 #[f.v] w fun e w' => e = .returned (.bool (decide f.rightP)) ∧ Below w.heap.size w w' := by
  obtain ⟨ep, pe, sq, ak, bo⟩ := f
  have hz : bo.size ≤ 9223372036854775807 := hf
  simp only [FR.v]
  have hR : decide (FR.rightP ⟨ep, pe, sq, ak, bo⟩) = (epB ep && numB pe && numB sq && numB ak && (decide (bo.size ≤ 100000) && (decide (sq ≠ 0) || decide (bo = ⟨#[]⟩)))) := by
    simp only [epB, numB, ← Bool.decide_and, ← Bool.decide_or]
    refine decide_eq_decide.2 ?_
    unfold FR.rightP
    simp only
    constructor
    · rintro ⟨a, b, c, d, e, f, g, h, i, j⟩; exact ⟨⟨⟨⟨⟨a, b⟩, c, d⟩, e, f⟩, g, h⟩, i, j⟩
    · rintro ⟨⟨⟨⟨⟨a, b⟩, c, d⟩, e, f⟩, g, h⟩, i, j⟩; exact ⟨a, b, c, d, e, f, g, h, i, j⟩
  rw [hR]
  have HB := hide ((Below.refl w.heap.size w).alloc (Nat.le_refl _) (.cells #[.int .i64 ep, .int .i64 pe, .int .i64 sq, .int .i64 ak, .string bo] 31))
  have X := hide (heap_alloc_new w (.cells #[.int .i64 ep, .int .i64 pe, .int .i64 sq, .int .i64 ak, .string bo] 31))
  clear hR hf
  generalize hx1 : epB ep = x1 at *
  generalize hx2 : numB pe = x2 at *
  generalize hx3 : numB sq = x3 at *
  generalize hx4 : numB ak = x4 at *
  cases x1 with
  | false =>
    simp only [Bool.false_and, Bool.and_false, Bool.true_and]
    by_cases s1 : bo.size ≤ 100000
    · have s1' : (bo.size : Int) ≤ 100000 := by omega
      skip
      by_cases s2 : sq = 0
      · skip
        subst s2
        by_cases s3 : bo = ⟨#[]⟩
        · skip
          have g3 := empty_of s3
          clear s3
          go_enter Try.func30, Try.ntmps30
          go_wp2_with (first | (go_at_call 23; refine (isEpoch_b _ _).mono ?_; rintro e w' ⟨rfl, hw⟩; obtain rfl := hw.symm) | (go_at_call 35; refine (isNumber_b _ _).mono ?_; rintro e w' ⟨rfl, hw⟩; obtain rfl := hw.symm))
          go_ret
          exact ⟨rfl, HB.out⟩
        · skip
          have g3 := full_of s3
          clear s3
          go_enter Try.func30, Try.ntmps30
          go_wp2_with (first | (go_at_call 23; refine (isEpoch_b _ _).mono ?_; rintro e w' ⟨rfl, hw⟩; obtain rfl := hw.symm) | (go_at_call 35; refine (isNumber_b _ _).mono ?_; rintro e w' ⟨rfl, hw⟩; obtain rfl := hw.symm))
          go_ret
          exact ⟨rfl, HB.out⟩
      · skip
        have g2 : (sq == 0) = false := by rw [beq_eq_false_iff_ne]; exact s2
        have g2' : (sq != 0) = true := by rw [bne_iff_ne]; exact s2
        skip
        clear s2
        go_enter Try.func30, Try.ntmps30
        go_wp2_with (first | (go_at_call 23; refine (isEpoch_b _ _).mono ?_; rintro e w' ⟨rfl, hw⟩; obtain rfl := hw.symm) | (go_at_call 35; refine (isNumber_b _ _).mono ?_; rintro e w' ⟨rfl, hw⟩; obtain rfl := hw.symm))
        go_ret
        exact ⟨rfl, HB.out⟩
    · have s1' : ¬ (bo.size : Int) ≤ 100000 := by omega
      skip
      go_enter Try.func30, Try.ntmps30
      go_wp2_with (first | (go_at_call 23; refine (isEpoch_b _ _).mono ?_; rintro e w' ⟨rfl, hw⟩; obtain rfl := hw.symm) | (go_at_call 35; refine (isNumber_b _ _).mono ?_; rintro e w' ⟨rfl, hw⟩; obtain rfl := hw.symm))
      go_ret
      exact ⟨rfl, HB.out⟩
  | true =>
    cases x2 with
    | false =>
      simp only [Bool.false_and, Bool.and_false, Bool.true_and]
      by_cases s1 : bo.size ≤ 100000
      · have s1' : (bo.size : Int) ≤ 100000 := by omega
        skip
        by_cases s2 : sq = 0
        · skip
          subst s2
          by_cases s3 : bo = ⟨#[]⟩
          · skip
            have g3 := empty_of s3
            clear s3
            go_enter Try.func30, Try.ntmps30
            go_wp2_with (first | (go_at_call 23; refine (isEpoch_b _ _).mono ?_; rintro e w' ⟨rfl, hw⟩; obtain rfl := hw.symm) | (go_at_call 35; refine (isNumber_b _ _).mono ?_; rintro e w' ⟨rfl, hw⟩; obtain rfl := hw.symm))
            go_ret
            exact ⟨rfl, HB.out⟩
          · skip
            have g3 := full_of s3
            clear s3
            go_enter Try.func30, Try.ntmps30
            go_wp2_with (first | (go_at_call 23; refine (isEpoch_b _ _).mono ?_; rintro e w' ⟨rfl, hw⟩; obtain rfl := hw.symm) | (go_at_call 35; refine (isNumber_b _ _).mono ?_; rintro e w' ⟨rfl, hw⟩; obtain rfl := hw.symm))
            go_ret
            exact ⟨rfl, HB.out⟩
        · skip
          have g2 : (sq == 0) = false := by rw [beq_eq_false_iff_ne]; exact s2
          have g2' : (sq != 0) = true := by rw [bne_iff_ne]; exact s2
          skip
          clear s2
          go_enter Try.func30, Try.ntmps30
          go_wp2_with (first | (go_at_call 23; refine (isEpoch_b _ _).mono ?_; rintro e w' ⟨rfl, hw⟩; obtain rfl := hw.symm) | (go_at_call 35; refine (isNumber_b _ _).mono ?_; rintro e w' ⟨rfl, hw⟩; obtain rfl := hw.symm))
          go_ret
          exact ⟨rfl, HB.out⟩
      · have s1' : ¬ (bo.size : Int) ≤ 100000 := by omega
        skip
        go_enter Try.func30, Try.ntmps30
        go_wp2_with (first | (go_at_call 23; refine (isEpoch_b _ _).mono ?_; rintro e w' ⟨rfl, hw⟩; obtain rfl := hw.symm) | (go_at_call 35; refine (isNumber_b _ _).mono ?_; rintro e w' ⟨rfl, hw⟩; obtain rfl := hw.symm))
        go_ret
        exact ⟨rfl, HB.out⟩
    | true =>
      cases x3 with
      | false =>
        simp only [Bool.false_and, Bool.and_false, Bool.true_and]
        by_cases s1 : bo.size ≤ 100000
        · have s1' : (bo.size : Int) ≤ 100000 := by omega
          skip
          by_cases s2 : sq = 0
          · skip
            subst s2
            by_cases s3 : bo = ⟨#[]⟩
            · skip
              have g3 := empty_of s3
              clear s3
              go_enter Try.func30, Try.ntmps30
              go_wp2_with (first | (go_at_call 23; refine (isEpoch_b _ _).mono ?_; rintro e w' ⟨rfl, hw⟩; obtain rfl := hw.symm) | (go_at_call 35; refine (isNumber_b _ _).mono ?_; rintro e w' ⟨rfl, hw⟩; obtain rfl := hw.symm))
              go_ret
              exact ⟨rfl, HB.out⟩
            · skip
              have g3 := full_of s3
              clear s3
              go_enter Try.func30, Try.ntmps30
              go_wp2_with (first | (go_at_call 23; refine (isEpoch_b _ _).mono ?_; rintro e w' ⟨rfl, hw⟩; obtain rfl := hw.symm) | (go_at_call 35; refine (isNumber_b _ _).mono ?_; rintro e w' ⟨rfl, hw⟩; obtain rfl := hw.symm))
              go_ret
              exact ⟨rfl, HB.out⟩
          · skip
            have g2 : (sq == 0) = false := by rw [beq_eq_false_iff_ne]; exact s2
            have g2' : (sq != 0) = true := by rw [bne_iff_ne]; exact s2
            skip
            clear s2
            go_enter Try.func30, Try.ntmps30
            go_wp2_with (first | (go_at_call 23; refine (isEpoch_b _ _).mono ?_; rintro e w' ⟨rfl, hw⟩; obtain rfl := hw.symm) | (go_at_call 35; refine (isNumber_b _ _).mono ?_; rintro e w' ⟨rfl, hw⟩; obtain rfl := hw.symm))
            go_ret
            exact ⟨rfl, HB.out⟩
        · have s1' : ¬ (bo.size : Int) ≤ 100000 := by omega
          skip
          go_enter Try.func30, Try.ntmps30
          go_wp2_with (first | (go_at_call 23; refine (isEpoch_b _ _).mono ?_; rintro e w' ⟨rfl, hw⟩; obtain rfl := hw.symm) | (go_at_call 35; refine (isNumber_b _ _).mono ?_; rintro e w' ⟨rfl, hw⟩; obtain rfl := hw.symm))
          go_ret
          exact ⟨rfl, HB.out⟩
      | true =>
        cases x4 with
        | false =>
          simp only [Bool.false_and, Bool.and_false, Bool.true_and]
          by_cases s1 : bo.size ≤ 100000
          · have s1' : (bo.size : Int) ≤ 100000 := by omega
            skip
            by_cases s2 : sq = 0
            · skip
              subst s2
              by_cases s3 : bo = ⟨#[]⟩
              · skip
                have g3 := empty_of s3
                clear s3
                go_enter Try.func30, Try.ntmps30
                go_wp2_with (first | (go_at_call 23; refine (isEpoch_b _ _).mono ?_; rintro e w' ⟨rfl, hw⟩; obtain rfl := hw.symm) | (go_at_call 35; refine (isNumber_b _ _).mono ?_; rintro e w' ⟨rfl, hw⟩; obtain rfl := hw.symm))
                go_ret
                exact ⟨rfl, HB.out⟩
              · skip
                have g3 := full_of s3
                clear s3
                go_enter Try.func30, Try.ntmps30
                go_wp2_with (first | (go_at_call 23; refine (isEpoch_b _ _).mono ?_; rintro e w' ⟨rfl, hw⟩; obtain rfl := hw.symm) | (go_at_call 35; refine (isNumber_b _ _).mono ?_; rintro e w' ⟨rfl, hw⟩; obtain rfl := hw.symm))
                go_ret
                exact ⟨rfl, HB.out⟩
            · skip
              have g2 : (sq == 0) = false := by rw [beq_eq_false_iff_ne]; exact s2
              have g2' : (sq != 0) = true := by rw [bne_iff_ne]; exact s2
              skip
              clear s2
              go_enter Try.func30, Try.ntmps30
              go_wp2_with (first | (go_at_call 23; refine (isEpoch_b _ _).mono ?_; rintro e w' ⟨rfl, hw⟩; obtain rfl := hw.symm) | (go_at_call 35; refine (isNumber_b _ _).mono ?_; rintro e w' ⟨rfl, hw⟩; obtain rfl := hw.symm))
              go_ret
              exact ⟨rfl, HB.out⟩
          · have s1' : ¬ (bo.size : Int) ≤ 100000 := by omega
            skip
            go_enter Try.func30, Try.ntmps30
            go_wp2_with (first | (go_at_call 23; refine (isEpoch_b _ _).mono ?_; rintro e w' ⟨rfl, hw⟩; obtain rfl := hw.symm) | (go_at_call 35; refine (isNumber_b _ _).mono ?_; rintro e w' ⟨rfl, hw⟩; obtain rfl := hw.symm))
            go_ret
            exact ⟨rfl, HB.out⟩
        | true =>
          by_cases s1 : bo.size ≤ 100000
          · have s1' : (bo.size : Int) ≤ 100000 := by omega
            rw [decide_eq_true s1]
            by_cases s2 : sq = 0
            · rw [decide_eq_false (fun h => h s2 : ¬ sq ≠ 0)]
              subst s2
              by_cases s3 : bo = ⟨#[]⟩
              · rw [decide_eq_true s3]
                have g3 := empty_of s3
                clear s3
                go_enter Try.func30, Try.ntmps30
                go_wp2_with (first | (go_at_call 23; refine (isEpoch_b _ _).mono ?_; rintro e w' ⟨rfl, hw⟩; obtain rfl := hw.symm) | (go_at_call 35; refine (isNumber_b _ _).mono ?_; rintro e w' ⟨rfl, hw⟩; obtain rfl := hw.symm))
                go_ret
                exact ⟨rfl, HB.out⟩
              · rw [decide_eq_false s3]
                have g3 := full_of s3
                clear s3
                go_enter Try.func30, Try.ntmps30
                go_wp2_with (first | (go_at_call 23; refine (isEpoch_b _ _).mono ?_; rintro e w' ⟨rfl, hw⟩; obtain rfl := hw.symm) | (go_at_call 35; refine (isNumber_b _ _).mono ?_; rintro e w' ⟨rfl, hw⟩; obtain rfl := hw.symm))
                go_ret
                exact ⟨rfl, HB.out⟩
            · rw [decide_eq_true (s2 : sq ≠ 0)]
              have g2 : (sq == 0) = false := by rw [beq_eq_false_iff_ne]; exact s2
              have g2' : (sq != 0) = true := by rw [bne_iff_ne]; exact s2
              rw [Bool.true_or]
              clear s2
              go_enter Try.func30, Try.ntmps30
              go_wp2_with (first | (go_at_call 23; refine (isEpoch_b _ _).mono ?_; rintro e w' ⟨rfl, hw⟩; obtain rfl := hw.symm) | (go_at_call 35; refine (isNumber_b _ _).mono ?_; rintro e w' ⟨rfl, hw⟩; obtain rfl := hw.symm))
              go_ret
              exact ⟨rfl, HB.out⟩
          · have s1' : ¬ (bo.size : Int) ≤ 100000 := by omega
            rw [decide_eq_false s1, Bool.false_and]
            go_enter Try.func30, Try.ntmps30
            go_wp2_with (first | (go_at_call 23; refine (isEpoch_b _ _).mono ?_; rintro e w' ⟨rfl, hw⟩; obtain rfl := hw.symm) | (go_at_call 35; refine (isNumber_b _ _).mono ?_; rintro e w' ⟨rfl, hw⟩; obtain rfl := hw.symm))
            go_ret
            exact ⟨rfl, HB.out⟩
end Go.Proofs.Ythgfijmpofbchaa
