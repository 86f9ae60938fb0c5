/-
  What was read is written as it stood; a beginning of it, and what is longer, is refused.
-/
import Derived.Test.YtnbomaalncjkeaaPure2
namespace Go.Proofs.Ytnbomaalncjkeaa

theorem letter_cases (c : UInt8) (h : isLetter c = true) : c = 98 ∨ c = 119 ∨ c = 108 ∨ c = 116 := by
  by_cases h1 : c = 98
  · exact Or.inl h1
  by_cases h2 : c = 119
  · exact Or.inr (Or.inl h2)
  by_cases h3 : c = 108
  · exact Or.inr (Or.inr (Or.inl h3))
  by_cases h4 : c = 116
  · exact Or.inr (Or.inr (Or.inr h4))
  have e := indexByte_none letters c (by
    intro x hx
    simp [letters] at hx
    rcases hx with rfl | rfl | rfl | rfl
    · exact fun e => h1 e.symm
    · exact fun e => h2 e.symm
    · exact fun e => h3 e.symm
    · exact fun e => h4 e.symm)
  unfold isLetter at h
  rw [e] at h
  simp at h

theorem letter_back (c : UInt8) (h : isLetter c = true) : letterF (kindOfL c) = c ∧ kindB (kindOfL c) = true := by
  rcases letter_cases c h with rfl | rfl | rfl | rfl <;> exact ⟨rfl, rfl⟩

theorem widthN_le' (k : Int) : widthN k ≤ 8 := by
  unfold widthN
  split
  · omega
  · split <;> omega

theorem pow_le8 (z : Nat) (h : z ≤ 8) : 256 ^ z ≤ 18446744073709551616 := by
  have : 256 ^ z ≤ 256 ^ 8 := Nat.pow_le_pow_right (by omega) h
  omega

theorem itemF_inv (c : UInt8) (s : List UInt8) (hc : isLetter c = true) (h : (itemF c s).2.2 = 0) :
    s = itemB (itemF c s).1 ++ (itemF c s).2.1 ∧ faultF (itemF c s).1 = 0 ∧ (itemF c s).1.ok ∧ letterF (itemF c s).1.k = c := by
  obtain ⟨hb, hk⟩ := letter_back c hc
  have hz := widthN_le' (kindOfL c)
  unfold itemF at *
  by_cases h1 : s.length < widthN (kindOfL c)
  · rw [if_pos h1] at h; simp at h
  · rw [if_neg h1] at h ⊢
    by_cases h2 : kindOfL c = 4
    · rw [if_pos h2] at h ⊢
      rw [h2] at h1 hb
      have w4 : widthN 4 = 4 := rfl
      rw [w4] at h1
      by_cases h3 : 100000 < Lib.beNat (s.take 4)
      · rw [if_pos h3] at h; simp at h
      · rw [if_neg h3] at h ⊢
        by_cases h4 : (s.drop 4).length < Lib.beNat (s.take 4)
        · rw [if_pos h4] at h; simp at h
        · rw [if_neg h4]
          have ht : (s.take 4).length = 4 := by rw [List.length_take]; omega
          generalize hN : Lib.beNat (s.take 4) = N at *
          have hl : ((s.drop 4).take N).length = N := by rw [List.length_take]; omega
          have hsz : (⟨((s.drop 4).take N).toArray⟩ : ByteArray).size = N := by
            show ((s.drop 4).take N).toArray.size = N
            rw [List.size_toArray]; exact hl
          refine ⟨?_, ?_, ?_, hb⟩
          · unfold itemB numOf
            rw [if_pos rfl, hsz, w4, ← hN, beBytes_beNat 4 _ ht, hN]
            simp only [List.append_assoc]
            show s = s.take 4 ++ ((s.drop 4).take N ++ (s.drop 4).drop N)
            rw [List.take_append_drop, List.take_append_drop]
          · unfold faultF
            rw [hsz]
            simp [kindB]
            omega
          · unfold It.ok
            rw [hsz]
            simp
            omega
    · rw [if_neg h2] at h ⊢
      have ht : (s.take (widthN (kindOfL c))).length = widthN (kindOfL c) := by rw [List.length_take]; omega
      have hlt := beNat_lt (s.take (widthN (kindOfL c)))
      rw [ht] at hlt
      have h8 := pow_le8 _ hz
      refine ⟨?_, ?_, ?_, hb⟩
      · unfold itemB numOf
        rw [if_neg h2, Int.toNat_natCast, beBytes_beNat _ _ ht]
        show s = s.take (widthN (kindOfL c)) ++ [] ++ s.drop (widthN (kindOfL c))
        rw [List.append_nil, List.take_append_drop]
      · have e : ((256 ^ widthN (kindOfL c) : Nat) : Int) = (256 : Int) ^ widthN (kindOfL c) := Int.natCast_pow 256 _
        have hlt' : ((Lib.beNat (s.take (widthN (kindOfL c))) : Nat) : Int) < (256 : Int) ^ widthN (kindOfL c) := by rw [← e]; omega
        have hsz : (⟨#[]⟩ : ByteArray).size = 0 := rfl
        unfold faultF
        simp only [hk, h2, hsz, hlt', Bool.true_eq_false, if_false, ne_eq, not_true, not_false_iff, or_false, and_false, false_and]
        rfl
      · have k1 : 1 ≤ kindOfL c ∧ kindOfL c ≤ 4 := by simpa [kindB] using hk
        unfold It.ok
        refine ⟨by simp only; omega, by simp only; omega, by simp only; omega, by simp only; omega, Nat.zero_le _⟩

theorem allL_cons (c : UInt8) (t : List UInt8) (h : allL (c :: t) = true) : isLetter c = true ∧ allL t = true := by
  simpa [allL] using h

theorem itemF_less' (c : UInt8) (s : List UInt8) (hc : isLetter c = true) (h : (itemF c s).2.2 = 0) : (itemF c s).2.1.length < s.length := by
  have h1 := congrArg List.length (itemF_inv c s hc h).1
  have h2 := itemB_pos (itemF c s).1
  rw [List.length_append] at h1
  omega

theorem readF_again (f : Nat) (again : List UInt8) (m : Nat) (todo rest : List UInt8) (ha : allL again = true) (ht : allL todo = true) (hm : m ≤ 1000)
    (hf : 2 * rest.length + (if todo = [] then 1 else 0) < f) (h : (readF f again m todo rest).2 = 0) :
    rest = (readF f again m todo rest).1.flatMap itemB ∧ (∀ x ∈ (readF f again m todo rest).1, faultF x = 0 ∧ x.ok) ∧ m + (readF f again m todo rest).1.length ≤ 1000 := by
  induction f generalizing m todo rest with
  | zero => omega
  | succ f ih =>
    cases todo with
    | nil =>
      rw [readF] at h ⊢
      by_cases h1 : rest = []
      · subst h1
        rw [if_pos rfl]
        exact ⟨rfl, by simp, by simpa using hm⟩
      · rw [if_neg h1] at h ⊢
        by_cases h2 : again = []
        · rw [if_pos h2] at h; simp at h
        · rw [if_neg h2] at h ⊢
          rw [if_pos rfl] at hf
          exact ih m again rest ha hm (by rw [if_neg h2]; omega) h
    | cons c t =>
      obtain ⟨hc, ht⟩ := allL_cons c t ht
      rw [readF] at h ⊢
      by_cases h1 : m = 1000
      · rw [if_pos h1] at h; simp at h
      · rw [if_neg h1] at h ⊢
        by_cases h2 : (itemF c rest).2.2 = 0
        · rw [if_pos h2] at h ⊢
          by_cases h3 : (readF f again (m + 1) t (itemF c rest).2.1).2 = 0
          · rw [if_pos h3]
            have hl := itemF_less' c rest hc h2
            rw [if_neg (by simp)] at hf
            obtain ⟨g1, g2, g3⟩ := ih (m + 1) t (itemF c rest).2.1 ht (by omega) (by split <;> omega) h3
            obtain ⟨e1, e2, e3, _⟩ := itemF_inv c rest hc h2
            refine ⟨?_, ?_, ?_⟩
            · show rest = List.flatMap itemB ((itemF c rest).1 :: _)
              rw [List.flatMap_cons, ← g1]
              exact e1
            · intro x hx
              rcases List.mem_cons.1 hx with rfl | hx
              · exact ⟨e2, e3⟩
              · exact g2 x hx
            · show m + (List.length ((itemF c rest).1 :: _)) ≤ 1000
              rw [List.length_cons]
              omega
          · rw [if_neg h3] at h; exact absurd h h3
        · rw [if_neg h2] at h; exact absurd h h2

theorem shapeOk_parts (s : List UInt8) (h : shapeOk s = true) : allL (cutStar s).1 = true ∧ allL (cutStar s).2.1 = true := by
  unfold shapeOk at h
  simp only [Bool.and_eq_true] at h
  exact h.2

/-- P1.3: what was read is written as it stood. -/
theorem again_pure (shape s : List UInt8) (h : (decF shape s).2 = 0) :
    encF (decF shape s).1 = (s, 0) ∧ (∀ x ∈ (decF shape s).1, x.ok) ∧ (decF shape s).1.length ≤ 1000 := by
  unfold decF at *
  by_cases h1 : shapeOk shape = true
  · rw [if_pos h1] at h ⊢
    obtain ⟨ha, hb⟩ := shapeOk_parts shape h1
    obtain ⟨g1, g2, g3⟩ := readF_again _ _ 0 _ s hb ha (by omega) (by split <;> omega) h
    refine ⟨?_, fun x hx => (g2 x hx).2, by omega⟩
    unfold encF
    rw [if_neg (by omega), if_pos ((firstFault_zero _).2 fun x hx => (g2 x hx).1), ← g1]
  · rw [if_neg h1] at h; simp at h

end Go.Proofs.Ytnbomaalncjkeaa
