/-
  A shape with a star reads as often what stands behind it as it is there.
-/
import Derived.Test.YtnbomaalncjkeaaPure4
import Derived.Lib.Repeat
namespace Go.Proofs.Ytnbomaalncjkeaa

theorem indexByte_hit (A G : List UInt8) (c : UInt8) (h : ∀ x ∈ A, x ≠ c) : Lib.indexByte (A ++ c :: G) c = A.length := by
  induction A with
  | nil => simp [Lib.indexByte]
  | cons b A ih =>
    have h1 : (b == c) = false := by simpa using h b (by simp)
    have h2 := ih fun x hx => h x (by simp [hx])
    rw [List.cons_append]
    simp only [Lib.indexByte, h1, h2]
    have h3 : ((A.length : Int) == -1) = false := by rw [beq_eq_false_iff_ne]; omega
    simp [h3]

theorem indexByte_neg (l : List UInt8) (c : UInt8) (h : Lib.indexByte l c < 0) : ∀ x ∈ l, x ≠ c := by
  induction l with
  | nil => simp
  | cons b l ih =>
    intro x hx
    simp only [Lib.indexByte] at h
    split at h
    · omega
    · rename_i h1
      rcases List.mem_cons.1 hx with rfl | hx
      · simpa using h1
      · refine ih ?_ x hx
        split at h
        · rename_i h2
          have : Lib.indexByte l c = -1 := by simpa using h2
          omega
        · rename_i h2
          have h3 : Lib.indexByte l c ≠ -1 := by simpa using h2
          have h4 := Lib.indexByte_ge l c
          omega

theorem cutStar_hit (A G : List UInt8) (h : ∀ x ∈ A, x ≠ 42) : cutStar (A ++ 42 :: G) = (A, G, true) := by
  unfold cutStar
  rw [indexByte_hit A G 42 h, if_neg (by omega)]
  simp

theorem itemF_nil (c : UInt8) : (itemF c []).2.2 = 2 := by
  unfold itemF
  have : 1 ≤ widthN (kindOfL c) := by
    unfold widthN
    split
    · omega
    · split <;> omega
  rw [if_pos (by simp; omega)]

theorem star_read (G : List UInt8) (hG : G ≠ []) (hGl : allL G = true) (f' : Nat) : ∀ (f m k : Nat) (todo rest : List UInt8), allL todo = true →
    2 * rest.length + 1 < f → 2 * rest.length + (if todo = [] then 1 else 0) < f' → (readF f [] m (todo ++ Lib.repeatL G k) rest).2 = 0 →
    readF f' G m todo rest = readF f [] m (todo ++ Lib.repeatL G k) rest := by
  induction f' with
  | zero => intro f m k todo rest _ _ h; omega
  | succ f' ih =>
    intro f m k todo rest ht hf hf' h
    obtain ⟨g, rfl⟩ : ∃ g, f = g + 1 := ⟨f - 1, by omega⟩
    cases todo with
    | cons c t =>
      obtain ⟨hc, ht⟩ := allL_cons c t ht
      rw [List.cons_append] at h ⊢
      rw [readF] at h ⊢
      rw [readF]
      by_cases h1 : m = 1000
      · rw [if_pos h1] at h; simp at h
      · rw [if_neg h1] at h ⊢
        rw [if_neg h1]
        by_cases h2 : (itemF c rest).2.2 = 0
        · rw [if_pos h2] at h ⊢
          rw [if_pos h2]
          have hl := itemF_less' c rest hc h2
          rw [if_neg (by simp)] at hf'
          by_cases h3 : (readF g [] (m + 1) (t ++ Lib.repeatL G k) (itemF c rest).2.1).2 = 0
          · have e := ih g (m + 1) k t (itemF c rest).2.1 ht (by omega) (by split <;> omega) h3
            rw [e]
          · rw [if_neg h3] at h; exact absurd h h3
        · rw [if_neg h2] at h; exact absurd h h2
    | nil =>
      rw [if_pos rfl] at hf'
      rw [List.nil_append] at h ⊢
      cases k with
      | zero =>
        show readF (f' + 1) G m [] rest = readF (g + 1) [] m [] rest
        have h' : (readF (g + 1) [] m [] rest).2 = 0 := h
        rw [readF] at h' ⊢
        rw [readF]
        by_cases h1 : rest = []
        · rw [if_pos h1, if_pos h1]
        · rw [if_neg h1, if_pos rfl] at h'; simp at h'
      | succ k =>
        have e : Lib.repeatL G (k + 1) = G ++ Lib.repeatL G k := rfl
        rw [e] at h ⊢
        rw [readF]
        by_cases h1 : rest = []
        · subst h1
          obtain ⟨c, t, hct⟩ : ∃ c t, G = c :: t := by
            cases G with
            | nil => exact absurd rfl hG
            | cons c t => exact ⟨c, t, rfl⟩
          rw [hct, List.cons_append, readF] at h
          by_cases h2 : m = 1000
          · rw [if_pos h2] at h; simp at h
          · rw [if_neg h2, if_neg (by rw [itemF_nil]; decide)] at h
            exact absurd h (by rw [itemF_nil]; decide)
        · rw [if_neg h1, if_neg hG]
          exact ih (g + 1) m k G rest hGl hf (by rw [if_neg hG]; omega) h

theorem allL_append' (a b : List UInt8) : allL (a ++ b) = (allL a && allL b) := by simp [allL]

theorem repeatL_star (G : List UInt8) (k : Nat) (h : ∀ x ∈ G, x ≠ 42) : ∀ x ∈ Lib.repeatL G k, x ≠ 42 := by
  induction k with
  | zero => simp [Lib.repeatL]
  | succ k ih =>
    intro x hx
    have e : Lib.repeatL G (k + 1) = G ++ Lib.repeatL G k := rfl
    rw [e] at hx
    rcases List.mem_append.1 hx with hx | hx
    · exact h x hx
    · exact ih x hx

theorem star_pure (A G s : List UInt8) (k : Nat) (hA : ∀ x ∈ A, x ≠ 42) (hG : ∀ x ∈ G, x ≠ 42) (hne : G ≠ []) (hno : (decF G []).2 ≠ 1) (h : (decF (A ++ Lib.repeatL G k) s).2 = 0) :
    decF (A ++ 42 :: G) s = decF (A ++ Lib.repeatL G k) s := by
  have hGl : allL G = true := by
    unfold decF at hno
    by_cases h1 : shapeOk G = true
    · have := (shapeOk_parts G h1).1
      rwa [cutStar_letters G hG] at this
    · rw [if_neg h1] at hno; exact absurd rfl hno
  have hAll : ∀ x ∈ A ++ Lib.repeatL G k, x ≠ 42 := by
    intro x hx
    rcases List.mem_append.1 hx with hx | hx
    · exact hA x hx
    · exact repeatL_star G k hG x hx
  unfold decF at h ⊢
  by_cases h1 : shapeOk (A ++ Lib.repeatL G k) = true
  · rw [if_pos h1] at h ⊢
    have hl := (shapeOk_parts _ h1).1
    rw [cutStar_letters _ hAll] at hl h ⊢
    have hAl : allL A = true := by
      rw [allL_append'] at hl
      simp at hl
      exact hl.1
    have h2 : shapeOk (A ++ 42 :: G) = true := by
      unfold shapeOk
      rw [cutStar_hit A G hA]
      have e : G.isEmpty = false := by cases G with
        | nil => exact absurd rfl hne
        | cons c t => rfl
      simp [hAl, hGl, e]
    rw [if_pos h2, cutStar_hit A G hA]
    exact star_read G hne hGl (2 * s.length + 2) (2 * s.length + 2) 0 k A s hAl (by omega) (by split <;> omega) h
  · rw [if_neg h1] at h; simp at h

end Go.Proofs.Ytnbomaalncjkeaa
