/-
  Whole complex numbers modulo the prime 33554383: a field; nothing of the program is in this text.
-/
namespace Go.Proofs.Ytddmnmeijnncmab

def pN : Nat := 33554383

theorem small_divisors : ((List.range 5793).all fun d => decide (d < 2) || decide (pN % d ≠ 0)) = true := by decide +kernel

theorem no_small (d : Nat) (h1 : 2 ≤ d) (h2 : d < 5793) : ¬ d ∣ pN := by
  intro h
  have := List.all_eq_true.1 small_divisors d (List.mem_range.2 h2)
  simp only [Bool.or_eq_true, decide_eq_true_eq] at this
  rcases this with h3 | h3
  · omega
  · exact h3 (Nat.mod_eq_zero_of_dvd h)

theorem p_divisors (d : Nat) (h : d ∣ pN) : d = 1 ∨ d = pN := by
  obtain ⟨e, he⟩ := h
  have hp : pN = 33554383 := rfl
  by_cases h1 : d < 2
  · by_cases h0 : d = 0
    · subst h0; omega
    · left; omega
  · by_cases h2 : e < 2
    · by_cases h0 : e = 0
      · subst h0; omega
      · right
        have : e = 1 := by omega
        subst this
        omega
    · exfalso
      by_cases h3 : d < 5793
      · exact no_small d (by omega) h3 ⟨e, he⟩
      · by_cases h4 : e < 5793
        · exact no_small e (by omega) h4 ⟨d, by rw [he, Nat.mul_comm]⟩
        · have : 5793 * 5793 ≤ d * e := Nat.mul_le_mul (by omega) (by omega)
          omega

theorem p_coprime (m : Nat) (h0 : m % pN ≠ 0) : Nat.Coprime pN m := by
  rcases p_divisors (Nat.gcd pN m) (Nat.gcd_dvd_left _ _) with h | h
  · exact h
  · exact absurd (Nat.mod_eq_zero_of_dvd (h ▸ Nat.gcd_dvd_right pN m)) h0

theorem p_prime (a b : Nat) (h : pN ∣ a * b) : pN ∣ a ∨ pN ∣ b := by
  by_cases h1 : a % pN = 0
  · exact Or.inl (Nat.dvd_of_mod_eq_zero h1)
  · exact Or.inr ((p_coprime a h1).dvd_of_dvd_mul_left h)

def ch : Nat → Nat → Nat
  | _, 0 => 1
  | 0, _ + 1 => 0
  | n + 1, k + 1 => ch n k + ch n (k + 1)

theorem ch_big (n k : Nat) (h : n < k) : ch n k = 0 := by
  induction n generalizing k with
  | zero => obtain ⟨j, rfl⟩ : ∃ j, k = j + 1 := ⟨k - 1, by omega⟩
            rfl
  | succ n ih =>
    obtain ⟨j, rfl⟩ : ∃ j, k = j + 1 := ⟨k - 1, by omega⟩
    show ch n j + ch n (j + 1) = 0
    rw [ih j (by omega), ih (j + 1) (by omega)]
theorem ch_self (n : Nat) : ch n n = 1 := by
  induction n with
  | zero => rfl
  | succ n ih => show ch n n + ch n (n + 1) = 1; rw [ih, ch_big n (n + 1) (by omega)]
theorem ch_absorb (n k : Nat) : (k + 1) * ch (n + 1) (k + 1) = (n + 1) * ch n k := by
  induction n generalizing k with
  | zero =>
    cases k with
    | zero => rfl
    | succ k => rw [ch_big (0 + 1) (k + 1 + 1) (by omega), ch_big 0 (k + 1) (by omega)]; simp
  | succ n ih =>
    show (k + 1) * (ch (n + 1) k + ch (n + 1) (k + 1)) = (n + 2) * ch (n + 1) k
    rw [Nat.mul_add, ih k]
    cases k with
    | zero =>
      have h : ch (n + 1) 0 = 1 := rfl
      have h2 : ch n 0 = 1 := by cases n <;> rfl
      rw [h, h2]; omega
    | succ k =>
      have h := ih k
      have h2 : ch (n + 1) (k + 1) = ch n k + ch n (k + 1) := rfl
      have h3 : (k + 1 + 1) * ch (n + 1) (k + 1) = (k + 1) * ch (n + 1) (k + 1) + ch (n + 1) (k + 1) := by rw [Nat.add_mul, Nat.one_mul]
      rw [h3, h]
      have h4 : (n + 2) * ch (n + 1) (k + 1) = (n + 1) * ch (n + 1) (k + 1) + ch (n + 1) (k + 1) := by rw [show n + 2 = (n + 1) + 1 from rfl, Nat.add_mul, Nat.one_mul]
      rw [h4, h2, Nat.mul_add]
      omega
theorem p_ch (k : Nat) (h1 : 1 ≤ k) (h2 : k < pN) : pN ∣ ch pN k := by
  obtain ⟨j, rfl⟩ : ∃ j, k = j + 1 := ⟨k - 1, by omega⟩
  obtain ⟨q, hq⟩ : ∃ q, pN = q + 1 := ⟨33554382, rfl⟩
  have h := ch_absorb q j
  rw [← hq] at h
  have hd : pN ∣ (j + 1) * ch pN (j + 1) := ⟨_, h⟩
  rcases p_prime _ _ hd with h3 | h3
  · have := Nat.le_of_dvd (by omega) h3
    omega
  · exact h3

/-- The sum of f 0 .. f (n - 1). -/
def sm (f : Nat → Nat) : Nat → Nat
  | 0 => 0
  | n + 1 => sm f n + f n
theorem sm_add (f g : Nat → Nat) (n : Nat) : sm (fun k => f k + g k) n = sm f n + sm g n := by
  induction n with
  | zero => rfl
  | succ n ih => simp only [sm, ih]; omega
theorem sm_mul (c : Nat) (f : Nat → Nat) (n : Nat) : sm (fun k => c * f k) n = c * sm f n := by
  induction n with
  | zero => rfl
  | succ n ih => simp only [sm, ih, Nat.mul_add]
theorem sm_congr (f g : Nat → Nat) (n : Nat) (h : ∀ k, k < n → f k = g k) : sm f n = sm g n := by
  induction n with
  | zero => rfl
  | succ n ih => simp only [sm, ih fun k hk => h k (by omega), h n (by omega)]
theorem sm_front (f : Nat → Nat) (n : Nat) : sm f (n + 1) = f 0 + sm (fun k => f (k + 1)) n := by
  induction n with
  | zero => simp [sm]
  | succ n ih => rw [sm, ih]; simp only [sm]; omega
theorem sm_dvd (m : Nat) (f : Nat → Nat) (n : Nat) (h : ∀ k, k < n → m ∣ f k) : m ∣ sm f n := by
  induction n with
  | zero => exact Nat.dvd_zero m
  | succ n ih => exact Nat.dvd_add (ih fun k hk => h k (by omega)) (h n (by omega))

theorem binom (x n : Nat) : (x + 1) ^ n = sm (fun k => ch n k * x ^ k) (n + 1) := by
  induction n with
  | zero => simp [sm, ch]
  | succ n ih =>
    rw [sm_front]
    have e : sm (fun k => ch (n + 1) (k + 1) * x ^ (k + 1)) (n + 1) = sm (fun k => x * (ch n k * x ^ k) + ch n (k + 1) * x ^ (k + 1)) (n + 1) := by
      apply sm_congr
      intro k _
      show (ch n k + ch n (k + 1)) * x ^ (k + 1) = _
      rw [Nat.add_mul]
      congr 1
      rw [Nat.pow_succ, Nat.mul_comm (x ^ k) x, Nat.mul_left_comm]
    rw [e, sm_add, sm_mul, ← ih]
    have e2 : ch (n + 1) 0 * x ^ 0 + sm (fun k => ch n (k + 1) * x ^ (k + 1)) (n + 1) = (x + 1) ^ n := by
      rw [sm, ch_big n (n + 1) (by omega), Nat.zero_mul, Nat.add_zero, ih, sm_front]
      congr 1
      cases n <;> rfl
    rw [Nat.pow_succ, Nat.mul_add, Nat.mul_one, Nat.mul_comm _ x]
    omega

theorem dream (x : Nat) : ∃ m, (x + 1) ^ pN = x ^ pN + 1 + pN * m := by
  rw [binom, sm, ch_self, Nat.one_mul]
  obtain ⟨q, hq⟩ : ∃ q, pN = q + 1 := ⟨33554382, rfl⟩
  have h : pN ∣ sm (fun k => ch pN (k + 1) * x ^ (k + 1)) q := sm_dvd _ _ _ fun k hk => Nat.dvd_mul_right_of_dvd (p_ch (k + 1) (by omega) (by omega)) _
  obtain ⟨m, hm⟩ := h
  refine ⟨m, ?_⟩
  have e : sm (fun k => ch pN k * x ^ k) pN = 1 + pN * m := by
    rw [← hm]
    conv => lhs; arg 2; rw [hq]
    rw [sm_front]
    congr 1
  rw [e]
  omega

/-- Fermat's small theorem. -/
theorem fermat (a : Nat) : ∃ m, a ^ pN = a + pN * m := by
  induction a with
  | zero => exact ⟨0, by decide +kernel⟩
  | succ a ih =>
    obtain ⟨m, hm⟩ := ih
    obtain ⟨k, hk⟩ := dream a
    exact ⟨m + k, by rw [hk, hm, Nat.mul_add]; omega⟩
theorem fermat1 (a : Nat) (h : a % pN ≠ 0) : a ^ (pN - 1) % pN = 1 := by
  obtain ⟨m, hm⟩ := fermat a
  have hp : pN = 33554383 := rfl
  have h1 : a ^ pN = a ^ (pN - 1) * a := by
    conv => lhs; rw [show pN = (pN - 1) + 1 by omega, Nat.pow_succ]
  have hpos : 1 ≤ a ^ (pN - 1) := by
    refine Nat.one_le_pow _ _ ?_
    rcases Nat.eq_zero_or_pos a with rfl | h0
    · simp at h
    · exact h0
  have h2 : pN ∣ (a ^ (pN - 1) - 1) * a := by
    refine ⟨m, ?_⟩
    rw [Nat.sub_mul, ← h1, hm]
    omega
  have h3 := (p_coprime a h).dvd_of_dvd_mul_right h2
  obtain ⟨k, hk⟩ := h3
  have : a ^ (pN - 1) = 1 + pN * k := by omega
  rw [this, Nat.add_mul_mod_self_left]
  exact Nat.mod_eq_of_lt (by omega)

end Go.Proofs.Ytddmnmeijnncmab
