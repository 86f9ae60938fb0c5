/-
  A pair to the power of p is the pair with its second part below 0; so a pair that is not 0, to the power of p*p - 2, is its inverse. Nothing of the program is in this text.
-/
import Derived.Test.YtddmnmeijnncmabGauss3
namespace Go.Proofs.Ytddmnmeijnncmab

/-- The sum of f 0 .. f (n - 1). -/
def smI (f : Nat → Int) : Nat → Int
  | 0 => 0
  | n + 1 => smI f n + f n
theorem smI_add (f g : Nat → Int) (n : Nat) : smI (fun k => f k + g k) n = smI f n + smI g n := by
  induction n with
  | zero => rfl
  | succ n ih => simp only [smI, ih]; omega
theorem smI_congr (f g : Nat → Int) (n : Nat) (h : ∀ k, k < n → f k = g k) : smI f n = smI g n := by
  induction n with
  | zero => rfl
  | succ n ih => simp only [smI, ih fun k hk => h k (by omega), h n (by omega)]
theorem smI_front (f : Nat → Int) (n : Nat) : smI f (n + 1) = f 0 + smI (fun k => f (k + 1)) n := by
  induction n with
  | zero => simp [smI]
  | succ n ih => rw [smI, ih]; simp only [smI]; omega
theorem smI_cg (f : Nat → Int) (n : Nat) (h : ∀ k, k < n → Cg (f k) 0) : Cg (smI f n) 0 := by
  induction n with
  | zero => exact Cg.refl _
  | succ n ih => exact (ih fun k hk => h k (by omega)).add (h n (by omega))

/-- Each with the one behind it, so often. -/
def trn : Nat → (Nat → Int) → Nat → Int
  | 0, u => u
  | n + 1, u => trn n fun k => u (k + 1) + u k
theorem trn_eq (n : Nat) (u : Nat → Int) : trn n u 0 = smI (fun k => (ch n k : Int) * u k) (n + 1) := by
  induction n generalizing u with
  | zero => simp [trn, smI, ch]
  | succ n ih =>
    show trn n (fun k => u (k + 1) + u k) 0 = _
    rw [ih, smI_front (n := n + 1)]
    have e : smI (fun k => (ch (n + 1) (k + 1) : Int) * u (k + 1)) (n + 1) = smI (fun k => (ch n k : Int) * u (k + 1) + (ch n (k + 1) : Int) * u (k + 1)) (n + 1) := by
      apply smI_congr
      intro k _
      show ((ch n k + ch n (k + 1) : Nat) : Int) * u (k + 1) = _
      rw [Int.natCast_add, Int.add_mul]
    have e1 : smI (fun k => (ch n k : Int) * (u (k + 1) + u k)) (n + 1) = smI (fun k => (ch n k : Int) * u (k + 1) + (ch n k : Int) * u k) (n + 1) := by
      apply smI_congr
      intro k _
      rw [Int.mul_add]
    rw [e, e1, smI_add, smI_add]
    have e2 : ((ch (n + 1) 0 : Nat) : Int) * u 0 + smI (fun k => (ch n (k + 1) : Int) * u (k + 1)) (n + 1) = smI (fun k => (ch n k : Int) * u k) (n + 1) := by
      rw [smI, ch_big n (n + 1) (by omega), Int.natCast_zero, Int.zero_mul, Int.add_zero, smI_front]
      congr 1
      cases n <;> rfl
    omega

/-- The power of a pair of whole numbers. -/
def powR (a : Pr) : Nat → Pr
  | 0 => Pr.one
  | n + 1 => mulR (powR a n) a
theorem mulR_comm (a b : Pr) : mulR a b = mulR b a := by
  unfold mulR
  apply pr_ext <;> grind
theorem mulR_add (a b c : Pr) : mulR a (addR b c) = addR (mulR a b) (mulR a c) := by
  unfold mulR addR
  apply pr_ext <;> grind
theorem mulR_one (a : Pr) : mulR a Pr.one = a := by
  unfold mulR Pr.one
  apply pr_ext <;> grind
theorem trn_pow (f : Pr → Int) (hf : ∀ a b, f (addR a b) = f a + f b) (z : Pr) (n : Nat) (c : Pr) : trn n (fun k => f (mulR c (powR z k))) 0 = f (mulR c (powR (addR z Pr.one) n)) := by
  induction n generalizing c with
  | zero => rfl
  | succ n ih =>
    show trn n (fun k => f (mulR c (mulR (powR z k) z)) + f (mulR c (powR z k))) 0 = f (mulR c (mulR (powR (addR z Pr.one) n) (addR z Pr.one)))
    have e : (fun k => f (mulR c (mulR (powR z k) z)) + f (mulR c (powR z k))) = fun k => f (mulR (mulR c (addR z Pr.one)) (powR z k)) := by
      funext k
      rw [← hf, ← mulR_assoc, mulR_assoc c (addR z Pr.one), mulR_comm (addR z Pr.one), ← mulR_assoc, mulR_add, mulR_one]
    rw [e, ih, mulR_assoc c (addR z Pr.one), mulR_comm (addR z Pr.one)]

theorem ch_zero (n : Nat) : ch n 0 = 1 := by cases n <;> rfl
theorem front_one (f : Pr → Int) (z : Pr) (q : Nat) : smI (fun k => (ch (q + 1) k : Int) * f (powR z k)) (q + 1) = f Pr.one + smI (fun k => (ch (q + 1) (k + 1) : Int) * f (powR z (k + 1))) q := by
  rw [smI_front, ch_zero, Int.natCast_one, Int.one_mul]
  rfl
theorem dreamR (z : Pr) : Cp (powR (addR z Pr.one) pN) (addR (powR z pN) Pr.one) := by
  have key : ∀ f : Pr → Int, (∀ a b, f (addR a b) = f a + f b) → Cg (f (powR (addR z Pr.one) pN)) (f (powR z pN) + f Pr.one) := by
    intro f hf
    have h := trn_pow f hf z pN Pr.one
    rw [trn_eq, mulR_comm Pr.one, mulR_one, smI, ch_self] at h
    have hl : ∀ k, mulR Pr.one (powR z k) = powR z k := fun k => by rw [mulR_comm, mulR_one]
    simp only [hl] at h
    rw [← h]
    obtain ⟨q, hq⟩ : ∃ q, pN = q + 1 := ⟨33554382, rfl⟩
    have h2 : Cg (smI (fun k => (ch pN (k + 1) : Int) * f (powR z (k + 1))) q) 0 := smI_cg _ _ fun k hk => by
      obtain ⟨m, hm⟩ := p_ch (k + 1) (by omega) (by omega)
      refine ⟨m * f (powR z (k + 1)), ?_⟩
      rw [hm, Int.zero_add, pI_nat, Int.natCast_mul, Int.mul_assoc]
    have e : smI (fun k => (ch pN k : Int) * f (powR z k)) pN = f Pr.one + smI (fun k => (ch pN (k + 1) : Int) * f (powR z (k + 1))) q := by
      rw [hq]
      exact front_one f z q
    rw [e]
    refine (((Cg.refl _).add h2).add (Cg.refl _)).trans (Cg.of_eq ?_)
    rw [Int.natCast_one, Int.one_mul]
    omega
  exact ⟨key Pr.re fun _ _ => rfl, key Pr.im fun _ _ => rfl⟩

theorem pow_i4 (y : Int) (k : Nat) : powR ⟨0, y⟩ (4 * k) = ⟨y ^ (4 * k), 0⟩ := by
  induction k with
  | zero => simp [powR, Pr.one]
  | succ k ih =>
    show mulR (mulR (mulR (mulR (powR ⟨0, y⟩ (4 * k)) ⟨0, y⟩) ⟨0, y⟩) ⟨0, y⟩) ⟨0, y⟩ = _
    rw [ih, show 4 * (k + 1) = 4 * k + 1 + 1 + 1 + 1 by omega, Int.pow_succ, Int.pow_succ, Int.pow_succ, Int.pow_succ]
    unfold mulR
    apply pr_ext <;> grind
theorem pow_i (y : Int) : powR ⟨0, y⟩ pN = ⟨0, -(y ^ pN)⟩ := by
  show mulR (mulR (mulR (powR ⟨0, y⟩ (4 * 8388595)) ⟨0, y⟩) ⟨0, y⟩) ⟨0, y⟩ = _
  rw [pow_i4, show pN = 4 * 8388595 + 1 + 1 + 1 from rfl, Int.pow_succ, Int.pow_succ, Int.pow_succ]
  unfold mulR
  generalize y ^ (4 * 8388595) = t
  apply pr_ext <;> grind

theorem frobR (x y : Nat) : Cp (powR ⟨x, y⟩ pN) ⟨x, -(y : Int)⟩ := by
  induction x with
  | zero =>
    show Cp (powR ⟨0, y⟩ pN) _
    rw [pow_i]
    refine ⟨Cg.refl _, ?_⟩
    obtain ⟨m, hm⟩ := fermat y
    refine ⟨-(m : Int), ?_⟩
    show -((y : Int) ^ pN) = -(y : Int) + pI * -(m : Int)
    have e : ((y : Int) ^ pN) = ((y ^ pN : Nat) : Int) := (Int.natCast_pow _ _).symm
    rw [e, hm, Int.natCast_add, Int.natCast_mul, ← pI_nat, Int.mul_neg]
    omega
  | succ x ih =>
    have h := dreamR ⟨x, y⟩
    have e : addR (⟨x, y⟩ : Pr) Pr.one = ⟨((x + 1 : Nat) : Int), y⟩ := by
      unfold addR Pr.one
      apply pr_ext <;> simp
    rw [e] at h
    refine h.trans ((ih.add (Cp.refl Pr.one)).trans (Cp.of_eq ?_))
    unfold addR Pr.one
    apply pr_ext <;> simp

theorem powP_powR (a : Pr) (n : Nat) : Cp (powP a n) (powR a n) := by
  induction n with
  | zero => exact Cp.refl _
  | succ n ih => exact (Cp.mulP _ _).trans (ih.mul (Cp.refl a))
theorem powP_pow (a : Pr) (n m : Nat) : powP (powP a n) m = powP a (n * m) := by
  induction m with
  | zero => rfl
  | succ m ih =>
    show mulP (powP (powP a n) m) (powP a n) = _
    rw [ih, powP_add, Nat.mul_succ]
theorem powP_real (x : Int) (n : Nat) : Cp (powP ⟨x, 0⟩ n) ⟨x ^ n, 0⟩ := by
  induction n with
  | zero => rw [Int.pow_zero]; exact Cp.refl _
  | succ n ih =>
    refine (Cp.mulP _ _).trans ((ih.mul (Cp.refl _)).trans (Cp.of_eq ?_))
    rw [Int.pow_succ]
    unfold mulR
    apply pr_ext <;> simp

theorem pow_round (a : Pr) (ha : a.right) (h0 : a ≠ Pr.zero) : powP a 1125896618510688 = Pr.one := by
  obtain ⟨x, hx⟩ : ∃ x : Nat, a.re = x := ⟨a.re.toNat, by have := ha.1; omega⟩
  obtain ⟨y, hy⟩ : ∃ y : Nat, a.im = y := ⟨a.im.toNat, by have := ha.2.2.1; omega⟩
  have e : a = ⟨x, y⟩ := pr_ext hx hy
  have h1 : Cp (powP a pN) ⟨a.re, -a.im⟩ := by
    rw [e]
    exact (powP_powR _ _).trans (frobR x y)
  have h2 : powP a (pN + 1) = ⟨normP a, 0⟩ := by
    refine Cp.eq ((Cp.mulP _ _).trans ((h1.mul (Cp.refl a)).trans ?_)) (powP_right _ _) ⟨(mod_right _).1, (mod_right _).2, Int.le_refl _, show (0 : Int) < pI by decide⟩
    refine ⟨?_, ?_⟩
    · refine Cg.trans (Cg.of_eq ?_) (Cg.mod _).symm
      show a.re * a.re - -a.im * a.im = a.re * a.re + a.im * a.im
      grind
    · refine Cg.of_eq ?_
      show a.re * a.im + -a.im * a.re = 0
      grind
  have hn : normP a ≠ 0 := fun e => h0 ((norm_iff a ha).1 e)
  have hn2 : normP a % pI ≠ 0 := by rw [norm_mod]; exact hn
  have hf := fermatI (normP a) hn2
  have h3 := powP_pow a (pN + 1) 33554382
  rw [h2] at h3
  have h4 : powP ⟨normP a, 0⟩ 33554382 = Pr.one := Cp.eq ((powP_real _ _).trans ⟨hf, Cg.refl _⟩) (powP_right _ _) one_right
  rw [h4, show (pN + 1) * 33554382 = 1125896618510688 by decide] at h3
  exact h3.symm
theorem powP_succ (a : Pr) (n : Nat) : powP a (n + 1) = mulP (powP a n) a := rfl
/-- The power that is the inverse. -/
theorem pow_inv (a : Pr) (ha : a.right) (h0 : a ≠ Pr.zero) : powP a 1125896618510687 = invP a := by
  refine inv_only a _ ha (powP_right _ _) ?_
  rw [mulP_comm, ← powP_succ]
  exact pow_round a ha h0

end Go.Proofs.Ytddmnmeijnncmab
