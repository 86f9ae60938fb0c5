/-
  Pairs modulo the prime: sums, products, norms, inverses, powers, digests; nothing of the program is in this text.
-/
import Derived.Test.YtddmnmeijnncmabGauss1
namespace Go.Proofs.Ytddmnmeijnncmab

def pI : Int := 33554383

structure Pr where
  re : Int
  im : Int

def Pr.right (a : Pr) : Prop := 0 ≤ a.re ∧ a.re < pI ∧ 0 ≤ a.im ∧ a.im < pI
def Pr.zero : Pr := ⟨0, 0⟩
def Pr.one : Pr := ⟨1, 0⟩
def addP (a b : Pr) : Pr := ⟨(a.re + b.re) % pI, (a.im + b.im) % pI⟩
def subP (a b : Pr) : Pr := ⟨(a.re - b.re) % pI, (a.im - b.im) % pI⟩
def mulP (a b : Pr) : Pr := ⟨(a.re * b.re - a.im * b.im) % pI, (a.re * b.im + a.im * b.re) % pI⟩
def normP (a : Pr) : Int := (a.re * a.re + a.im * a.im) % pI

/-- The same, modulo p. -/
def Cg (x y : Int) : Prop := ∃ k, x = y + pI * k

theorem Cg.refl (x : Int) : Cg x x := ⟨0, by simp⟩
theorem Cg.of_eq {x y : Int} (h : x = y) : Cg x y := h ▸ Cg.refl x
theorem Cg.symm {x y : Int} (h : Cg x y) : Cg y x := by
  obtain ⟨k, rfl⟩ := h
  exact ⟨-k, by rw [Int.mul_neg]; omega⟩
theorem Cg.trans {x y z : Int} (h : Cg x y) (g : Cg y z) : Cg x z := by
  obtain ⟨k, rfl⟩ := h
  obtain ⟨m, rfl⟩ := g
  exact ⟨k + m, by rw [Int.mul_add]; omega⟩
theorem Cg.add {x y u v : Int} (h : Cg x y) (g : Cg u v) : Cg (x + u) (y + v) := by
  obtain ⟨k, rfl⟩ := h
  obtain ⟨m, rfl⟩ := g
  exact ⟨k + m, by rw [Int.mul_add]; omega⟩
theorem Cg.sub {x y u v : Int} (h : Cg x y) (g : Cg u v) : Cg (x - u) (y - v) := by
  obtain ⟨k, rfl⟩ := h
  obtain ⟨m, rfl⟩ := g
  exact ⟨k - m, by rw [Int.mul_sub]; omega⟩
theorem Cg.mul {x y u v : Int} (h : Cg x y) (g : Cg u v) : Cg (x * u) (y * v) := by
  obtain ⟨k, rfl⟩ := h
  obtain ⟨m, rfl⟩ := g
  exact ⟨y * m + k * v + pI * k * m, by grind⟩
theorem Cg.mod (x : Int) : Cg (x % pI) x := ⟨-(x / pI), by have := Int.emod_def x pI; rw [Int.mul_neg]; omega⟩
theorem Cg.eq {x y : Int} (h : Cg x y) : x % pI = y % pI := by
  obtain ⟨k, rfl⟩ := h
  exact Int.add_mul_emod_self_left y pI k
theorem Cg.of_mod {x y : Int} (h : x % pI = y % pI) : Cg x y := ((Cg.mod x).symm.trans (Cg.of_eq h)).trans (Cg.mod y)
theorem mod_small {x : Int} (h0 : 0 ≤ x) (h1 : x < pI) : x % pI = x := Int.emod_eq_of_lt h0 h1
theorem mod_right (x : Int) : 0 ≤ x % pI ∧ x % pI < pI := ⟨Int.emod_nonneg x (by decide), Int.emod_lt_of_pos x (by decide)⟩

theorem addP_right (a b : Pr) : (addP a b).right := ⟨(mod_right _).1, (mod_right _).2, (mod_right _).1, (mod_right _).2⟩
theorem subP_right (a b : Pr) : (subP a b).right := ⟨(mod_right _).1, (mod_right _).2, (mod_right _).1, (mod_right _).2⟩
theorem mulP_right (a b : Pr) : (mulP a b).right := ⟨(mod_right _).1, (mod_right _).2, (mod_right _).1, (mod_right _).2⟩
theorem pr_ext {a b : Pr} (h1 : a.re = b.re) (h2 : a.im = b.im) : a = b := by cases a; cases b; simp_all

/-- Two pairs are the same modulo p. -/
def Cp (a b : Pr) : Prop := Cg a.re b.re ∧ Cg a.im b.im
theorem Cp.eq {a b : Pr} (h : Cp a b) (ha : a.right) (hb : b.right) : a = b := by
  have h1 := h.1.eq
  have h2 := h.2.eq
  rw [mod_small ha.1 ha.2.1, mod_small hb.1 hb.2.1] at h1
  rw [mod_small ha.2.2.1 ha.2.2.2, mod_small hb.2.2.1 hb.2.2.2] at h2
  exact pr_ext h1 h2

def addR (a b : Pr) : Pr := ⟨a.re + b.re, a.im + b.im⟩
def subR (a b : Pr) : Pr := ⟨a.re - b.re, a.im - b.im⟩
def mulR (a b : Pr) : Pr := ⟨a.re * b.re - a.im * b.im, a.re * b.im + a.im * b.re⟩
theorem Cp.refl (a : Pr) : Cp a a := ⟨Cg.refl _, Cg.refl _⟩
theorem Cp.symm {a b : Pr} (h : Cp a b) : Cp b a := ⟨h.1.symm, h.2.symm⟩
theorem Cp.trans {a b c : Pr} (h : Cp a b) (g : Cp b c) : Cp a c := ⟨h.1.trans g.1, h.2.trans g.2⟩
theorem Cp.of_eq {a b : Pr} (h : a = b) : Cp a b := h ▸ Cp.refl a
theorem Cp.addP (a b : Pr) : Cp (addP a b) (addR a b) := ⟨Cg.mod _, Cg.mod _⟩
theorem Cp.subP (a b : Pr) : Cp (subP a b) (subR a b) := ⟨Cg.mod _, Cg.mod _⟩
theorem Cp.mulP (a b : Pr) : Cp (mulP a b) (mulR a b) := ⟨Cg.mod _, Cg.mod _⟩
theorem Cp.add {a b c d : Pr} (h : Cp a b) (g : Cp c d) : Cp (addR a c) (addR b d) := ⟨h.1.add g.1, h.2.add g.2⟩
theorem Cp.sub {a b c d : Pr} (h : Cp a b) (g : Cp c d) : Cp (subR a c) (subR b d) := ⟨h.1.sub g.1, h.2.sub g.2⟩
theorem Cp.mul {a b c d : Pr} (h : Cp a b) (g : Cp c d) : Cp (mulR a c) (mulR b d) := ⟨(h.1.mul g.1).sub (h.2.mul g.2), (h.1.mul g.2).add (h.2.mul g.1)⟩

theorem mulP_comm (a b : Pr) : mulP a b = mulP b a := by
  unfold mulP
  congr 2 <;> grind
theorem mulR_assoc (a b c : Pr) : mulR (mulR a b) c = mulR a (mulR b c) := by
  unfold mulR
  apply pr_ext <;> grind
theorem mulP_assoc (a b c : Pr) : mulP (mulP a b) c = mulP a (mulP b c) := by
  refine Cp.eq ?_ (mulP_right _ _) (mulP_right _ _)
  refine (Cp.mulP _ _).trans (((Cp.mulP a b).mul (Cp.refl c)).trans ?_)
  rw [mulR_assoc]
  exact (((Cp.refl a).mul (Cp.mulP b c)).symm).trans (Cp.mulP _ _).symm
theorem mulP_add (a b c : Pr) : mulP a (addP b c) = addP (mulP a b) (mulP a c) := by
  refine Cp.eq ?_ (mulP_right _ _) (addP_right _ _)
  refine (Cp.mulP _ _).trans (((Cp.refl a).mul (Cp.addP b c)).trans ?_)
  refine Cp.trans (Cp.of_eq ?_) (((Cp.mulP a b).add (Cp.mulP a c)).symm.trans (Cp.addP _ _).symm)
  unfold mulR addR
  apply pr_ext <;> grind
theorem add_back (b c : Pr) (hb : b.right) : subP (addP b c) c = b := by
  refine Cp.eq ?_ (subP_right _ _) hb
  refine (Cp.subP _ _).trans (((Cp.addP b c).sub (Cp.refl c)).trans (Cp.of_eq ?_))
  unfold subR addR
  apply pr_ext <;> grind
theorem mulP_one (a : Pr) (ha : a.right) : mulP a Pr.one = a := by
  refine Cp.eq ((Cp.mulP _ _).trans (Cp.of_eq ?_)) (mulP_right _ _) ha
  unfold mulR Pr.one
  apply pr_ext <;> grind
theorem one_right : Pr.one.right := by unfold Pr.right; decide
theorem zero_right : Pr.zero.right := by unfold Pr.right; decide

/-- The power, by so many products. -/
def powP (a : Pr) : Nat → Pr
  | 0 => Pr.one
  | n + 1 => mulP (powP a n) a
theorem powP_right (a : Pr) (n : Nat) : (powP a n).right := by
  cases n with
  | zero => exact one_right
  | succ n => exact mulP_right _ _
theorem powP_add (a : Pr) (n m : Nat) : mulP (powP a n) (powP a m) = powP a (n + m) := by
  induction m with
  | zero => exact mulP_one _ (powP_right a n)
  | succ m ih =>
    show mulP (powP a n) (mulP (powP a m) a) = mulP (powP a (n + m)) a
    rw [← mulP_assoc, ih]
theorem powP_sq (a : Pr) (n : Nat) : powP (mulP a a) n = powP a (2 * n) := by
  induction n with
  | zero => rfl
  | succ n ih =>
    show mulP (powP (mulP a a) n) (mulP a a) = powP a (2 * n + 2)
    rw [ih, ← mulP_assoc]
    rfl
/-- The power by halves: what has been multiplied, what is squared, how often still. -/
theorem powP_half (out a : Pr) (n : Nat) : mulP out (powP a n) = if n % 2 = 1 then mulP (mulP out a) (powP (mulP a a) (n / 2)) else mulP out (powP (mulP a a) (n / 2)) := by
  rw [powP_sq]
  by_cases h : n % 2 = 1
  · rw [if_pos h, mulP_assoc]
    congr 1
    rw [mulP_comm a]
    conv => lhs; rw [show n = 2 * (n / 2) + 1 by omega]
    rfl
  · rw [if_neg h, show 2 * (n / 2) = n by omega]

theorem pI_nat : pI = (pN : Int) := rfl
/-- Fermat's small theorem, of whole numbers. -/
theorem fermatI (a : Int) (h : a % pI ≠ 0) : Cg (a ^ 33554382) 1 := by
  have h0 := mod_right a
  obtain ⟨n, hn⟩ := Int.eq_ofNat_of_zero_le h0.1
  have h1 : n % pN ≠ 0 := by
    intro e
    have h2 : n < pN := by have := h0.2; rw [hn, pI_nat] at this; omega
    rw [Nat.mod_eq_of_lt h2] at e
    subst e
    exact h hn
  have h2 := fermat1 n h1
  have h3 : Cg (a ^ 33554382) ((n : Int) ^ 33554382) := by
    have : ∀ k : Nat, Cg (a ^ k) ((n : Int) ^ k) := by
      intro k
      induction k with
      | zero => rw [Int.pow_zero, Int.pow_zero]; exact Cg.refl _
      | succ k ih => rw [Int.pow_succ, Int.pow_succ]; exact ih.mul ((Cg.mod a).symm.trans (Cg.of_eq hn))
    exact this _
  refine h3.trans (Cg.of_mod ?_)
  have h4 : ((n ^ (pN - 1) % pN : Nat) : Int) = ((1 : Nat) : Int) := by rw [h2]
  rw [Int.natCast_emod, Int.natCast_pow] at h4
  exact h4

theorem prime_mul (x y : Int) (h : Cg (x * y) 0) : Cg x 0 ∨ Cg y 0 := by
  obtain ⟨k, hk⟩ := h
  have hd : pN ∣ x.natAbs * y.natAbs := by
    rw [← Int.natAbs_mul, hk]
    simp only [Int.zero_add, Int.natAbs_mul]
    exact Nat.dvd_mul_right pN k.natAbs
  have back : ∀ z : Int, pN ∣ z.natAbs → Cg z 0 := by
    intro z ⟨m, hm⟩
    have : (pI : Int) ∣ z := Int.dvd_natAbs.1 ⟨m, by rw [hm, pI_nat]; exact Int.natCast_mul pN m⟩
    obtain ⟨q, hq⟩ := this
    exact ⟨q, by rw [hq]; omega⟩
  rcases p_prime _ _ hd with h1 | h1
  · exact Or.inl (back x h1)
  · exact Or.inr (back y h1)
theorem Cg.zero_mod {x : Int} : Cg x 0 ↔ x % pI = 0 := by
  constructor
  · intro h; have := h.eq; simpa using this
  · intro h; exact Cg.of_mod (by rw [h]; rfl)

/-- The norm is 0 of 0 alone: p is of the form 4n + 3. -/
theorem norm_zero (x y : Int) (h : Cg (x * x + y * y) 0) : Cg x 0 ∧ Cg y 0 := by
  have sq0 : ∀ z : Int, Cg (z * z) 0 → Cg z 0 := fun z hz => by rcases prime_mul z z hz with h | h <;> exact h
  by_cases hy : Cg y 0
  · refine ⟨sq0 x ?_, hy⟩
    have := h.sub (hy.mul hy)
    exact (Cg.of_eq (by grind)).trans (this.trans (Cg.of_eq (by grind)))
  · exfalso
    have hx : ¬ Cg x 0 := by
      intro hx
      apply hy
      apply sq0
      have := h.sub (hx.mul hx)
      exact (Cg.of_eq (by grind)).trans (this.trans (Cg.of_eq (by grind)))
    have fx := fermatI x (fun e => hx (Cg.zero_mod.2 e))
    have fy := fermatI y (fun e => hy (Cg.zero_mod.2 e))
    have e1 : Cg (x * x) (-(y * y)) := by
      have := h.sub (Cg.refl (y * y))
      exact (Cg.of_eq (by grind)).trans (this.trans (Cg.of_eq (by grind)))
    have pw : ∀ (u v : Int) (k : Nat), Cg u v → Cg (u ^ k) (v ^ k) := by
      intro u v k huv
      induction k with
      | zero => rw [Int.pow_zero, Int.pow_zero]; exact Cg.refl _
      | succ k ih => rw [Int.pow_succ, Int.pow_succ]; exact ih.mul huv
    have e2 := pw _ _ 16777191 e1
    have sqp : ∀ z : Int, (z * z) ^ 16777191 = z ^ 33554382 := by
      intro z
      rw [show z * z = z ^ 2 by grind, ← Int.pow_mul]
    have ngp : ∀ z : Int, (-z) ^ 16777191 = -(z ^ 16777191) := by
      intro z
      have : ∀ k : Nat, (-z) ^ (2 * k + 1) = -(z ^ (2 * k + 1)) := by
        intro k
        induction k with
        | zero => simp [Int.pow_succ]
        | succ k ih =>
          have e : ∀ w : Int, w ^ (2 * (k + 1) + 1) = w ^ (2 * k + 1) * (w * w) := by
            intro w
            rw [show 2 * (k + 1) + 1 = (2 * k + 1) + 1 + 1 by omega, Int.pow_succ, Int.pow_succ, Int.mul_assoc]
          rw [e, e, ih]
          grind
      exact this 8388595
    rw [sqp, ngp, sqp] at e2
    have e3 : Cg (1 : Int) (-1) := fx.symm.trans (e2.trans (by
      obtain ⟨k, hk⟩ := fy
      exact ⟨-k, by rw [hk, Int.mul_neg]; omega⟩))
    have := e3.eq
    revert this
    decide
end Go.Proofs.Ytddmnmeijnncmab
