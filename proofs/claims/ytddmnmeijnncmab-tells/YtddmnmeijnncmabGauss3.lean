/-
  Inverses, norms, digests of pairs modulo the prime; nothing of the program is in this text.
-/
import Derived.Test.YtddmnmeijnncmabGauss2
namespace Go.Proofs.Ytddmnmeijnncmab

theorem norm_mod (a : Pr) : normP a % pI = normP a := mod_small (mod_right _).1 (mod_right _).2
theorem norm_mul (a b : Pr) : normP (mulP a b) = normP a * normP b % pI := by
  have h : Cg (normP (mulP a b)) (normP a * normP b) := by
    have h1 := Cp.mulP a b
    refine (Cg.mod _).trans (((h1.1.mul h1.1).add (h1.2.mul h1.2)).trans ?_)
    refine Cg.trans (Cg.of_eq ?_) ((Cg.mod (a.re * a.re + a.im * a.im)).mul (Cg.mod (b.re * b.re + b.im * b.im))).symm
    unfold mulR
    grind
  have := h.eq
  rw [norm_mod] at this
  exact this
theorem norm_iff (a : Pr) (ha : a.right) : normP a = 0 ↔ a = Pr.zero := by
  constructor
  · intro h
    obtain ⟨h1, h2⟩ := norm_zero a.re a.im (Cg.zero_mod.2 h)
    refine Cp.eq ⟨h1, h2⟩ ha zero_right
  · rintro rfl; rfl
theorem norm_parts (a : Pr) : normP a = (a.re * a.re % pI + a.im * a.im % pI) % pI := by
  unfold normP
  exact ((Cg.mod (a.re * a.re)).add (Cg.mod (a.im * a.im))).symm.eq

/-- The power of a number by halves. -/
theorem powI_half (out a : Int) (n : Nat) : Cg (out * a ^ n) (if n % 2 = 1 then (out * a % pI) * (a * a % pI) ^ (n / 2) else out * (a * a % pI) ^ (n / 2)) := by
  have pw : ∀ (u v : Int) (k : Nat), Cg u v → Cg (u ^ k) (v ^ k) := by
    intro u v k huv
    induction k with
    | zero => rw [Int.pow_zero, Int.pow_zero]; exact Cg.refl _
    | succ k ih => rw [Int.pow_succ, Int.pow_succ]; exact ih.mul huv
  have h1 : Cg ((a * a % pI) ^ (n / 2)) (a ^ (2 * (n / 2))) := by
    refine (pw _ _ _ (Cg.mod (a * a))).trans (Cg.of_eq ?_)
    rw [show a * a = a ^ 2 by grind, ← Int.pow_mul]
  by_cases h : n % 2 = 1
  · rw [if_pos h]
    refine Cg.trans (Cg.of_eq ?_) ((Cg.mod (out * a)).mul h1).symm
    conv => lhs; rw [show n = 2 * (n / 2) + 1 by omega, Int.pow_succ]
    grind
  · rw [if_neg h]
    refine Cg.trans (Cg.of_eq ?_) ((Cg.refl out).mul h1).symm
    rw [show 2 * (n / 2) = n by omega]

/-- The inverse, by the norm's. -/
def invP (a : Pr) : Pr := ⟨a.re * (normP a ^ 33554381 % pI) % pI, (pI - a.im) % pI * (normP a ^ 33554381 % pI) % pI⟩
theorem invP_right (a : Pr) : (invP a).right := ⟨(mod_right _).1, (mod_right _).2, (mod_right _).1, (mod_right _).2⟩
theorem inv_mul (a : Pr) (ha : a.right) (h0 : a ≠ Pr.zero) : mulP a (invP a) = Pr.one := by
  have hn : normP a ≠ 0 := fun e => h0 ((norm_iff a ha).1 e)
  have hn2 : normP a % pI ≠ 0 := by rw [norm_mod]; exact hn
  have hf := fermatI (normP a) hn2
  have hp : normP a ^ 33554382 = normP a ^ 33554381 * normP a := Int.pow_succ _ 33554381
  rw [hp] at hf
  have hi := Cg.mod (normP a ^ 33554381)
  have hnn := Cg.mod (a.re * a.re + a.im * a.im)
  unfold invP
  generalize normP a ^ 33554381 = i at *
  have hone : Cg (i * (a.re * a.re + a.im * a.im)) 1 := ((Cg.refl i).mul hnn.symm).trans hf
  have him : Cg ((pI - a.im) % pI) (-a.im) := (Cg.mod _).trans ⟨1, by rw [Int.mul_one]; omega⟩
  have hre : Cg (a.re * (i % pI) % pI) (a.re * i) := (Cg.mod _).trans ((Cg.refl _).mul hi)
  have hiim : Cg ((pI - a.im) % pI * (i % pI) % pI) (-a.im * i) := (Cg.mod _).trans (him.mul hi)
  refine Cp.eq ((Cp.mulP _ _).trans ⟨?_, ?_⟩) (mulP_right _ _) one_right
  · refine (((Cg.refl a.re).mul hre).sub ((Cg.refl a.im).mul hiim)).trans ((Cg.of_eq ?_).trans hone)
    grind
  · refine (((Cg.refl a.re).mul hiim).add ((Cg.refl a.im).mul hre)).trans (Cg.of_eq ?_)
    show a.re * (-a.im * i) + a.im * (a.re * i) = 0
    grind
/-- It is the only one. -/
theorem inv_only (a b : Pr) (ha : a.right) (hb : b.right) (h : mulP a b = Pr.one) : b = invP a := by
  have h0 : a ≠ Pr.zero := by
    rintro rfl
    have h1 := congrArg Pr.re h
    have h2 : (mulP Pr.zero b).re = 0 := by
      show (0 * b.re - 0 * b.im) % pI = 0
      rw [Int.zero_mul, Int.zero_mul]; rfl
    rw [h2] at h1
    exact absurd h1 (by decide)
  have e : mulP b (mulP a (invP a)) = mulP (mulP b a) (invP a) := (mulP_assoc _ _ _).symm
  rw [inv_mul a ha h0, mulP_one b hb, mulP_comm b a, h, mulP_comm Pr.one, mulP_one _ (invP_right a)] at e
  exact e

/-- What a digest is multiplied with. -/
def gP : Pr := ⟨2, 3⟩
def stepP (d : Pr) (v : Int) : Pr := addP (mulP d gP) ⟨v, 0⟩
def runP (d : Pr) (vs : List Int) : Pr := vs.foldl stepP d
/-- The numbers that a text puts into a digest. -/
def textV (s : List UInt8) : List Int := ((257 + (s.length : Int)) % pI) :: s.map fun c => (c.toNat : Int) + 1
def onP (d : Pr) (s : List UInt8) : Pr := runP d (textV s)
def joinP (d e : Pr) (n : Nat) : Pr := addP (mulP (subP d Pr.one) (powP gP n)) e

theorem runP_right (d : Pr) (vs : List Int) (hd : d.right) : (runP d vs).right := by
  induction vs generalizing d with
  | nil => exact hd
  | cons v vs ih => exact ih _ (addP_right _ _)
theorem runP_append (d : Pr) (a b : List Int) : runP d (a ++ b) = runP (runP d a) b := by simp [runP]

/-- P3.3: the digest of texts is that of the first ones, joined with that of the others. -/
theorem run_join (d : Pr) (vs : List Int) (hd : d.right) : runP d vs = joinP d (runP Pr.one vs) vs.length := by
  have key : ∀ n (vs : List Int), vs.length = n → runP d vs = joinP d (runP Pr.one vs) n := by
    intro n
    induction n with
    | zero =>
      intro vs h
      have : vs = [] := List.eq_nil_of_length_eq_zero h
      subst this
      show d = addP (mulP (subP d Pr.one) Pr.one) Pr.one
      rw [mulP_one _ (subP_right _ _)]
      refine (Cp.eq ?_ (addP_right _ _) hd).symm
      refine (Cp.addP _ _).trans (((Cp.subP d Pr.one).add (Cp.refl _)).trans (Cp.of_eq ?_))
      unfold addR subR
      apply pr_ext <;> grind
    | succ n ih =>
      intro vs h
      have hne : vs ≠ [] := by intro e; rw [e] at h; simp at h
      obtain ⟨us, v, rfl⟩ : ∃ us v, vs = us ++ [v] := ⟨vs.dropLast, vs.getLast hne, (List.dropLast_concat_getLast hne).symm⟩
      have hu : us.length = n := by simpa using h
      rw [runP_append, runP_append, ih us hu]
      show addP (mulP (joinP d (runP Pr.one us) n) gP) ⟨v, 0⟩ = addP (mulP (subP d Pr.one) (mulP (powP gP n) gP)) (addP (mulP (runP Pr.one us) gP) ⟨v, 0⟩)
      unfold joinP
      rw [mulP_comm (addP _ _) gP, mulP_add, mulP_comm gP (mulP _ _), mulP_assoc, mulP_comm gP (runP _ _)]
      refine Cp.eq ?_ (addP_right _ _) (addP_right _ _)
      refine (Cp.addP _ _).trans (((Cp.addP _ _).add (Cp.refl _)).trans ?_)
      refine Cp.trans (Cp.of_eq ?_) (((Cp.refl _).add (Cp.addP _ _)).symm.trans (Cp.addP _ _).symm)
      unfold addR
      apply pr_ext <;> grind
  exact key _ vs rfl

theorem mul_g_zero (u : Pr) (hu : u.right) (h : mulP u gP = Pr.zero) : u = Pr.zero := by
  have h1 := norm_mul u gP
  rw [h] at h1
  have h2 : Cg (normP u * normP gP) 0 := Cg.zero_mod.2 (by rw [← h1]; rfl)
  rcases prime_mul _ _ h2 with h3 | h3
  · refine (norm_iff u hu).1 ?_
    have := Cg.zero_mod.1 h3
    rwa [norm_mod] at this
  · exact absurd (Cg.zero_mod.1 h3) (by decide)
theorem sub_zero {a b : Pr} (ha : a.right) (hb : b.right) : subP a b = Pr.zero ↔ a = b := by
  constructor
  · intro h
    have h1 := congrArg Pr.re h
    have h2 := congrArg Pr.im h
    have c1 : Cg (a.re - b.re) 0 := Cg.zero_mod.2 h1
    have c2 : Cg (a.im - b.im) 0 := Cg.zero_mod.2 h2
    refine Cp.eq ⟨?_, ?_⟩ ha hb
    · exact (Cg.of_eq (by omega)).trans ((c1.add (Cg.refl b.re)).trans (Cg.of_eq (by omega)))
    · exact (Cg.of_eq (by omega)).trans ((c2.add (Cg.refl b.im)).trans (Cg.of_eq (by omega)))
  · rintro rfl
    unfold subP Pr.zero
    apply pr_ext <;> simp
/-- Two digests that part stay apart. -/
theorem step_apart (a b : Pr) (v : Int) (ha : a.right) (hb : b.right) (h : stepP a v = stepP b v) : a = b := by
  rw [← sub_zero ha hb]
  apply mul_g_zero _ (subP_right _ _)
  have h1 : subP (mulP a gP) (mulP b gP) = Pr.zero := by
    rw [sub_zero (mulP_right _ _) (mulP_right _ _)]
    have h2 := congrArg (fun x => subP x ⟨v, 0⟩) h
    simp only [stepP, add_back _ _ (mulP_right _ _)] at h2
    exact h2
  rw [← h1]
  refine Cp.eq ?_ (mulP_right _ _) (subP_right _ _)
  refine (Cp.mulP _ _).trans (((Cp.subP a b).mul (Cp.refl gP)).trans ?_)
  refine Cp.trans (Cp.of_eq ?_) (((Cp.mulP a gP).sub (Cp.mulP b gP)).symm.trans (Cp.subP _ _).symm)
  unfold mulR subR
  apply pr_ext <;> grind
theorem run_apart (a b : Pr) (vs : List Int) (ha : a.right) (hb : b.right) (h : runP a vs = runP b vs) : a = b := by
  induction vs generalizing a b with
  | nil => exact h
  | cons v vs ih => exact step_apart a b v ha hb (ih _ _ (addP_right _ _) (addP_right _ _) h)
/-- P3.2: two texts that differ in one place alone have different digests. -/
theorem run_tells (d : Pr) (a b : List Int) (u v : Int) (hne : ¬ Cg u v) : runP d (a ++ u :: b) ≠ runP d (a ++ v :: b) := by
  intro h
  rw [runP_append, runP_append] at h
  have h1 := run_apart (stepP (runP d a) u) (stepP (runP d a) v) b (addP_right _ _) (addP_right _ _) h
  have h2 := congrArg Pr.re h1
  have h3 : Cg ((mulP (runP d a) gP).re + u) ((mulP (runP d a) gP).re + v) := Cg.of_mod h2
  apply hne
  have := h3.sub (Cg.refl (mulP (runP d a) gP).re)
  exact (Cg.of_eq (by omega)).trans (this.trans (Cg.of_eq (by omega)))
theorem byte_apart (c e : UInt8) (h : c ≠ e) : ¬ Cg ((c.toNat : Int) + 1) ((e.toNat : Int) + 1) := by
  intro hc
  have h1 := hc.eq
  have hp : pI = 33554383 := rfl
  have := c.toNat_lt
  have := e.toNat_lt
  rw [mod_small (by omega) (by omega), mod_small (by omega) (by omega)] at h1
  exact h (UInt8.toNat_inj.1 (by omega))
theorem on_tells (d : Pr) (a b : List UInt8) (c e : UInt8) (h : c ≠ e) : onP d (a ++ c :: b) ≠ onP d (a ++ e :: b) := by
  unfold onP textV
  have hl : (a ++ c :: b).length = (a ++ e :: b).length := by simp
  rw [hl, List.map_append, List.map_append, List.map_cons, List.map_cons, ← List.cons_append, ← List.cons_append]
  exact run_tells d _ _ _ _ (byte_apart c e h)

end Go.Proofs.Ytddmnmeijnncmab
