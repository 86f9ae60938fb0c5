/-
  A region that draws its order, walked by an invariant over what has come up, not order by order; nothing of the program is in this text.
-/
import Derived.Orders
namespace Go.Proofs.Ytjgbgbgajadgnaa
open Go

theorem countP_less {p q : Nat → Bool} {L : List Nat} {i : Nat} (hi : i ∈ L) (hpq : ∀ k, q k = true → p k = true) (hp : p i = true) (hq : q i = false) : L.countP q < L.countP p := by
  induction L with
  | nil => cases hi
  | cons a L ih =>
    rw [List.countP_cons, List.countP_cons]
    have hle : L.countP q ≤ L.countP p := List.countP_mono_left fun k _ => hpq k
    by_cases e : a = i
    · subst e
      simp [hp, hq]
      omega
    · have h1 := ih (by
        rcases List.mem_cons.1 hi with h | h
        · exact absurd h.symm e
        · exact h)
      have h2 : (if q a = true then 1 else 0) ≤ (if p a = true then 1 else 0) := by
        cases h : q a
        · simp
        · simp [hpq a h]
      omega
/-- How many have not come up. -/
def left (n : Nat) (listed : Array Bool) : Nat := (List.range n).countP fun k => !listed.getD k true
theorem left_set {ops : Array Oper} {md : Region.Mode} {listed : Array Bool} {i : Nat} (h : i ∈ Region.ready md ops listed) : left ops.size (listed.setIfInBounds i true) < left ops.size listed := by
  obtain ⟨h1, o, h2, _⟩ := mem_ready.1 h
  have hn : i < ops.size := (Array.getElem?_eq_some_iff.1 h2).1
  refine countP_less (i := i) (List.mem_range.2 hn) ?_ (by simp only [h1]; rfl) ?_
  · intro k hk
    by_cases e : i = k
    · subst e; simp only [h1]; rfl
    · rw [getD_set_ne true e] at hk
      exact hk
  · have hl : i < listed.size := by
      rcases Nat.lt_or_ge i listed.size with h' | h'
      · exact h'
      · rw [Array.getD_eq_getD_getElem?, Array.getElem?_eq_none h'] at h1
        cases h1
    simp [Array.getD_eq_getD_getElem?, hl]
theorem wpAny_inv {P : Program} {md : Region.Mode} {ops : Array Oper} {Q : Exit → Act → World → Prop} (I : Array Bool → Act → World → Prop)
    (step : ∀ listed a w i, i ∈ Region.ready md ops listed → I listed a w → wpOp P ops Q i (fun a' w' => I (listed.setIfInBounds i true) a' w') a w)
    (done : ∀ listed a w, Region.ready md ops listed = [] → I listed a w → Q .normal a w) :
    ∀ (fuel : Nat) (listed : Array Bool) (a : Act) (w : World), left ops.size listed ≤ fuel → I listed a w → wpAny P md ops Q fuel listed a w := by
  intro fuel
  induction fuel with
  | zero =>
    intro listed a w hl h
    have hr : Region.ready md ops listed = [] := by
      cases e : Region.ready md ops listed with
      | nil => rfl
      | cons i l =>
        have := left_set (md := md) (ops := ops) (listed := listed) (i := i) (by rw [e]; exact List.mem_cons_self)
        omega
    exact ⟨hr, done listed a w hr h⟩
  | succ fuel ih =>
    intro listed a w hl h
    refine ⟨fun hr => done listed a w hr h, fun i hi => ?_⟩
    refine wpOp_mono (fun a' w' h' => ih _ a' w' ?_ h') (step listed a w i hi h)
    have := left_set hi
    omega
/-- A region that draws its order: an invariant that each operation keeps, whatever came up ahead of it. -/
theorem wp_region_inv {P : Program} {id : Nat} {ops : Array Oper} {Q : Exit → Act → World → Prop} {a : Act} {w : World} (hm : P.follows .mixedOrders = true) (I : Array Bool → Act → World → Prop) (h0 : I (Array.replicate ops.size false) a { w with drawn := w.drawn + 1 })
    (step : ∀ listed a w i, i ∈ Region.ready .any ops listed → I listed a w → wpOp P ops Q i (fun a' w' => I (listed.setIfInBounds i true) a' w') a w)
    (done : ∀ listed a w, Region.ready .any ops listed = [] → I listed a w → Q .normal a w) : (Code.region id ops true).wp P Q a w :=
  wp_region_any hm (wpAny_inv I step done _ _ _ _ (Nat.le_trans List.countP_le_length (by simp)) h0)
end Go.Proofs.Ytjgbgbgajadgnaa
