/-
  A region that draws its order, by what each of its operations leaves behind, where what is known of the world hangs on which operations have come up (mkphil out of PhiT); nothing of the program is in this text.
-/
import Derived.Test.YtjgbgbgajadgnaaZPhiT
namespace Go.Proofs.Ytjgbgbgajadgnaa
open Go Go.RowKit

set_option linter.unusedSimpArgs false
section
variable {P : Program} {ops : Array Oper} {Q : Exit → Act → World → Prop}/-- One more has come up. -/
def updL (l : Nat → Bool) (i : Nat) : Nat → Bool := fun k => if k = i then true else l k
theorem wpAny_staged {ns : Nat} {uses : Nat → List Nat} {a : Act} {w : World} (hok : phiOk ops ns = true) (hu : usesOk ops uses = true) (S : (Nat → Bool) → Act → World → Prop) (h0 : S (fun _ => false) a w)
    (H : Nat → (Nat → Value) → Prop) (hC : ∀ i s s', (∀ d ∈ uses i, s d = s' d) → H i s → H i s')
    (step : ∀ i o, ops.toList[i]? = some o → ∀ a' w' (l : Nat → Bool), l i = false → (∀ k, reachOn ops ops.size i k = true → l k = true) → (∀ k, reachOn ops ops.size k i = true → l k = false) → Same ops a a' → S l a' w' → (∀ k, (o.after.toList.any fun e => Region.binds .any e && e.on == k) = true → H k (slots a')) → wpOp P ops Q i (fun a'' w'' => ∃ v, a'' = a'.put o.dst v ∧ H i (slots a'') ∧ S (updL l i) (a'.put o.dst v) w'') a' w')
    (done : ∀ a' w' l, (∀ i, i < ops.size → l i = true) → Same ops a a' → S l a' w' → (∀ i, i < ops.size → H i (slots a')) → Q .normal a' w') : wpAny P .any ops Q ops.size (Array.replicate ops.size false) a w := by
  refine wpAny_inv (fun listed a' w' => listed.size = ops.size ∧ Same ops a a' ∧ S (fun k => listed.getD k false) a' w' ∧ (∀ i o, ops[i]? = some o → listed.getD i false = true → ∀ e ∈ o.after, Region.binds .any e = true → listed.getD e.on false = true) ∧ ∀ i o, ops[i]? = some o → listed.getD i false = true → H i (slots a')) ?_ ?_ _ _ _ _ (Nat.le_trans List.countP_le_length (by simp)) ⟨by simp, Same.refl _ _, by
      have e : (fun k => (Array.replicate ops.size false).getD k false) = fun _ => false := by
        funext k
        rw [Array.getD_eq_getD_getElem?]
        rcases Nat.lt_or_ge k ops.size with h | h
        · simp [h]
        · simp [Array.getElem?_eq_none (show (Array.replicate ops.size false).size ≤ k by simp; exact h)]
      rw [e]
      exact h0, fun i o ho hl => ?_, fun i o ho hl => ?_⟩
  · rintro listed a' w' i hi ⟨hz, hsa, hb, hcl, hh⟩
    obtain ⟨h1, o, ho, hdep⟩ := mem_ready.1 hi
    have hlt9 := (Array.getElem?_eq_some_iff.1 ho).1
    have hi0 : listed.getD i false = false := by simpa [Array.getD_eq_getD_getElem?, show i < listed.size by omega] using h1
    refine wpOp_mono ?_ (step i o (by rw [Array.getElem?_toList]; exact ho) a' w' (fun k => listed.getD k false) hi0 ?_ ?_ hsa hb fun k hk => ?_)
    · rintro a'' w'' ⟨v, rfl, hv, hr⟩
      refine ⟨by rw [Array.size_setIfInBounds]; exact hz, hsa.put ho, ?_, fun j oj hoj hl e he hbn => ?_, fun j oj hoj hl => ?_⟩
      · have e : (fun k => (listed.setIfInBounds i true).getD k false) = updL (fun k => listed.getD k false) i := by
          funext k
          unfold updL
          by_cases x : k = i
          · subst x
            simp [Array.getD_eq_getD_getElem?, show k < listed.size by omega]
          · rw [if_neg x, getD_set_ne false (fun y => x y.symm)]
        rw [e]
        exact hr
      · by_cases x : i = j
        · subst x
          rw [ho] at hoj
          obtain rfl := Option.some.inj hoj
          exact getD_set_true (hdep e he hbn)
        · rw [getD_set_ne false x] at hl
          exact getD_set_true (hcl j oj hoj hl e he hbn)
      · by_cases x : i = j
        · subst x
          exact hv
        · rw [getD_set_ne false x] at hl
          refine hC j (slots a') _ (fun d hd => ?_) (hh j oj hoj hl)
          cases hod : o.dst with
          | none => rfl
          | some d' =>
            by_cases y : d' = d
            · subst y
              exfalso
              rcases usesOk_spec hu hoj ho hd hod with z | ⟨e, he, hbn, hon⟩
              · exact x z
              · have h5 := hcl j oj hoj hl e he hbn
                rw [hon, hi0] at h5
                cases h5
            · unfold slots
              simp [Act.put, Array.getD_eq_getD_getElem?, Array.getElem?_setIfInBounds_ne y]
    · intro k hk
      obtain ⟨n, en⟩ : ∃ n, ops.size = n + 1 := ⟨ops.size - 1, by omega⟩
      rw [en] at hk
      unfold reachOn at hk
      rw [ho] at hk
      simp only [Option.map_some, Option.getD_some] at hk
      obtain ⟨e, he, hx⟩ := List.any_eq_true.1 hk
      rw [Bool.and_eq_true] at hx
      have h5 := hdep e (by rw [← Array.mem_toList_iff]; exact he) hx.1
      rcases Bool.or_eq_true _ _ ▸ hx.2 with h6 | h6
      · rw [beq_iff_eq] at h6
        rw [← h6]
        exact h5
      · exact reachOn_listed hcl n e.on k h6 h5
    · intro k hk
      show listed.getD k false = false
      cases hb9 : listed.getD k false with
      | false => rfl
      | true =>
        exfalso
        have h5 := reachOn_listed hcl _ k i hk hb9
        rw [hi0] at h5
        cases h5
    · obtain ⟨e, he, hx⟩ := List.any_eq_true.1 hk
      simp only [Bool.and_eq_true, beq_iff_eq] at hx
      obtain ⟨hbn, rfl⟩ := hx
      have he' : e ∈ o.after := by rw [← Array.mem_toList_iff]; exact he
      have hlt := (phiOk_spec hok).2.2 i o ho e he' hbn
      exact hh e.on _ (Array.getElem?_eq_getElem (show e.on < ops.size by omega)) (hdep e he' hbn)
  · rintro listed a' w' hr ⟨hz, hsa, hb, hcl, hh⟩
    have all : ∀ i o, ops[i]? = some o → listed.getD i false = true := by
      intro i
      induction i using Nat.strongRecOn with
      | _ i ih =>
        intro o ho
        cases hl : listed.getD i true with
        | false =>
          exfalso
          have : i ∈ Region.ready .any ops listed := mem_ready.2 ⟨hl, o, ho, fun e he hbn => by
            have hlt := (phiOk_spec hok).2.2 i o ho e he hbn
            have hi := (Array.getElem?_eq_some_iff.1 ho).1
            exact ih e.on hlt _ (Array.getElem?_eq_getElem (show e.on < ops.size by omega))⟩
          rw [hr] at this
          cases this
        | true =>
          rcases Nat.lt_or_ge i listed.size with h | h
          · simpa [Array.getD_eq_getD_getElem?, h] using hl
          · have hi := (Array.getElem?_eq_some_iff.1 ho).1
            omega
    exact done a' w' _ (fun i hi => all i _ (Array.getElem?_eq_getElem hi)) hsa hb fun i hi => hh i _ (Array.getElem?_eq_getElem hi) (all i _ (Array.getElem?_eq_getElem hi))
  all_goals
    have hi := (Array.getElem?_eq_some_iff.1 ho).1
    simp [Array.getD_eq_getD_getElem?, hi] at hl
end
end Go.Proofs.Ytjgbgbgajadgnaa
