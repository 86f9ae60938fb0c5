/-
  Views and members, on lists; nothing of the program is in this text.
-/
import Derived.WalkKit
namespace Go.Proofs.Ytafjngmdandgmaa

structure MB where
  node : Int
  life : Int
deriving DecidableEq
structure VW where
  num : Int
  mem : List MB
abbrev big : Int := 9007199254740991
def MB.right (m : MB) : Prop := 0 ≤ m.node ∧ m.node < 7 ∧ 1 ≤ m.life ∧ m.life ≤ big
instance (m : MB) : Decidable m.right := by unfold MB.right; infer_instance
/-- Is the one at i right, and behind the one ahead of it? -/
def okAt (L : List MB) (i : Nat) : Prop := ∀ m, L[i]? = some m → m.right ∧ ∀ k, 0 < i → L[i - 1]? = some k → k.node < m.node
instance (L : List MB) (i : Nat) : Decidable (okAt L i) := by
  unfold okAt
  cases h : L[i]? with
  | none => exact .isTrue fun m e => by cases e
  | some m =>
    by_cases hm : m.right
    · by_cases hi : 0 < i
      · cases h2 : L[i - 1]? with
        | none => exact .isTrue fun x e => by cases e; exact ⟨hm, fun k _ e => by cases e⟩
        | some k =>
          by_cases hk : k.node < m.node
          · exact .isTrue fun x e => by cases e; exact ⟨hm, fun y _ e => by cases e; exact hk⟩
          · exact .isFalse fun c => hk ((c m rfl).2 k hi rfl)
      · exact .isTrue fun x e => by cases e; exact ⟨hm, fun k c => absurd c hi⟩
    · exact .isFalse fun c => hm (c m rfl).1
def VW.right (v : VW) : Prop := 1 ≤ v.num ∧ v.num ≤ big ∧ 1 ≤ v.mem.length ∧ v.mem.length ≤ 7 ∧ ∀ i, i < v.mem.length → okAt v.mem i
instance (v : VW) : Decidable v.right := by unfold VW.right; infer_instance
def VW.maj (v : VW) : Nat := v.mem.length / 2 + 1
def comm (L M : List MB) : Nat := (L.filter fun m => decide (m ∈ M)).length
/-- The greatest life of a node. -/
def lifeOf (A : List MB) (n : Int) : Int := A.foldl (fun x m => if m.node = n then max x m.life else x) 0
def nextOne (A : List MB) (wanted : List Int) (n : Nat) : List MB := if (n : Int) ∈ wanted ∧ 0 < lifeOf A n then [⟨n, lifeOf A n⟩] else []
def nextUpto (A : List MB) (wanted : List Int) (n : Nat) : List MB := (List.range n).flatMap (nextOne A wanted)
/-- The next view, or the error. -/
def VW.next (v : VW) (A : List MB) (wanted : List Int) : VW × Int :=
  if ¬ v.right ∨ v.num = big then (⟨0, []⟩, 1)
  else if ¬ (∀ m ∈ A, m.right) then (⟨0, []⟩, 1)
  else if comm v.mem (nextUpto A wanted 7) < v.maj then (⟨0, []⟩, 12)
  else (⟨v.num + 1, nextUpto A wanted 7⟩, 0)
theorem nextUpto_succ (A : List MB) (wanted : List Int) (n : Nat) : nextUpto A wanted (n + 1) = nextUpto A wanted n ++ nextOne A wanted n := by
  unfold nextUpto
  rw [List.range_succ, List.flatMap_append]
  simp
theorem mem_nextUpto {A : List MB} {wanted : List Int} {n : Nat} {m : MB} (h : m ∈ nextUpto A wanted n) : 0 ≤ m.node ∧ m.node < n ∧ m.node ∈ wanted ∧ 0 < lifeOf A m.node ∧ m.life = lifeOf A m.node := by
  obtain ⟨k, hk, hm⟩ := List.mem_flatMap.1 h
  have := List.mem_range.1 hk
  unfold nextOne at hm
  split at hm
  · rename_i c
    obtain rfl := List.mem_singleton.1 hm
    exact ⟨by show (0 : Int) ≤ (k : Int); omega, by show (k : Int) < _; omega, c.1, c.2, rfl⟩
  · cases hm
theorem lifeOf_acc (A : List MB) (n : Int) : ∀ x : Int, 0 ≤ x → (∀ m ∈ A, m.node = n → m.life ≤ A.foldl (fun x m => if m.node = n then max x m.life else x) x) ∧ x ≤ A.foldl (fun x m => if m.node = n then max x m.life else x) x ∧ (A.foldl (fun x m => if m.node = n then max x m.life else x) x = x ∨ ∃ m ∈ A, m.node = n ∧ m.life = A.foldl (fun x m => if m.node = n then max x m.life else x) x) := by
  induction A with
  | nil => exact fun x _ => ⟨fun _ h => absurd h List.not_mem_nil, Int.le_refl _, .inl rfl⟩
  | cons a A ih =>
    intro x hx
    simp only [List.foldl_cons]
    by_cases ha : a.node = n
    · rw [if_pos ha]
      obtain ⟨h1, h2, h3⟩ := ih (max x a.life) (by omega)
      refine ⟨fun m hm e => ?_, by omega, ?_⟩
      · rcases List.mem_cons.1 hm with rfl | hm
        · omega
        · exact h1 m hm e
      · rcases h3 with e | ⟨m, hm, e1, e2⟩
        · by_cases c : a.life ≤ x
          · exact .inl (by omega)
          · exact .inr ⟨a, List.mem_cons_self, ha, by omega⟩
        · exact .inr ⟨m, List.mem_cons_of_mem _ hm, e1, e2⟩
    · rw [if_neg ha]
      obtain ⟨h1, h2, h3⟩ := ih x hx
      refine ⟨fun m hm e => ?_, h2, ?_⟩
      · rcases List.mem_cons.1 hm with rfl | hm
        · exact absurd e ha
        · exact h1 m hm e
      · rcases h3 with e | ⟨m, hm, e1, e2⟩
        · exact .inl e
        · exact .inr ⟨m, List.mem_cons_of_mem _ hm, e1, e2⟩
/-- Who is alive with the greatest life. -/
theorem lifeOf_some {A : List MB} {n : Int} (h : 0 < lifeOf A n) : (⟨n, lifeOf A n⟩ : MB) ∈ A := by
  obtain ⟨_, _, h3⟩ := lifeOf_acc A n 0 (Int.le_refl _)
  rcases h3 with e | ⟨m, hm, e1, e2⟩
  · unfold lifeOf at h; omega
  · obtain ⟨a, b⟩ := m
    simp only at e1 e2
    subst e1
    have : (⟨a, lifeOf A a⟩ : MB) = ⟨a, b⟩ := by unfold lifeOf; rw [← e2]
    rw [this]
    exact hm
theorem next_alive {A : List MB} {wanted : List Int} {n : Nat} {m : MB} (h : m ∈ nextUpto A wanted n) : m ∈ A ∧ m.node ∈ wanted := by
  obtain ⟨_, _, h3, h4, h5⟩ := mem_nextUpto h
  have := lifeOf_some h4
  rw [← h5] at this
  exact ⟨this, h3⟩
/-- Its members rise. -/
theorem next_rise (A : List MB) (wanted : List Int) (n : Nat) : (nextUpto A wanted n).Pairwise fun a b => a.node < b.node := by
  induction n with
  | zero => exact List.Pairwise.nil
  | succ n ih =>
    rw [nextUpto_succ, List.pairwise_append]
    refine ⟨ih, ?_, fun a ha b hb => ?_⟩
    · unfold nextOne
      split
      · exact List.pairwise_singleton _ _
      · exact List.Pairwise.nil
    · have h1 := (mem_nextUpto ha).2.1
      unfold nextOne at hb
      split at hb
      · obtain rfl := List.mem_singleton.1 hb
        exact h1
      · cases hb
theorem next_len (A : List MB) (wanted : List Int) (n : Nat) : (nextUpto A wanted n).length ≤ n := by
  induction n with
  | zero => exact Nat.le_refl _
  | succ n ih =>
    rw [nextUpto_succ, List.length_append]
    have : (nextOne A wanted n).length ≤ 1 := by
      unfold nextOne
      split
      · exact Nat.le_refl _
      · exact Nat.zero_le _
    omega
theorem rise_ok {L : List MB} (h : L.Pairwise fun a b => a.node < b.node) (hr : ∀ m ∈ L, m.right) : ∀ i, i < L.length → okAt L i := by
  intro i hi m hm
  refine ⟨hr m (List.mem_of_getElem? hm), fun k h0 hk => ?_⟩
  obtain ⟨h1, rfl⟩ := List.getElem?_eq_some_iff.1 hm
  obtain ⟨h2, rfl⟩ := List.getElem?_eq_some_iff.1 hk
  exact List.pairwise_iff_getElem.1 h (i - 1) i h2 h1 (by omega)
theorem ok_rise {L : List MB} (h : ∀ i, i < L.length → okAt L i) : (L.Pairwise fun a b => a.node < b.node) ∧ ∀ m ∈ L, m.right := by
  constructor
  · rw [List.pairwise_iff_getElem]
    intro i j hi hj hij
    induction j with
    | zero => omega
    | succ j ih =>
      have h1 := (h (j + 1) hj L[j + 1] (List.getElem?_eq_getElem hj)).2 L[j] (by omega) (List.getElem?_eq_getElem (by omega))
      by_cases e : i = j
      · subst e; exact h1
      · have := ih (by omega) (by omega)
        omega
  · intro m hm
    obtain ⟨i, hi, rfl⟩ := List.getElem_of_mem hm
    exact (h i hi _ (List.getElem?_eq_getElem hi)).1
/-- What Next tells is right. -/
theorem next_right {v : VW} {A : List MB} {wanted : List Int} {a : VW} (h : v.next A wanted = (a, 0)) : a.right ∧ a.num = v.num + 1 ∧ a.mem = nextUpto A wanted 7 ∧ v.maj ≤ comm v.mem a.mem ∧ v.right := by
  unfold VW.next at h
  split at h
  · cases h
  · rename_i c1
    split at h
    · cases h
    · rename_i c2
      split at h
      · cases h
      · rename_i c3
        obtain rfl : _ = a := congrArg Prod.fst h
        have hv : v.right := Decidable.not_not.1 fun e => c1 (.inl e)
        have hn : v.num ≠ big := fun e => c1 (.inr e)
        have hA : ∀ m ∈ A, m.right := Decidable.not_not.1 c2
        have hm : v.maj ≤ comm v.mem (nextUpto A wanted 7) := by omega
        have hpos : 1 ≤ (nextUpto A wanted 7).length := by
          have h1 : 1 ≤ comm v.mem (nextUpto A wanted 7) := by unfold VW.maj at hm; omega
          cases hl : nextUpto A wanted 7 with
          | nil =>
            rw [hl] at h1
            unfold comm at h1
            have e0 : (v.mem.filter fun m => decide (m ∈ ([] : List MB))) = [] := List.filter_eq_nil_iff.2 fun m _ => by simp
            rw [e0] at h1
            exact absurd h1 (by decide)
          | cons x l => show 1 ≤ (x :: l).length; simp
        obtain ⟨h1, h2, _⟩ := hv
        refine ⟨⟨by show 1 ≤ v.num + 1; omega, by show v.num + 1 ≤ big; omega, hpos, next_len _ _ _, rise_ok (next_rise _ _ _) fun m hmm => ?_⟩, rfl, rfl, hm, Decidable.not_not.1 fun e => c1 (.inl e)⟩
        exact hA m (next_alive hmm).1
/-- Two lots of more than half meet. -/
theorem filters_meet {α : Type} (p q : α → Bool) : ∀ L : List α, (L.filter p).length + (L.filter q).length ≤ L.length + (L.filter fun x => p x && q x).length
  | [] => Nat.le_refl _
  | x :: L => by
    have ih := filters_meet p q L
    simp only [List.filter_cons]
    cases hp : p x <;> cases hq : q x <;> simp <;> omega
theorem next_meet {v : VW} {A B : List MB} {wanted : List Int} {a b : VW} (ha : v.next A wanted = (a, 0)) (hb : v.next B wanted = (b, 0)) : 0 < (v.mem.filter fun m => decide (m ∈ a.mem) && decide (m ∈ b.mem)).length := by
  have h1 := (next_right ha).2.2.2.1
  have h2 := (next_right hb).2.2.2.1
  have h3 := filters_meet (fun m => decide (m ∈ a.mem)) (fun m => decide (m ∈ b.mem)) v.mem
  unfold comm at h1 h2
  unfold VW.maj at h1 h2
  omega
end Go.Proofs.Ytafjngmdandgmaa
