/-
  No beginning of written items is read by their shape, nor what is longer.
-/
import Derived.Test.YtnbomaalncjkeaaPure3
namespace Go.Proofs.Ytnbomaalncjkeaa

theorem itemF_cut (x : It) (j : Nat) (h : faultF x = 0) (h0 : 0 ≤ x.n) (hj : j < (itemB x).length) : (itemF (letterF x.k) ((itemB x).take j)).2.2 = 2 := by
  have hk := fault_kind x h
  have hlt := numOf_lt x h h0
  have hl : (Lib.beBytes (widthN x.k) (numOf x)).length = widthN x.k := Lib.beBytes_length _ _
  have hB : (itemB x).length = widthN x.k + x.s.size := by unfold itemB; rw [List.length_append, hl]; simp
  have hT : ((itemB x).take j).length = j := by rw [List.length_take]; omega
  unfold itemF
  rw [kindOfL_letterF x.k hk, hT]
  by_cases h1 : j < widthN x.k
  · rw [if_pos h1]
  · rw [if_neg h1]
    rcases fault_shape x h with ⟨h4, hs, _⟩ | ⟨h4, hn, hs⟩
    · omega
    · have w4 : widthN x.k = 4 := by rw [h4]; rfl
      have e1 : numOf x = x.s.size := by unfold numOf; rw [if_pos h4]
      rw [w4] at hl hlt h1 hB
      have e2 : ((itemB x).take j).take 4 = Lib.beBytes 4 (numOf x) := by
        rw [List.take_take, Nat.min_eq_left (by omega)]
        unfold itemB
        rw [w4, List.take_left' hl]
      rw [if_pos h4, e2, beNat_beBytes _ _ hlt, e1, if_neg (by omega), if_pos (by rw [List.length_drop, hT]; omega)]

theorem readF_cut (l : List It) (m f j : Nat) (hm : m + l.length ≤ 1000) (hl : ∀ x ∈ l, faultF x = 0 ∧ 0 ≤ x.n) (hf : j < f) (hj : j < (l.flatMap itemB).length) :
    (readF f [] m (l.map fun x => letterF x.k) ((l.flatMap itemB).take j)).2 = 2 := by
  induction l generalizing m f j with
  | nil => simp at hj
  | cons x l ih =>
    obtain ⟨g, rfl⟩ : ∃ g, f = g + 1 := ⟨f - 1, by omega⟩
    obtain ⟨h1, h2⟩ := hl x (by simp)
    have hp := itemB_pos x
    simp only [List.length_cons] at hm
    rw [List.flatMap_cons] at hj ⊢
    rw [List.map_cons, readF, if_neg (by omega)]
    by_cases hlt : j < (itemB x).length
    · rw [List.take_append_of_le_length (by omega)]
      have := itemF_cut x j h1 h2 hlt
      rw [if_neg (by rw [this]; decide), this]
    · have e : (itemB x ++ l.flatMap itemB).take j = itemB x ++ (l.flatMap itemB).take (j - (itemB x).length) := by
        rw [List.take_append, List.take_of_length_le (by omega)]
      rw [e, itemF_item x _ h1 h2]
      rw [List.length_append] at hj
      have h3 := ih (m + 1) g (j - (itemB x).length) (by omega) (fun y hy => hl y (by simp [hy])) (by omega) (by omega)
      rw [if_pos rfl, if_neg (by rw [h3]; decide), h3]

theorem readF_more (l : List It) (m f : Nat) (more : List UInt8) (hm : m + l.length ≤ 1000) (hl : ∀ x ∈ l, faultF x = 0 ∧ 0 ≤ x.n) (hf : l.length < f) (h : more ≠ []) :
    (readF f [] m (l.map fun x => letterF x.k) (l.flatMap itemB ++ more)).2 = 10 := by
  induction l generalizing m f with
  | nil =>
    obtain ⟨g, rfl⟩ : ∃ g, f = g + 1 := ⟨f - 1, by simp at hf; omega⟩
    simp [readF, h]
  | cons x l ih =>
    obtain ⟨g, rfl⟩ : ∃ g, f = g + 1 := ⟨f - 1, by simp at hf; omega⟩
    obtain ⟨h1, h2⟩ := hl x (by simp)
    simp only [List.length_cons] at hm hf
    have h3 := ih (m + 1) g (by omega) (fun y hy => hl y (by simp [hy])) (by omega)
    rw [List.map_cons, List.flatMap_cons, List.append_assoc, readF, itemF_item x _ h1 h2, if_neg (by omega), if_pos rfl, if_neg (by rw [h3]; decide), h3]

theorem cut_pure (l : List It) (h : (encF l).2 = 0) (hn : ∀ x ∈ l, 0 ≤ x.n) (j : Nat) (hj : j < (encF l).1.length) : (decF (shapeF l).1 ((encF l).1.take j)).2 = 2 := by
  obtain ⟨h1, h2, h3⟩ := encF_zero l h
  have hk : ∀ x ∈ l, kindB x.k = true := fun x hx => fault_kind x (h2 x hx)
  rw [h3] at hj ⊢
  rw [shapeF_ok l hk]
  show (decF (l.map fun x => letterF x.k) ((l.flatMap itemB).take j)).2 = 2
  rw [decF_letters l _ hk]
  exact readF_cut l 0 _ j (by omega) (fun x hx => ⟨h2 x hx, hn x hx⟩) (by rw [List.length_take]; simp only at hj; omega) hj

theorem more_pure (l : List It) (h : (encF l).2 = 0) (hn : ∀ x ∈ l, 0 ≤ x.n) (more : List UInt8) : (decF (shapeF l).1 ((encF l).1 ++ more)).2 = if more = [] then 0 else 10 := by
  by_cases hm : more = []
  · subst hm
    rw [List.append_nil, (back_pure l h hn).2, if_pos rfl]
  · obtain ⟨h1, h2, h3⟩ := encF_zero l h
    have hk : ∀ x ∈ l, kindB x.k = true := fun x hx => fault_kind x (h2 x hx)
    rw [h3, shapeF_ok l hk, if_neg hm]
    show (decF (l.map fun x => letterF x.k) (l.flatMap itemB ++ more)).2 = 10
    rw [decF_letters l _ hk]
    exact readF_more l 0 _ more (by omega) (fun x hx => ⟨h2 x hx, hn x hx⟩) (by have := items_le l; rw [List.length_append]; omega) hm

end Go.Proofs.Ytnbomaalncjkeaa
