/-
  Where all members are alive and wanted, the next view has just them; nothing of the program is in this text.
-/
import Derived.Test.YtafjngmdandgmaaZV1
namespace Go.Proofs.Ytafjngmdandgmaa

theorem filter_none {L : List MB} {p : MB → Bool} (h : ∀ m ∈ L, p m = false) : L.filter p = [] := List.filter_eq_nil_iff.2 fun m hm => by rw [h m hm]; decide
theorem rise_split (n : Int) : ∀ {L : List MB}, (L.Pairwise fun a b => a.node < b.node) → L.filter (fun m => decide (m.node < n + 1)) = L.filter (fun m => decide (m.node < n)) ++ L.filter (fun m => decide (m.node = n))
  | [], _ => rfl
  | a :: L, h => by
    obtain ⟨h1, h2⟩ := List.pairwise_cons.1 h
    have ih := rise_split n h2
    by_cases c1 : a.node < n
    · rw [List.filter_cons_of_pos (by simpa using (by omega : a.node < n + 1)), List.filter_cons_of_pos (by simpa using c1), List.filter_cons_of_neg (by simpa using (by omega : ¬ a.node = n)), ih]
      rfl
    · have e2 : L.filter (fun m => decide (m.node < n)) = [] := filter_none fun m hm => by have := h1 m hm; rw [decide_eq_false_iff_not]; omega
      have e3 : L.filter (fun m => decide (m.node = n)) = [] := filter_none fun m hm => by have := h1 m hm; rw [decide_eq_false_iff_not]; omega
      rw [e2, e3] at ih
      by_cases c2 : a.node = n
      · rw [List.filter_cons_of_pos (by simpa using (by omega : a.node < n + 1)), List.filter_cons_of_neg (by simpa using c1), List.filter_cons_of_pos (by simpa using c2), ih, e2, e3]
        rfl
      · rw [List.filter_cons_of_neg (by simpa using (by omega : ¬ a.node < n + 1)), List.filter_cons_of_neg (by simpa using c1), List.filter_cons_of_neg (by simpa using c2), ih, e2, e3]
theorem rise_one {L : List MB} (h : L.Pairwise fun a b => a.node < b.node) {m : MB} (hm : m ∈ L) : L.filter (fun x => decide (x.node = m.node)) = [m] := by
  induction L with
  | nil => cases hm
  | cons a L ih =>
    obtain ⟨h1, h2⟩ := List.pairwise_cons.1 h
    rcases List.mem_cons.1 hm with rfl | hm
    · rw [List.filter_cons_of_pos (by simp), filter_none fun x hx => by have := h1 x hx; rw [decide_eq_false_iff_not]; omega]
    · rw [List.filter_cons_of_neg (by have := h1 m hm; simpa using (by omega : ¬ a.node = m.node)), ih h2 hm]
theorem life_one {L : List MB} (h : L.Pairwise fun a b => a.node < b.node) {m : MB} (hm : m ∈ L) (hl : 0 ≤ m.life) : lifeOf L m.node = m.life := by
  obtain ⟨h1, h2, h3⟩ := lifeOf_acc L m.node 0 (Int.le_refl _)
  have k1 := h1 m hm rfl
  rcases h3 with e | ⟨x, hx, e1, e2⟩
  · unfold lifeOf
    omega
  · have e3 : x = m := by
      have e4 := rise_one h hm
      have : x ∈ L.filter (fun y => decide (y.node = m.node)) := List.mem_filter.2 ⟨hx, by simpa using e1⟩
      rw [e4] at this
      exact List.mem_singleton.1 this
    rw [e3] at e2
    exact e2.symm
theorem next_same {L : List MB} (h : L.Pairwise fun a b => a.node < b.node) (hr : ∀ m ∈ L, m.right) {wanted : List Int} (hw : ∀ m ∈ L, m.node ∈ wanted) : ∀ n : Nat, nextUpto L wanted n = L.filter fun m => decide (m.node < (n : Int))
  | 0 => (filter_none fun m hm => by have := (hr m hm).1; rw [decide_eq_false_iff_not]; omega).symm
  | n + 1 => by
    rw [nextUpto_succ, next_same h hr hw n, show (((n + 1 : Nat) : Int)) = (n : Int) + 1 by omega, rise_split n h]
    congr 1
    unfold nextOne
    by_cases c : ∃ m ∈ L, m.node = (n : Int)
    · obtain ⟨m, hm, e⟩ := c
      have h1 := (hr m hm).2.2.1
      have h2 := life_one h hm (by omega)
      rw [← e, if_pos ⟨hw m hm, by omega⟩, rise_one h hm, h2]
    · rw [filter_none fun m hm => by rw [decide_eq_false_iff_not]; exact fun e => c ⟨m, hm, e⟩]
      refine if_neg fun e => ?_
      exact c ⟨_, lifeOf_some e.2, rfl⟩
theorem comm_self (L : List MB) : comm L L = L.length := by
  unfold comm
  rw [List.filter_eq_self.2 fun m hm => by simpa using hm]
/-- What ViewStays asks. -/
theorem next_stays {v : VW} (hv : v.right) (hn : v.num < big) {wanted : List Int} (hw : ∀ m ∈ v.mem, m.node ∈ wanted) : v.next v.mem wanted = (⟨v.num + 1, v.mem⟩, 0) := by
  obtain ⟨h1, h2⟩ := ok_rise hv.2.2.2.2
  have e1 : nextUpto v.mem wanted 7 = v.mem := by
    rw [next_same h1 h2 hw 7]
    exact List.filter_eq_self.2 fun m hm => by have := (h2 m hm).2.1; simpa using this
  have h3 := hv.2.2.1
  unfold VW.next
  rw [if_neg (fun c => by rcases c with c | c; exact c hv; omega), if_neg (fun c => c h2), e1, comm_self, if_neg (by unfold VW.maj; omega)]
end Go.Proofs.Ytafjngmdandgmaa
