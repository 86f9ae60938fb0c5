/-
  By an index records are told as by none; on lists.
-/
import Derived.Test.YtgnehnlmbodijaaDoorZGC
import Derived.Test.YtgnehnlmbodijaaDoorZS8
namespace Go.Proofs.YtgnehnlmbodijaaDoor

theorem goF_rise (k : Nat) (f kept : Nat) (least M : Int) (pos : Nat) (s : List UInt8) (hf : s.length < f) (hM : ((kept + s.length : Nat) : Int) ≤ M) (x : Rec × Nat) (hk : (goF f kept least 0 M pos s).1[k]? = some x) : ∀ j y, j < k → (goF f kept least 0 M pos s).1[j]? = some y → y.1.off < x.1.off := by
  induction k generalizing f kept least pos s with
  | zero => intro j y hj; omega
  | succ k ih =>
    cases f with
    | zero => omega
    | succ f =>
      have hs : s ≠ [] := fun e => by rw [e, goF_nil] at hk; simp at hk
      have hlen : 1 ≤ s.length := List.length_pos_iff.2 hs
      have hs1 : ¬ (s = [] ∨ M ≤ (kept : Int)) := by rintro (e | e); exact hs e; omega
      by_cases he : (headR least s).2.2 = 0
      · have hd := drop_less he
        have hr := headR_right he
        have e1 : goF (f + 1) kept least 0 M pos s = (((headR least s).1, pos) :: (goF f (kept + 1) ((headR least s).1.off + 1) 0 M (pos + (headR least s).2.1) (s.drop (headR least s).2.1)).1, (goF f (kept + 1) ((headR least s).1.off + 1) 0 M (pos + (headR least s).2.1) (s.drop (headR least s).2.1)).2) := by
          simp only [goF]
          rw [if_neg hs1, if_pos he, if_pos hr.1]
        rw [e1] at hk ⊢
        simp only [List.getElem?_cons_succ] at hk
        intro j y hj hy
        cases j with
        | zero =>
          simp only [List.getElem?_cons_zero] at hy
          injection hy with hy
          subst hy
          have := (goF_tail k f (kept + 1) (kept + 1) ((headR least s).1.off + 1) ((headR least s).1.off + 1) M (pos + (headR least s).2.1) (s.drop (headR least s).2.1) (by omega) (by omega) (by omega) (Int.le_refl _) x.1 x.2 hk).2.2.2
          simp only
          omega
        | succ j =>
          simp only [List.getElem?_cons_succ] at hy
          exact ih f (kept + 1) _ _ _ (by omega) (by omega) hk j y (by omega) hy
      · simp only [goF] at hk
        rw [if_neg hs1, if_neg he] at hk
        simp at hk
theorem findF_cases (l : List (Int × Int)) (off : Int) : findF l off = 0 ∨ ∃ x ∈ l, x.1 ≤ off ∧ findF l off = x.2 := by
  unfold findF
  cases h : l.reverse.find? (fun p => decide (p.1 ≤ off)) with
  | none => exact .inl rfl
  | some x =>
    refine .inr ⟨x, ?_, by simpa using List.find?_some h, rfl⟩
    have := List.mem_of_find?_eq_some h
    rwa [List.mem_reverse] at this
/-- What is told from an offset on. -/
def wantF (L : List (Rec × Nat)) (off most : Int) : List (Rec × Nat) := (L.filter fun p => decide (off ≤ p.1.off)).take most.toNat
theorem from_none (base off most : Int) (s : List UInt8) : (fromF base off most 0 s).1 = wantF (scanF base s).1 off most := by
  unfold fromF scanF wantF
  have := goF_filter (s.length + 1) 0 0 base off most s.length 0 s (by omega)
  rw [List.drop_zero, this]
  simp
theorem from_at (base off most : Int) (s : List UInt8) (i : Nat) (r : Rec) (p : Nat) (hi : (scanF base s).1[i]? = some (r, p)) (hr : r.off ≤ off) : p ≤ s.length ∧ (fromF base off most p s).1 = wantF (scanF base s).1 off most := by
  have ht := goF_tail i (s.length + 1) 0 0 base base s.length 0 s (by omega) (by omega) (by omega) (Int.le_refl _) r p hi
  have hm : ∀ j y, j < i → (scanF base s).1[j]? = some y → y.1.off < r.off := goF_rise i (s.length + 1) 0 base s.length 0 s (by omega) (by omega) (r, p) hi
  obtain ⟨_, h2, h3, _⟩ := ht
  rw [Nat.sub_zero] at h2 h3
  refine ⟨h2, ?_⟩
  unfold fromF wantF
  have e := goF_filter (s.length + 1) 0 0 base off most s.length p (s.drop p) (by rw [List.length_drop]; omega)
  rw [e, h3]
  show _ = ((scanF base s).1.filter _).take _
  have e2 : (scanF base s).1 = (scanF base s).1.take i ++ (scanF base s).1.drop i := (List.take_append_drop _ _).symm
  have e3 : ((scanF base s).1.take i).filter (fun p => decide (off ≤ p.1.off)) = [] := by
    rw [List.filter_eq_nil_iff]
    intro x hx
    obtain ⟨j, hj, rfl⟩ := List.getElem_of_mem hx
    rw [List.length_take] at hj
    have hjl : j < (scanF base s).1.length := by omega
    have hlt := hm j ((scanF base s).1[j]) (by omega) (List.getElem?_eq_getElem hjl)
    rw [List.getElem_take]
    simp only [decide_eq_true_eq]
    omega
  conv => rhs; rw [e2]
  rw [List.filter_append, e3, List.nil_append]
  simp [scanF]
/-- P6.4: From by an index tells the same as by none. -/
theorem from_index (base off most : Int) (s : List UInt8) (e : Nat) : (fromF base off most (withinF (findF (idxF e (scanF base s).1) off) s.length) s).1 = wantF (scanF base s).1 off most := by
  rcases findF_cases (idxF e (scanF base s).1) off with h | ⟨x, hx, hle, h⟩
  · rw [h, show withinF 0 s.length = 0 by unfold withinF; omega]
    exact from_none base off most s
  · unfold idxF at hx
    obtain ⟨i, hi, rfl⟩ := List.mem_map.1 hx
    have hlt := pk_lt hi
    rw [entF_at hlt] at hle h
    obtain ⟨h1, h2⟩ := from_at base off most s i (scanF base s).1[i].1 (scanF base s).1[i].2 (List.getElem?_eq_getElem hlt) hle
    rw [h]
    rw [show withinF (((scanF base s).1[i].2 : Nat) : Int) s.length = (scanF base s).1[i].2 by unfold withinF; omega]
    exact h2
end Go.Proofs.YtgnehnlmbodijaaDoor
