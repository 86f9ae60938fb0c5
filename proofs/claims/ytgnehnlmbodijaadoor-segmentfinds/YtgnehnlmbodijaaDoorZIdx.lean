/-
  SegmentIndex: what its calls tell, and the list that it wants.
-/
import Derived.Test.YtgnehnlmbodijaaDoorZL3
import Derived.Test.YtgnehnlmbodijaaDoorZSeg4
namespace Go.Proofs.YtgnehnlmbodijaaDoor
open Go.RowKit

theorem recRow_cells (l : List (Rec × Nat)) : recRow (l.map (·.1)) = recCells l := by
  unfold recRow recCells
  rw [List.flatMap_map]
theorem recs_of_row {w : World} {B : Nat} {v : Value} {l : List Rec} (h : w.ownsRow B 23 5 v l.length (recRow l)) : RecsAt w v l := by
  have e : (l.map fun r => (r, 0)).map (·.1) = l := by rw [List.map_map]; exact List.map_id' l
  have := recs_of_own (out := l.map fun r => (r, 0)) (by rw [← recRow_cells, e, List.length_map]; exact h)
  rw [e] at this
  exact this
/-- The records from an offset on, so many of them. -/
def wantR (l : List Rec) (off : Int) : List Rec := l.filter fun r => decide (off ≤ r.off)
theorem want_recs (l : List Rec) (off most : Int) : (wantF (placed 0 l) off most).map (·.1) = (wantR l off).take most.toNat := by
  unfold wantF wantR
  rw [List.map_take, ← placed_recs 0 l, List.filter_map, placed_recs]
  rfl
theorem wantR_succ (l : List Rec) (off : Int) (k : Nat) (h : k < l.length) : wantR (l.take (k + 1)) off = if off ≤ l[k].off then wantR (l.take k) off ++ [l[k]] else wantR (l.take k) off := by
  unfold wantR
  rw [List.take_succ_eq_append_getElem h, List.filter_append]
  split
  · rename_i h1; simp [h1]
  · rename_i h1; simp [h1]
theorem wantR_done (l : List Rec) (off most : Int) (k : Nat) (h1 : (wantR (l.take k) off).length ≤ most.toNat) (h2 : l.length ≤ k ∨ most ≤ ((wantR (l.take k) off).length : Int)) : wantR (l.take k) off = (wantR l off).take most.toNat := by
  have e : wantR l off = wantR (l.take k) off ++ wantR (l.drop k) off := by
    unfold wantR
    rw [← List.filter_append, List.take_append_drop]
  rcases h2 with h2 | h2
  · rw [List.take_of_length_le h2] at h1 ⊢
    rw [List.take_of_length_le h1]
  · have h3 : most.toNat = (wantR (l.take k) off).length := by omega
    rw [h3, e, List.take_left']
    rfl
theorem wantR_le (l : List Rec) (off : Int) (k : Nat) : (wantR (l.take k) off).length ≤ l.length := by
  unfold wantR
  refine Nat.le_trans (List.length_filter_le _ _) ?_
  rw [List.length_take]
  omega
theorem ents_nil (w : World) : EntsAt w (.slice none 0 0) [] := ⟨none, 0, rfl, by simp, fun i hi => by simp at hi⟩
/-- What Index and From tell of written records. -/
theorem idx_calls (out : List Rec) (h : Rises 0 out) (hl : out.length ≤ 30) (off most : Int) (e : Nat) (he : 1 ≤ e) (he2 : e ≤ 10) : ∃ S : ByteArray, S = ⟨(writtenF out).toArray⟩ ∧ S.size ≤ 34680 ∧
    (∀ W, Tab W → Calls Tryd.prog 17 #[.int .i64 0, .string S, .int .i64 e] W fun e' w' => ∃ v, e' = .returned (.tuple #[v, .int .i64 0]) ∧ EntsAt w' v (idxF e (placed 0 out)) ∧ Below W.heap.size W w') ∧
    (∀ W v, Tab W → EntsAt W v (idxF e (placed 0 out)) → Calls Tryd.prog 21 #[.int .i64 0, .string S, v, .int .i64 off, .int .i64 most] W fun e' w' => ∃ v', e' = .returned v' ∧ RecsAt w' v' ((wantR out off).take most.toNat) ∧ Below W.heap.size W w') ∧
    (∀ W, Tab W → Calls Tryd.prog 21 #[.int .i64 0, .string S, .slice none 0 0, .int .i64 off, .int .i64 most] W fun e' w' => ∃ v', e' = .returned v' ∧ RecsAt w' v' ((wantR out off).take most.toNat) ∧ Below W.heap.size W w') := by
  have hr := rises_right 0 out h
  have hsz : (writtenF out).length ≤ 34680 := by have := written_small out hr out.length; rw [List.take_length] at this; omega
  have hs : (⟨(writtenF out).toArray⟩ : ByteArray).size = (writtenF out).length := by show (writtenF out).toArray.size = _; simp
  have hd : (⟨(writtenF out).toArray⟩ : ByteArray).data.toList = writtenF out := by simp
  have hsc := scan_written 0 out h
  have hwl : ∀ L : List (Rec × Nat), L = (placed 0 out) → (wantF L off most).length ≤ 30 := by
    rintro L rfl
    unfold wantF
    refine Nat.le_trans (List.length_take_le' _ _) (Nat.le_trans (List.length_filter_le _ _) ?_)
    rw [placed_length]
    exact hl
  refine ⟨_, rfl, by rw [hs]; exact hsz, fun W hT => ?_, fun W v hT hv => ?_, fun W hT => ?_⟩
  · refine (index_any 0 _ e W hT (by rw [hs]; omega) he (by omega) (by rw [hd, hsc]; simp only [placed_length]; omega)).mono ?_
    rw [hd, hsc]
    rintro e' w' ⟨v, rfl, ho, hb⟩
    exact ⟨v, rfl, ents_of_own ho (by unfold idxF; rw [List.length_map]; have := pk_le e (placed 0 out).length; rw [placed_length] at *; omega), hb⟩
  · have hf := from_index 0 off most (writtenF out) e
    rw [hsc] at hf
    refine (from_any 0 _ v _ off most W hT (by rw [hs]; omega) hv (by rw [hd, hs, hf]; exact Nat.le_trans (hwl _ rfl) (by omega))).mono ?_
    rw [hd, hs]
    rintro e' w' ⟨v', rfl, ho, hb⟩
    rw [hf] at ho
    refine ⟨v', rfl, ?_, hb⟩
    have := recs_of_own ho
    rw [want_recs] at this
    exact this
  · have hf := from_none 0 off most (writtenF out)
    rw [hsc] at hf
    have e0 : withinF (findF [] off) (⟨(writtenF out).toArray⟩ : ByteArray).size = 0 := by
      have : findF [] off = 0 := rfl
      rw [this]
      unfold withinF
      omega
    refine (from_any 0 _ _ [] off most W hT (by rw [hs]; omega) (ents_nil W) (by rw [e0, hd, hf]; exact Nat.le_trans (hwl _ rfl) (by omega))).mono ?_
    rw [e0, hd]
    rintro e' w' ⟨v', rfl, ho, hb⟩
    rw [hf] at ho
    refine ⟨v', rfl, ?_, hb⟩
    have := recs_of_own ho
    rw [want_recs] at this
    exact this
theorem tmod_neg10 (x : Int) (h : x ≤ 0) : -9 ≤ x.tmod 10 ∧ x.tmod 10 ≤ 0 := by
  have h1 := Int.tmod_eq_emod_of_nonneg (a := -x) (b := 10) (by omega)
  rw [Int.neg_tmod] at h1
  omega
end Go.Proofs.YtgnehnlmbodijaaDoor
