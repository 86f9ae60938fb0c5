import Derived.Test.YtnbomaalncjkeaaW5
namespace Go.Proofs.Ytnbomaalncjkeaa
open Go.RowKit

theorem readItems_any (first again s : ByteArray) (w : World) (h1 : first.size ≤ maxLen) (h2 : again.size ≤ maxLen) (h3 : s.size ≤ maxLen) (R : List It × Int)
    (hR : readF (2 * s.size + 2) again.data.toList 0 first.data.toList s.data.toList = R) (h0 : R.2 ≠ 0 → R.1 = []) :
    Calls Try.prog 31 #[.string first, .string again, .string s] w fun e w' => ∃ v, e = .returned (.tuple #[v, .int .i64 R.2]) ∧ w'.ownsRow w.heap.size 39 3 v R.1.length (itemCells R.1) ∧ Below w.heap.size w w' := by
  refine readItems_core first again s R w h2 ⟨by simp, h1, h3, 2 * s.size + 2, by split <;> omega, ?_⟩
  rw [List.length_nil, hR]
  unfold joinR
  by_cases h : R.2 = 0
  · rw [if_pos h]; simp [← h]
  · rw [if_neg h, ← h0 h]

theorem readF_err (f : Nat) (again : List UInt8) (m : Nat) (todo rest : List UInt8) (h : (readF f again m todo rest).2 ≠ 0) : (readF f again m todo rest).1 = [] := by
  induction f generalizing m todo rest with
  | zero => rfl
  | succ f ih =>
    cases todo with
    | nil =>
      rw [readF] at h ⊢
      split
      · rfl
      · rename_i h1
        rw [if_neg h1] at h
        split
        · rfl
        · rename_i h2
          rw [if_neg h2] at h
          exact ih _ _ _ h
    | cons c t =>
      rw [readF] at h ⊢
      split
      · rfl
      · rename_i h1
        rw [if_neg h1] at h
        split
        · rename_i h2
          rw [if_pos h2] at h
          split
          · rename_i h3
            rw [if_pos h3] at h
            exact absurd rfl h
          · rfl
        · rfl

theorem decF_err (shape s : List UInt8) (h : (decF shape s).2 ≠ 0) : (decF shape s).1 = [] := by
  unfold decF at *
  split
  · rename_i h1
    rw [if_pos h1] at h
    exact readF_err _ _ _ _ _ h
  · rfl

set_option maxHeartbeats 400000 in
theorem decode_any (shape s : ByteArray) (w : World) (h1 : shape.size ≤ maxLen) (h2 : s.size ≤ maxLen) (R : List It × Int) (hR : decF shape.data.toList s.data.toList = R) :
    Calls Try.prog 16 #[.string shape, .string s] w fun e w' => ∃ v, e = .returned (.tuple #[v, .int .i64 R.2]) ∧ w'.ownsRow w.heap.size 39 3 v R.1.length (itemCells R.1) ∧ Below w.heap.size w w' := by
  have HS := hide (fun w => isShape_any shape w h1)
  have HC := hide (fun w => cut_star shape w h1)
  have hE : R.2 ≠ 0 → R.1 = [] := by rw [← hR]; exact decF_err _ _
  unfold decF at hR
  rw [← shapeB_eq, ← cutA_list, ← cutB_list, size_list] at hR
  cases hb : shapeB shape with
  | false =>
    rw [hb] at HS hR
    rw [if_neg (by decide)] at hR
    subst hR
    clear hE hb
    go_enter Try.func16, Try.ntmps16
    go_wp2_with (go_at_call 29; refine (HS.out _).mono ?_; rintro e w' ⟨rfl, nq, rfl⟩)
    go_ret2
    exact ⟨.slice none 0 0, rfl, ⟨rfl, Or.inl ⟨rfl, rfl⟩⟩, below_drewN (Below.refl _ _) nq⟩
  | true =>
    rw [hb] at HS hR
    rw [if_pos rfl] at hR
    have HI := hide (fun w => readItems_any (cutA shape) (cutB shape) s w (Nat.le_trans (cutA_size shape) h1) (Nat.le_trans (cutB_size shape) h1) h2 R hR hE)
    clear hE hb hR
    generalize cutA shape = a at HC HI
    generalize cutB shape = b at HC HI
    go_enter Try.func16, Try.ntmps16
    go_wp2_with (first | (go_at_call 29; refine (HS.out _).mono ?_; rintro e w' ⟨rfl, nq, rfl⟩) | (go_at_call 30; refine (HC.out _).mono ?_; rintro e w' ⟨rfl, nr, rfl⟩) | (go_at_call 31; refine (HI.out _).mono ?_; rintro e w' ⟨v, rfl, hown, hb⟩))
    go_ret2
    refine ⟨v, rfl, ?_, ?_⟩
    · exact hown
    · exact (below_drewN (Below.refl _ _) (nq + nr)).trans hb

end Go.Proofs.Ytnbomaalncjkeaa
