/-
  CommandWords, its walk (mkwords.py)
-/
import Derived.Test.YthfflefnapbkiabDoorZWW
import Derived.Test.YthfflefnapbkiabDoorZCN
namespace Go.Proofs.YthfflefnapbkiabDoor
open Go.RowKit

attribute [local go_sem ↓] Go.wp_at_zero Go.wp_at_succ
set_option linter.unusedSimpArgs false
set_option linter.unusedVariables false
theorem word_size {a : ByteArray} (h : wordB a = true) : 1 ≤ a.size ∧ a.size ≤ 20 := by
  have := wordL_out h
  rw [size_listC] at this
  exact ⟨this.1, this.2.1⟩
theorem word_letter {a : ByteArray} (h : wordB a = true) (k : Nat) (hk : k < a.size) : letB a[k].toNat = true := by
  have := List.all_eq_true.1 (wordL_out h).2.2 a[k] (List.getElem_mem _)
  exact this
theorem list_app (a b : ByteArray) : (a ++ b).data.toList = a.data.toList ++ b.data.toList := by simp [ByteArray.data_append]
theorem word_two {a b : ByteArray} (ha : wordB a = true) (hb : wordB b = true) : wordB (a ++ b) = decide ((a.size : Int) + (b.size : Int) ≤ 20) := by
  obtain ⟨a1, a2, a3⟩ := wordL_out ha
  obtain ⟨b1, b2, b3⟩ := wordL_out hb
  rw [size_listC] at a1 a2 b1 b2
  unfold wordB wordL
  rw [list_app, List.length_append, size_listC, size_listC, List.all_append, a3, b3, decide_eq_true (show 1 ≤ a.size + b.size by omega)]
  simp only [Bool.and_true, Bool.true_and]
  rw [decide_eq_decide]
  omega
theorem word_parts {a b : ByteArray} (h : wordB (a ++ b) = true) : (wordB a = false → a.size = 0) ∧ (wordB b = false → b.size = 0) := by
  obtain ⟨h1, h2, h3⟩ := wordL_out h
  rw [list_app] at h1 h2 h3
  rw [List.length_append, size_listC, size_listC] at h1 h2
  rw [List.all_append, Bool.and_eq_true] at h3
  refine ⟨fun e => ?_, fun e => ?_⟩
  · by_cases hz : a.size = 0
    · exact hz
    · unfold wordB wordL at e
      rw [h3.1, size_listC, decide_eq_true (show 1 ≤ a.size by omega), decide_eq_true (show a.size ≤ 20 by omega)] at e
      cases e
  · by_cases hz : b.size = 0
    · exact hz
    · unfold wordB wordL at e
      rw [h3.2, size_listC, decide_eq_true (show 1 ≤ b.size by omega), decide_eq_true (show b.size ≤ 20 by omega)] at e
      cases e
set_option maxHeartbeats 4000000 in
set_option maxRecDepth 100000 in
theorem words_walk (a b : ByteArray) (ha : a.size ≤ 140737488355328) (hb : b.size ≤ 140737488355328) (w : World) (hT : Tab w) :
    Calls Tryd.prog 3 #[.string a, .string b] w fun e w' => e = .returned (.bool true) ∧ Below w.heap.size w w' := by
  have hab : (a ++ b).size = a.size + b.size := by simp
  have h1 := fun W => pword a (by omega) W
  have h2 := fun W => pword b (by omega) W
  have h3 := fun W => pword (a ++ b) (by omega) W
  have g1 := @word_two a b
  have g2 := @word_parts a b
  have g3 := @word_size a
  have g4 := @word_letter a
  generalize wordB (a ++ b) = r at *
  generalize wordB a = p at *
  generalize wordB b = q at *
  have HT := hide hT
  clear hT
  go_enter Tryd.func3, Tryd.ntmps3
  refine wp_seq (reg_mono (ww_r0 (by kernel_rfl) _ (v := ⟨_, _, _, _, _, _, _, _, _, _, _⟩) ⟨rfl, rfl, rfl, rfl, rfl, rfl, rfl, rfl, rfl, rfl, rfl, rfl, rfl⟩ ?_))
  intro a1 F1
  refine wp_seq (reg_mono (ww_r1 (by kernel_rfl) _ F1 (fun W hW => examples_any W (HT.out.below hW)) ?_))
  intro a2 w2 F2 b2
  refine wp_seq (reg_mono (ww_r2 (by kernel_rfl) _ F2 rfl h1 ?_))
  intro a3 F3
  refine wp_seq (reg_mono (ww_r3 (by kernel_rfl) _ F3 rfl h2 ?_))
  intro a4 F4
  refine wp_seq (reg_mono (ww_r4 (by kernel_rfl) _ F4 rfl rfl (by omega) h3 ?_))
  intro a5 F5
  refine wp_seq (wp_seq (reg_mono (ww_r5 (by kernel_rfl) _ F5 rfl rfl rfl rfl rfl (by omega) g1 (fun e => (g2 e).1) (fun e => (g2 e).2) ?_)))
  intro a6 F6
  refine wp_cond_false F6.s53 (wp_skip ?_)
  refine wp_mid (fun a' W => (∃ v, Fww a' v ∧ v.v0 = .string a ∧ v.v5 = .bool true ∧ v.v6 = .bool p) ∧ W = w2) ?loop ?_
  case loop =>
    refine wp_seq (reg_mono (ww_r7 (by kernel_rfl) _ F6 ?_))
    intro a7 F7
    refine wp_block ?_
    refine wp_loop (fun a' W => ∃ (k : Nat) (v : Vww), k ≤ a.size ∧ Fww a' v ∧ v.v0 = .string a ∧ v.v5 = .bool true ∧ v.v6 = .bool p ∧ v.v9 = .int .i64 (k : Int) ∧ W = w2) (fun a' _ => a.size - (intOf (a'.tmps.getD 9 undef)).toNat) ⟨0, _, Nat.zero_le _, F7, rfl, rfl, rfl, rfl, rfl⟩ ?_
    rintro a8 W ⟨k, v8, hk, F8, p0, p5, p6, p9, rfl⟩
    refine wp_seq (wp_seq (reg_mono (ww_r8 (by kernel_rfl) _ F8 p0 p9 (by omega) ?_)))
    intro a9 F9
    by_cases hlt : (k : Int) < (a.size : Int)
    · refine wp_cond_true (F9.s57.trans (congrArg Value.bool (decide_eq_true hlt))) (wp_skip ?_)
      refine wp_seq (wp_block ?_)
      refine wp_seq (reg_mono (ww_r10 (by kernel_rfl) _ F9 p0 p9 p6 (by omega) (by omega) (fun e => g4 e k (by omega)) ?_))
      intro a10 F10
      refine wp_cond_false F10.s85 (wp_skip ?_)
      show Code.wp _ _ _ _ _
      refine reg_mono (ww_r9 (by kernel_rfl) _ F10 p9 (by omega) ?_)
      intro a11 F11
      refine ⟨⟨k + 1, _, by omega, F11, p0, p5, p6, rfl, rfl⟩, ?_⟩
      rw [F11.s9, F8.s9, p9]
      simp [intOf]
      omega
    · refine wp_cond_false (F9.s57.trans (congrArg Value.bool (decide_eq_false hlt))) (wp_exit ?_)
      exact ⟨⟨_, F9, p0, p5, p6⟩, rfl⟩
  rintro a9 W ⟨⟨v9, F9, p0, p5, p6⟩, rfl⟩
  refine wp_seq (reg_mono (ww_r12 (by kernel_rfl) _ F9 p0 p5 p6 (by omega) (fun e => (g3 e).1) ?_))
  intro a10 F10
  refine wp_ret ?_
  exact ww_ret F10 rfl ⟨rfl, b2⟩
end Go.Proofs.YthfflefnapbkiabDoor
