/-
  carillonref12's Right, as it runs (mkvr.py).
-/
import Derived.Test.YtbkglpbkbfopjaaZVR1a
namespace Go.Proofs.Ytbkglpbkbfopjaa
open Go.RowKit

attribute [local go_sem ↓] Go.wp_at_zero Go.wp_at_succ
set_option linter.unusedSimpArgs false
set_option linter.unusedVariables false

attribute [local go_sem ↓] Go.wp_at_zero Go.wp_at_succ
theorem vr_ret {w W : World} {a : Act} {v : Vvr} {r : Bool} (hF : Fvr a v) (h2 : v.v2 = .bool r) (hB : Below w.heap.size w W) :
    bodyPost Try.prog Try.f9 (fun e w' => e = .returned (.bool r) ∧ Below w.heap.size w w') .ret a W := by
  have h5 := slot_get (hF.s2.trans h2)
  refine bodyPost_ret (v := .bool r) ?_ hF.defers ⟨rfl, hB⟩
  simp [results, Try.results9, go_sem, h5]
set_option maxHeartbeats 8000000 in
set_option maxRecDepth 100000 in
theorem rright (x : VW) (ao : Option Addr) (cp : Nat) (w : World) (hM : MemsAt w ao x.mem) : Calls Try.prog 9 #[x.v ao cp] w fun e w' => e = .returned (.bool (decide x.right)) ∧ Below w.heap.size w w' := by
  have HM := hide hM
  obtain ⟨num, L⟩ := x
  simp only [VW.v] at *
  obtain ⟨r, hr⟩ : ∃ r, decide (VW.mk num L).right = r := ⟨_, rfl⟩
  rw [hr]
  have HR := hide hr
  clear hM hr
  have D0 := heap_alloc_new w (.cells #[.int .i64 num, .slice ao L.length cp] tView)
  have B0 := (Below.refl w.heap.size w).alloc (Nat.le_refl _) (.cells #[.int .i64 num, .slice ao L.length cp] tView)
  have HD := hide D0
  have HB := hide B0
  clear D0 B0
  go_enter Try.func9, Try.ntmps9
  go_upto_region 1 with fail
  rename_i Ko hKo Ki hKi
  refine reg_mono (vr_r1 (by kernel_rfl) _ (v := ⟨_, _, _, _⟩) ⟨rfl, rfl, rfl, rfl, rfl, rfl⟩ rfl HD.out ?_)
  intro a1 F1 h24
  refine hKi _ _ ?_
  by_cases c : num < 1 ∨ big < num ∨ L.length < 1 ∨ 7 < L.length
  · rw [decide_eq_true c] at h24
    refine wp_cond_true h24 (wp_seq (reg_mono (vr_r2 (by kernel_rfl) _ F1 ?_)))
    intro a2 F2
    refine wp_ret ?_
    refine vr_ret F2 ?_ HB.out
    show Value.bool false = .bool r
    rw [← HR.out, decide_eq_false]
    intro e
    obtain ⟨e1, e2, e3, e4, _⟩ := e
    simp only at e1 e2 e3 e4
    omega
  · rw [decide_eq_false c] at h24
    refine wp_cond_false h24 (wp_skip ?_)
    show Ko _ _
    refine hKo _ _ ?_
    refine wp_seq (wp_seq (reg_mono (vr_r3 (by kernel_rfl) _ F1 ?_)))
    intro a2 F2
    have hl : L.length ≤ 7 := by omega
    refine wp_block (wp_loop (fun a W => ∃ i v, i ≤ L.length ∧ (∀ j, j < i → okAt L j) ∧ Fvr a v ∧ v.v1 = .pointer (some ⟨w.heap.size, 0, none⟩) ∧ v.v3 = .int .i64 (i : Int) ∧ Below (w.alloc (.cells #[.int .i64 num, .slice ao L.length cp] tView)).heap.size (w.alloc (.cells #[.int .i64 num, .slice ao L.length cp] tView)) W) (fun a _ => L.length - (intOf (a.tmps.getD 3 undef)).toNat) ⟨0, _, Nat.zero_le _, fun j hj => absurd hj (Nat.not_lt_zero _), F2, rfl, rfl, Below.refl _ _⟩ ?_)
    rintro a3 w3 ⟨i, v3, hi, hok, F3, g1, g3, b3⟩
    have D3 : w3.heap[w.heap.size]? = some (.cells #[.int .i64 num, .slice ao L.length cp] tView (0, 0)) := (b3.block _ (by simp)).trans HD.out
    have B3 : Below w.heap.size w w3 := HB.out.trans (b3.mono HB.out.size)
    have hm3 : (intOf (a3.tmps.getD 3 undef)).toNat = i := by rw [F3.s3, g3]; simp [intOf]
    refine wp_seq (wp_seq (reg_mono (vr_r4 (by kernel_rfl) _ F3 g1 g3 D3 ?_)))
    intro a4 F4 h29
    by_cases hlt : i < L.length
    · rw [decide_eq_true hlt] at h29
      refine wp_cond_true h29 (wp_skip ?_)
      show Code.wp _ _ _ _ _
      refine wp_seq (wp_block (wp_seq (reg_mono (vr_r6 (by kernel_rfl) _ F4 g1 g3 D3 (HM.out.below B3) hlt ?_))))
      intro a5 w5 F5 b5
      have B5 := B3.trans (b5.mono B3.size)
      refine wp_seq (reg_mono (vr_r7 (by kernel_rfl) _ F5 g1 g3 ((b5.block _ (heap_lt D3)).trans D3) (HM.out.below B5) hlt (by omega) rfl ?_))
      intro a6 w6 F6 h59 b6
      have B6 := B5.trans (b6.mono B5.size)
      by_cases c2 : okAt L i
      · rw [decide_eq_false (fun e => e c2)] at h59
        refine wp_cond_false h59 (wp_skip ?_)
        show Code.wp _ _ _ _ _
        refine reg_all (vr_r5 (by kernel_rfl) _ F6 g3 (by omega) ?_)
        intro a7 F7
        refine ⟨⟨i + 1, _, by omega, fun j hj => ?_, F7, g1, rfl, ?_⟩, ?_⟩
        · by_cases e : j = i
          · rw [e]; exact c2
          · exact hok j (by omega)
        · exact (b3.trans (b5.mono b3.size)).trans (b6.mono (Nat.le_trans b3.size b5.size))
        · have hm7 : (intOf (a7.tmps.getD 3 undef)).toNat = i + 1 := by rw [F7.s3]; simp only [intOf]; omega
          rw [hm7, hm3]
          omega
      · rw [decide_eq_true c2] at h59
        refine wp_cond_true h59 (wp_seq (reg_mono (vr_r8 (by kernel_rfl) _ F6 ?_)))
        intro a7 F7
        refine wp_ret ?_
        refine vr_ret F7 ?_ B6
        show Value.bool false = .bool r
        rw [← HR.out, decide_eq_false]
        exact fun e => c2 (e.2.2.2.2 i hlt)
    · rw [decide_eq_false hlt] at h29
      refine wp_cond_false h29 (wp_exit ?_)
      show Code.wp _ _ _ _ _
      refine wp_seq (reg_mono (vr_r9 (by kernel_rfl) _ F4 ?_))
      intro a5 F5
      refine wp_ret ?_
      refine vr_ret F5 ?_ B3
      show Value.bool true = .bool r
      rw [← HR.out, decide_eq_true]
      refine ⟨by show 1 ≤ num; omega, by show num ≤ big; omega, by show 1 ≤ L.length; omega, hl, fun j hj => hok j ?_⟩
      have : j < L.length := hj
      omega
end Go.Proofs.Ytbkglpbkbfopjaa
