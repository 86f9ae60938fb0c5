/-
  The program's Alive (mkua.py).
-/
import Derived.Test.YtafjngmdandgmaaZUA3
import Derived.Test.YtafjngmdandgmaaZUA4
namespace Go.Proofs.Ytafjngmdandgmaa
open Go.RowKit

attribute [local go_sem ↓] Go.wp_at_zero Go.wp_at_succ
set_option linter.unusedSimpArgs false
set_option linter.unusedVariables false
theorem pa_ret {W : World} {a : Act} {v : Vpa} {x : Value} {R : Ending → World → Prop} (hF : Fpa a v) (h2 : v.v2 = x) (hB : R (.returned x) W) : bodyPost Try.prog Try.f13 R .ret a W := by
  have g2 := slot_get (hF.s2.trans h2)
  refine bodyPost_ret (v := x) ?_ hF.defers hB
  simp [results, Try.results13, go_sem, g2]
theorem wp_done {P : Program} {c : Code} {Q : Exit → Act → World → Prop} {a : Act} {w : World} (Mid : Act → World → Prop) (h1 : Code.wp P c (Exit.then Mid fun _ _ _ => False) a w) (h2 : ∀ a w, Mid a w → Q .normal a w) : Code.wp P c Q a w :=
  wp_mono h1 fun e a w q => by
    cases e with
    | normal => exact h2 a w q
    | _ => exact False.elim q
set_option maxHeartbeats 4000000 in
set_option maxRecDepth 100000 in
theorem palive {w : World} {b c : Nat} {S : SU} (h : PAt w b c S) : Calls Try.prog 13 #[.pointer (some ⟨b, 0, none⟩)] w fun e w' => ∃ ro rc, e = .returned (.slice ro S.alive.length rc) ∧ MemsAt w' ro S.alive ∧ Below w.heap.size w w' ∧ ∀ a, ro = some a → w.heap.size ≤ a.block := by
  have H := hide h
  clear h
  go_enter Try.func13, Try.ntmps13
  go_upto_region 1 with fail
  rename_i Ko hKo
  refine reg_mono (pa_r1 (by kernel_rfl) _ (v := ⟨_, _, _, _, _, _⟩) ⟨rfl, rfl, rfl, rfl, rfl, rfl, rfl, rfl⟩ ?_)
  intro a1 F1
  refine hKo _ _ ?_
  refine wp_seq (wp_seq (reg_mono (pa_r2 (by kernel_rfl) _ F1 ?_)))
  intro a2 F2
  refine wp_block (wp_loop (fun a W => ∃ (i : Nat) (v : Vpa) (oo : Option Addr) (oc : Nat), i ≤ 7 ∧ Fpa a v ∧ v.v0 = .pointer (some ⟨b, 0, none⟩) ∧ v.v3 = .slice oo (S.upto i).length oc ∧ v.v6 = .int .i64 (i : Int) ∧ W.ownsRow w.heap.size tMember 2 (.slice oo (S.upto i).length oc) (S.upto i).length (mbCells (S.upto i)) ∧ Below w.heap.size w W) (fun a _ => 7 - (intOf (a.tmps.getD 6 undef)).toNat) ⟨0, _, none, 0, Nat.zero_le _, F2, rfl, rfl, rfl, World.ownsRow_nil _ _ _ _, Below.refl _ _⟩ ?_)
  clear F1 F2
  rintro a3 w3 ⟨i, v3, oo, oc, hi, F3, g0, g3, g6, R3, B3⟩
  have hm3 : (intOf (a3.tmps.getD 6 undef)).toNat = i := by rw [F3.s6, g6]; simp [intOf]
  refine wp_seq (reg_mono (pa_r3 (by kernel_rfl) _ F3 g6 ?_))
  intro a4 F4 h7
  by_cases hlt : i < 7
  case neg =>
    rw [decide_eq_false hlt] at h7
    refine wp_seq (wp_cond_false h7 (wp_exit ?_))
    show Code.wp _ _ _ _ _
    obtain rfl : i = 7 := by omega
    refine wp_seq (reg_mono (pa_r9 (by kernel_rfl) _ F4 ?_))
    intro a5 F5
    refine wp_ret (pa_ret F5 g3 ⟨oo, oc, rfl, mems_of_row R3 rfl, B3, ?_⟩)
    rintro a rfl
    exact (R3.lt a.block rfl).1
  rw [decide_eq_true hlt] at h7
  refine wp_seq (wp_cond_true h7 (wp_skip ?_))
  show Code.wp _ _ _ _ _
  have T3 := H.out.below B3
  refine wp_seq (wp_block (wp_seq (reg_mono (pa_r4 (by kernel_rfl) _ F4 g6 ?_))))
  intro a5 F5
  refine wp_seq (reg_mono (pa_r5 (m := S.at i) (by kernel_rfl) _ F5 g0 rfl (plast T3 hlt) ?_))
  intro a6 w6 F6 b6
  have B6' := B3.trans (b6.mono B3.size)
  have D6 := heap_alloc_new w6 (.cells #[.int .i64 (S.at i).node, .int .i64 (S.at i).life] tMember)
  have B6 := B6'.alloc B6'.size (.cells #[.int .i64 (S.at i).node, .int .i64 (S.at i).life] tMember)
  have R6 := (below_row b6 R3).alloc (.cells #[.int .i64 (S.at i).node, .int .i64 (S.at i).life] tMember)
  generalize w6.alloc (.cells #[.int .i64 (S.at i).node, .int .i64 (S.at i).life] tMember) = w7 at *
  generalize w6.heap.size = d at *
  refine wp_seq (reg_mono (pa_r6 (m := S.at i) (by kernel_rfl) _ F6 g0 rfl D6 (pis (H.out.below B6) (S.at i)) ?_))
  intro a7 w8 F7 h14 b7
  have D7 := (b7.block _ (heap_lt D6)).trans D6
  have R7 := below_row b7 R6
  have B7 := B6.trans (b7.mono B6.size)
  refine wp_done (fun a W => ∃ (v : Vpa) (oo : Option Addr) (oc : Nat), Fpa a v ∧ v.v0 = .pointer (some ⟨b, 0, none⟩) ∧ v.v3 = .slice oo (S.upto (i + 1)).length oc ∧ v.v6 = .int .i64 (i : Int) ∧ W.ownsRow w.heap.size tMember 2 (.slice oo (S.upto (i + 1)).length oc) (S.upto (i + 1)).length (mbCells (S.upto (i + 1))) ∧ Below w.heap.size w W) ?_ ?_
  · cases hI : S.is (S.at i) with
    | true =>
      rw [hI] at h14
      have hu : S.upto (i + 1) = S.upto i ++ [S.at i] := by rw [SU.upto_succ, if_pos hI]
      have hul : (S.upto (i + 1)).length = (S.upto i).length + 1 := by rw [hu]; simp
      refine wp_cond_true h14 (pa_r7 (m := S.at i) (by kernel_rfl) _ F7 g3 rfl D7 R7 (by have := SU.upto_len S i; omega) B7.size ?_)
      intro a9 w9 oo9 oc9 F9 t9 R9
      refine ⟨_, oo9, oc9, F9, g0, by rw [hul], g6, ?_, B7.trans (t9.toBelow B7.size fun j hj e => by have := (R7.lt j e).1; omega)⟩
      rw [hul, hu]
      exact R9
    | false =>
      rw [hI] at h14
      have hu : S.upto (i + 1) = S.upto i := by rw [SU.upto_succ, if_neg (by rw [hI]; simp), List.append_nil]
      refine wp_cond_false h14 (wp_skip ?_)
      rw [hu]
      exact ⟨_, oo, oc, F7, g0, g3, g6, R7, B7⟩
  clear F3 F4 F5 F6 F7 g0 g3 g6 D6 D7 R6 R7 B6 B7 b7 b6 B6'
  rintro a8 w9 ⟨v8, oo8, oc8, F8, g0, g3, g6, R8, B8⟩
  show Code.wp _ _ _ _ _
  refine reg_all (pa_r8 (by kernel_rfl) _ F8 g6 (by omega) ?_)
  intro a9 F9
  refine ⟨⟨i + 1, _, oo8, oc8, by omega, F9, g0, g3, rfl, R8, B8⟩, ?_⟩
  have hm9 : (intOf (a9.tmps.getD 6 undef)).toNat = i + 1 := by rw [F9.s6]; simp only [intOf]; omega
  rw [hm9, hm3]
  omega
end Go.Proofs.Ytafjngmdandgmaa
