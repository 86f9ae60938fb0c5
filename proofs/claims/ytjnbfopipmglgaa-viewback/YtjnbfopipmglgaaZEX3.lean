/-
  The laws' examples hold (mkex.py)
-/
import Derived.Test.YtjnbfopipmglgaaZEX2
namespace Go.Proofs.Ytjnbfopipmglgaa
open Go.RowKit

attribute [local go_sem ↓] Go.wp_at_zero Go.wp_at_succ
set_option linter.unusedSimpArgs false
set_option linter.unusedVariables false
theorem ex_ret {w W : World} {a : Act} {v : Vex} (hF : Fex a v) (h0 : v.v0 = .bool true) (hB : Below w.heap.size w W) :
    bodyPost Try.prog Try.f5 (fun e w' => e = .returned (.bool true) ∧ Below w.heap.size w w') .ret a W := by
  have g0 := slot_get (hF.s0.trans h0)
  refine bodyPost_ret (v := .bool true) ?_ hF.defers ⟨rfl, hB⟩
  simp [results, Try.results5, go_sem, g0]
def exV : VW := ⟨1, [⟨0, 1⟩, ⟨1, 1⟩, ⟨2, 1⟩]⟩
def exW : VW := ⟨2, [⟨0, 1⟩, ⟨1, 1⟩, ⟨2, 3⟩]⟩
def exA : List MB := [⟨0, 1⟩, ⟨2, 1⟩, ⟨2, 3⟩]
theorem exV_right : exV.right := by decide
theorem exW_right : exW.right := by decide
theorem ex_one : exV.next exA [0, 1, 2] = (⟨0, []⟩, 12) := by
  unfold VW.next
  rw [if_neg (by decide), if_neg (by decide), if_pos (by decide)]
theorem ex_two : exV.next exW.mem [0, 1, 2] = (exW, 0) := by
  unfold VW.next
  rw [if_neg (by decide), if_neg (by decide), if_neg (by decide)]
  rfl
/-- Members in a block of their own. -/
theorem mems_of_cells {w : World} {g : Nat} {L : List MB} (h : w.heap[g]? = some (.cells (mbCells L).toArray tMember (0, 0))) : MemsAt w (some ⟨g, 0, none⟩) L := fun i hi => by
  refine ⟨g, 0, rfl, heap_lt h, ?_, ?_⟩
  · rw [Nat.zero_add]
    exact box_cell h (i * 2) (by rw [List.getElem?_toArray]; exact (mbCells_get L i 0 hi (by omega)))
  · rw [Nat.zero_add]
    exact box_cell h (i * 2 + 1) (by rw [List.getElem?_toArray]; exact (mbCells_get L i 1 hi (by omega)))
theorem ints_of_cells {w : World} {g : Nat} (h : w.heap[g]? = some (.cells #[.int .i64 0, .int .i64 1, .int .i64 2] 3 (0, 0))) : IntsAt w (some ⟨g, 0, none⟩) [0, 1, 2] := fun i hi => by
  refine ⟨g, 0, rfl, heap_lt h, ?_⟩
  rw [Nat.zero_add]
  match i, hi with
  | 0, _ => exact box_cell h 0 rfl
  | 1, _ => exact box_cell h 1 rfl
  | 2, _ => exact box_cell h 2 rfl
set_option maxHeartbeats 16000000 in
set_option maxRecDepth 100000 in
theorem pexamples : ExSays := by
  intro w
  go_enter Try.func5, Try.ntmps5
  refine wp_seq (reg_mono (ex_r0 (by kernel_rfl) _ (v := ⟨_, _, _, _, _, _, _, _⟩) ⟨rfl, rfl, rfl, rfl, rfl, rfl, rfl, rfl, rfl, rfl⟩ ?_))
  intro a1 F1
  refine wp_seq (reg_mono (ex_r1 (by kernel_rfl) _ F1 pm ?_))
  intro a2 w2 d g F2 D2 G2 b2
  have M2 : MemsAt w2 (some ⟨g, 0, none⟩) exV.mem := mems_of_cells G2
  refine wp_seq (reg_mono (ex_r2 (by kernel_rfl) _ F2 rfl D2 pm (fun W ga gq hW h1 h2 => ?_) ?_))
  · refine (pnext exV exA [0, 1, 2] _ _ _ 3 3 3 W (M2.below hW) (mems_of_cells h1) (ints_of_cells h2) (by decide) (by decide) (by decide)).mono ?_
    rintro e w' ⟨⟨ro, rc, rfl, h3⟩, h4⟩
    rw [ex_one] at h3 ⊢
    exact ⟨ro, rc, rfl, ownsRow_base h3 hW.size, h4⟩
  intro a3 w3 ob1 ro1 rc1 F3 _ _ b3
  have D3 := (b3.block _ (heap_lt D2)).trans D2
  have M3 := M2.below b3
  refine wp_seq (reg_mono (ex_r3 (by kernel_rfl) _ F3 rfl D3 pm (fun W ga gq hW h1 h2 => ?_) ?_))
  · refine (pnext exV exW.mem [0, 1, 2] _ _ _ 3 3 3 W (M3.below hW) (mems_of_cells h1) (ints_of_cells h2) (by decide) (by decide) (by decide)).mono ?_
    rintro e w' ⟨⟨ro, rc, rfl, h3⟩, h4⟩
    rw [ex_two] at h3 ⊢
    exact ⟨ro, rc, rfl, ownsRow_base h3 hW.size, h4⟩
  intro a4 w4 ob ro rc F4 O4 row4 b4
  have D4 := (b4.block _ (heap_lt D3)).trans D3
  have M4 := M3.below b4
  obtain ⟨gr, cur, rfl, hg, hgr, hsz⟩ := row_block row4 (by decide)
  have N4 : MemsAt w4 (some ⟨gr, 0, none⟩) exW.mem := mems_of_row row4 rfl
  refine wp_seq (reg_mono (ex_r4 (by kernel_rfl) _ F4 rfl O4 ?_ ?_))
  · refine (pfirst exW _ rc w4 N4 (by decide)).mono ?_
    rintro e w' ⟨rfl, h⟩
    rw [if_pos exW_right]
    exact ⟨by unfold firstOf; rw [if_pos exW_right]; rfl, h⟩
  intro a5 w5 xb F5 X5 b5
  have D5 := (b5.block _ (heap_lt D4)).trans D4
  have O5 := (b5.block _ (heap_lt O4)).trans O4
  have M5 := M4.below b5
  have N5 := N4.below b5
  have B5 : Below w.heap.size w w5 := b2.trans ((b3.mono b2.size).trans ((b4.mono (Nat.le_trans b2.size b3.size)).trans (b5.mono (Nat.le_trans b2.size (Nat.le_trans b3.size b4.size)))))
  obtain ⟨_, _, hx, hlt, y4, y5⟩ := N5 2 (by decide)
  cases hx
  refine wp_seq (reg_mono (ex_r5 (by kernel_rfl) _ F5 rfl rfl rfl rfl rfl rfl D5 O5 X5 hlt y4 y5 (fun W _ => pm 2 3 W) (fun W _ => pm 0 1 W) (fun W _ => pmajority exV (some ⟨g, 0, none⟩) 3 W (by decide)) (fun W hW => pcommon exV exW _ _ 3 rc W (M5.below hW) (N5.below hW) (by decide) (by decide)) (fun W _ => pm 2 3 W) (fun W hW => phas exW ⟨2, 3⟩ _ rc W (N5.below hW) (by decide)) ?_))
  intro a6 w6 F6 b6
  refine wp_ret ?_
  exact ex_ret F6 rfl (B5.trans (b6.mono B5.size))
end Go.Proofs.Ytjnbfopipmglgaa
