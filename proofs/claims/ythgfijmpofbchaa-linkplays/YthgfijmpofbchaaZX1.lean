/-
  carillonref09's link in memory; New, Send, Waiting, Tick, as they run.
-/
import Derived.Test.YthgfijmpofbchaaZD0
import Derived.Test.YthgfijmpofbchaaChecked
import Derived.WalkSmall
import Derived.KernelRfl
import Derived.Deep.RegionHeld
namespace Go.Proofs.Ythgfijmpofbchaa
open Go.RowKit

abbrev xCells (l : LK) (v : Value) : Array Value := #[.int .i64 l.epoch, .int .i64 l.peer, v, .int .i64 l.first, .int .i64 l.out, .int .i64 l.due, .int .i64 l.taken, .bool l.owes, .int .i64 l.ticks]
/-- An end in memory: its box, and the row of what waits in a block of its own. -/
structure XL (w : World) (b : Nat) (v : Value) (l : LK) : Prop where
  ok : l.ok
  box : w.heap[b]? = some (.cells (xCells l v) 45 (0, 0))
  row : OwnsQ w 9 1 v l.wait.length (l.wait.map .string)
def xown (b : Nat) (v : Value) (j : Nat) : Prop := j = b ∨ v.ownBlock = some j
section
variable {w w' : World} {b : Nat} {v : Value} {l : LK}
theorem XL.ne (h : XL w b v l) : v.ownBlock ≠ some b := fun e => absurd (h.row.type e h.box) (by decide)
theorem XL.keep {own : Nat → Prop} (h : XL w b v l) (ht : Touch own w w') (hn : ∀ j, xown b v j → ¬ own j) : XL w' b v l :=
  ⟨h.ok, ht.at h.box (hn b (.inl rfl)), h.row.keep ht fun j hj => hn j (.inr hj)⟩
theorem XL.lt (h : XL w b v l) {j : Nat} (hj : xown b v j) : j < w.heap.size := by
  rcases hj with rfl | hj
  · exact heap_lt h.box
  · exact h.row.lt hj
/-- Its cells. -/
theorem XL.c (h : XL w b v l) : w.cell? ⟨b, 0, none⟩ = some (.int .i64 l.epoch) ∧ w.cell? ⟨b, 1, none⟩ = some (.int .i64 l.peer) ∧ w.cell? ⟨b, 2, none⟩ = some v ∧ w.cell? ⟨b, 3, none⟩ = some (.int .i64 l.first) ∧ w.cell? ⟨b, 4, none⟩ = some (.int .i64 l.out) ∧ w.cell? ⟨b, 5, none⟩ = some (.int .i64 l.due) ∧ w.cell? ⟨b, 6, none⟩ = some (.int .i64 l.taken) ∧ w.cell? ⟨b, 7, none⟩ = some (.bool l.owes) ∧ w.cell? ⟨b, 8, none⟩ = some (.int .i64 l.ticks) :=
  ⟨box_cell h.box 0 rfl, box_cell h.box 1 rfl, box_cell h.box 2 rfl, box_cell h.box 3 rfl, box_cell h.box 4 rfl, box_cell h.box 5 rfl, box_cell h.box 6 rfl, box_cell h.box 7 rfl, box_cell h.box 8 rfl⟩
theorem XL.f (h : XL w b v l) (o : Nat) : w.frozen? ⟨b, o, none⟩ = false := box_free h.box o
/-- Only its box is another one. -/
theorem XL.boxed (h : XL w b v l) {l' : LK} (hok : l'.ok) (hw : l'.wait = l.wait) (ht : Touch (fun j => j = b) w w') (hb : w'.heap[b]? = some (.cells (xCells l' v) 45 (0, 0))) : XL w' b v l' :=
  ⟨hok, hb, by rw [hw]; exact h.row.keep ht fun j hj e => h.ne (by rw [← e]; exact hj)⟩
set_option maxHeartbeats 1000000 in
theorem xwaiting (h : XL w b v l) : Calls Try.prog 20 #[.pointer (some ⟨b, 0, none⟩)] w fun e w' => e = .returned (.int .i64 l.wait.length) ∧ w' = w := by
  obtain ⟨ao, cp, hv⟩ := h.row.slice
  obtain ⟨_, _, c2, _⟩ := h.c
  rw [hv] at c2
  clear h
  go_enter Try.func20, Try.ntmps20
  go_wp2
  go_ret
  exact ⟨rfl, rfl⟩
set_option maxHeartbeats 2000000 in
theorem xtick (h : XL w b v l) : Calls Try.prog 15 #[.pointer (some ⟨b, 0, none⟩)] w fun e w' => e = .returned (.tuple #[]) ∧ XL w' b v l.tick ∧ Touch (fun j => j = b) w w' := by
  obtain ⟨c0, c1, c2, c3, c4, c5, c6, c7, c8⟩ := h.c
  have f5 := h.f 5
  have f7 := h.f 7
  have f8 := h.f 8
  have ht2 := h.ok.ticks
  have HE : Hid (∀ w', Touch (fun j => j = b) w w' → w'.heap[b]? = some (.cells (xCells l.tick v) 45 (0, 0)) → XL w' b v l.tick ∧ Touch (fun j => j = b) w w') := fun w' ht hb => ⟨h.boxed h.ok.tick (tick_wait l) ht hb, ht⟩
  have hbox := hide h.box
  by_cases e1 : l.peer = 0
  · by_cases e2 : l.out = 0
    · have hT : l.tick = { l with owes := true } := by unfold LK.tick; simp [e1, e2]
      rw [hT] at HE ⊢
      rw [e1] at c1
      rw [e2] at c4
      clear h
      go_enter Try.func15, Try.ntmps15
      go_wp2
      ((try simp only [Exit.inBlock, Exit.then]); refine bodyPost_ret (results_none rfl _ _ _) rfl ?_)
      refine ⟨rfl, HE.out _ ?_ ?_⟩
      · repeat refine Touch.setCell ?_ _ _ (fun _ => rfl)
        exact Touch.refl _ w
      · have h0 := hbox.out
        have h1 := box_set h0 7 (.bool true)
        simpa [xCells] using h1
    · by_cases e3 : l.ticks + 1 = 3
      · have hT : l.tick = { l with owes := true, ticks := 0, due := 0 } := by unfold LK.tick; simp [e1, e2, e3]
        rw [hT] at HE ⊢
        rw [e1] at c1
        have g2 := beq_zero_false e2
        obtain e4 : l.ticks = 2 := by omega
        rw [e4] at c8
        clear h
        go_enter Try.func15, Try.ntmps15
        go_wp2
        go_end0
        refine ⟨rfl, HE.out _ ?_ ?_⟩
        · repeat refine Touch.setCell ?_ _ _ (fun _ => rfl)
          exact Touch.refl _ w
        · have h0 := hbox.out
          have h1 := box_set h0 7 (.bool true)
          have h2 := box_set h1 8 (.int .i64 3)
          have h3 := box_set h2 8 (.int .i64 0)
          have h4 := box_set h3 5 (.int .i64 0)
          simpa [xCells] using h4
      · have hT : l.tick = { l with owes := true, ticks := l.ticks + 1 } := by unfold LK.tick; simp [e1, e2, e3]
        rw [hT] at HE ⊢
        rw [e1] at c1
        have g2 := beq_zero_false e2
        have g3 : (((l.ticks : Nat) : Int) + 1 == 3) = false := by rw [beq_eq_false_iff_ne]; omega
        clear h
        go_enter Try.func15, Try.ntmps15
        go_wp2
        go_end0
        refine ⟨rfl, HE.out _ ?_ ?_⟩
        · repeat refine Touch.setCell ?_ _ _ (fun _ => rfl)
          exact Touch.refl _ w
        · have h0 := hbox.out
          have h1 := box_set h0 7 (.bool true)
          have h2 := box_set h1 8 (.int .i64 ((l.ticks : Int) + 1))
          simpa [xCells] using h2
  · by_cases e2 : l.out = 0
    · have hT : l.tick = l := by unfold LK.tick; simp [e1, e2]
      rw [hT] at HE ⊢
      have g1 := beq_zero_false e1
      rw [e2] at c4
      clear h
      go_enter Try.func15, Try.ntmps15
      go_wp2
      ((try simp only [Exit.inBlock, Exit.then]); refine bodyPost_ret (results_none rfl _ _ _) rfl ?_)
      refine ⟨rfl, HE.out _ ?_ ?_⟩
      · repeat refine Touch.setCell ?_ _ _ (fun _ => rfl)
        exact Touch.refl _ w
      · have h0 := hbox.out
        simpa [xCells] using h0
    · by_cases e3 : l.ticks + 1 = 3
      · have hT : l.tick = { l with ticks := 0, due := 0 } := by unfold LK.tick; simp [e1, e2, e3]
        rw [hT] at HE ⊢
        have g1 := beq_zero_false e1
        have g2 := beq_zero_false e2
        obtain e4 : l.ticks = 2 := by omega
        rw [e4] at c8
        clear h
        go_enter Try.func15, Try.ntmps15
        go_wp2
        go_end0
        refine ⟨rfl, HE.out _ ?_ ?_⟩
        · repeat refine Touch.setCell ?_ _ _ (fun _ => rfl)
          exact Touch.refl _ w
        · have h0 := hbox.out
          have h1 := box_set h0 8 (.int .i64 3)
          have h2 := box_set h1 8 (.int .i64 0)
          have h3 := box_set h2 5 (.int .i64 0)
          simpa [xCells] using h3
      · have hT : l.tick = { l with ticks := l.ticks + 1 } := by unfold LK.tick; simp [e1, e2, e3]
        rw [hT] at HE ⊢
        have g1 := beq_zero_false e1
        have g2 := beq_zero_false e2
        have g3 : (((l.ticks : Nat) : Int) + 1 == 3) = false := by rw [beq_eq_false_iff_ne]; omega
        clear h
        go_enter Try.func15, Try.ntmps15
        go_wp2
        go_end0
        refine ⟨rfl, HE.out _ ?_ ?_⟩
        · repeat refine Touch.setCell ?_ _ _ (fun _ => rfl)
          exact Touch.refl _ w
        · have h0 := hbox.out
          have h1 := box_set h0 8 (.int .i64 ((l.ticks : Int) + 1))
          simpa [xCells] using h1
end
end Go.Proofs.Ythgfijmpofbchaa
