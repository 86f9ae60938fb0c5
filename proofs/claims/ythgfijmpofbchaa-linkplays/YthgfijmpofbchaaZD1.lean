/-
  The program's end of a session in memory; New, Peer, Waiting, knows, as they run.
-/
import Derived.Test.YthgfijmpofbchaaZD0
import Derived.Test.YthgfijmpofbchaaRows
import Derived.Test.YthgfijmpofbchaaZCl
import Derived.WalkSmall
import Derived.KernelRfl
namespace Go.Proofs.Ythgfijmpofbchaa
open Go.RowKit

theorem infoStr : (Try.prog.info? 9).map (fun i => (i.zero, i.size, i.bytes)) = some (some (.string ⟨#[]⟩), 1, 16) := by kernel_rfl
theorem infoWT : (Try.prog.info? 66).map (fun i => (i.zero, i.size, i.bytes)) = some (some (.agg #[.int .i64 0, .string ⟨#[]⟩, .bool false]), 3, 32) := by kernel_rfl
theorem infoFR : (Try.prog.info? 31).map (fun i => (i.zero, i.size, i.bytes)) = some (some (.agg #[.int .i64 0, .int .i64 0, .int .i64 0, .int .i64 0, .string ⟨#[]⟩]), 5, 48) := by kernel_rfl
abbrev pCells (l : LK) (v : Value) : Array Value := #[.int .i64 l.epoch, .int .i64 l.peer, .int .i64 l.taken, .int .i64 ((l.first - 1 + l.wait.length : Nat) : Int), .int .i64 ((l.first - 1 + l.out : Nat) : Int), v, .int .i64 l.ticks, .bool l.owes]
/-- An end in memory: its box, and the row of what waits in a block of its own. -/
structure PL (w : World) (b : Nat) (v : Value) (l : LK) : Prop where
  ok : l.ok
  tk : l.out = 0 → l.ticks = 0
  box : w.heap[b]? = some (.cells (pCells l v) 62 (0, 0))
  row : OwnsQ w 66 3 v l.wait.length (wtCells (waitsOf l.first l.due l.wait))
def pown (b : Nat) (v : Value) (j : Nat) : Prop := j = b ∨ v.ownBlock = some j
/-- What a call of it leaves: its own blocks and new ones alone are touched. -/
structure PStep (w w' : World) (b : Nat) (v v' : Value) : Prop where
  touch : Touch (pown b v) w w'
  grew : ∀ j, pown b v' j → pown b v j ∨ w.heap.size ≤ j
section
variable {w w' : World} {b : Nat} {v : Value} {l : LK}
theorem PStep.of (h : Touch (fun j => j = b) w w') : PStep w w' b v v := ⟨h.mono fun _ _ e => .inl e, fun _ h => .inl h⟩
theorem PStep.refl (w : World) : PStep w w b v v := .of (Touch.refl _ w)
theorem PStep.trans {w2 : World} {v1 v2 : Value} (h : PStep w w' b v v1) (h2 : PStep w' w2 b v1 v2) : PStep w w2 b v v2 :=
  ⟨h.touch.andThen h2.touch fun k hk e => (h.grew k e).resolve_right (by omega), fun j e => by
    rcases h2.grew j e with e2 | e2
    · exact h.grew j e2
    · exact .inr (Nat.le_trans h.touch.size e2)⟩
theorem PStep.below (h : Below w.heap.size w w') : PStep w w' b v v := ⟨Touch.of_below h, fun _ e => .inl e⟩
theorem PL.ne (h : PL w b v l) : v.ownBlock ≠ some b := fun e => absurd (h.row.type e h.box) (by decide)
theorem PL.keep {own : Nat → Prop} (h : PL w b v l) (ht : Touch own w w') (hn : ∀ j, pown b v j → ¬ own j) : PL w' b v l :=
  ⟨h.ok, h.tk, ht.at h.box (hn b (.inl rfl)), h.row.keep ht fun j hj => hn j (.inr hj)⟩
theorem PL.below (h : PL w b v l) (hb : Below w.heap.size w w') : PL w' b v l := h.keep (own := fun _ => False) (Touch.of_below hb) fun _ _ e => e
theorem PL.lt (h : PL w b v l) {j : Nat} (hj : pown b v j) : j < w.heap.size := by
  rcases hj with rfl | hj
  · exact heap_lt h.box
  · exact h.row.lt hj
/-- Its cells. -/
theorem PL.c (h : PL w b v l) : w.cell? ⟨b, 0, none⟩ = some (.int .i64 l.epoch) ∧ w.cell? ⟨b, 1, none⟩ = some (.int .i64 l.peer) ∧ w.cell? ⟨b, 2, none⟩ = some (.int .i64 l.taken) ∧ w.cell? ⟨b, 3, none⟩ = some (.int .i64 ((l.first - 1 + l.wait.length : Nat) : Int)) ∧ w.cell? ⟨b, 4, none⟩ = some (.int .i64 ((l.first - 1 + l.out : Nat) : Int)) ∧ w.cell? ⟨b, 5, none⟩ = some v ∧ w.cell? ⟨b, 6, none⟩ = some (.int .i64 l.ticks) ∧ w.cell? ⟨b, 7, none⟩ = some (.bool l.owes) :=
  ⟨box_cell h.box 0 rfl, box_cell h.box 1 rfl, box_cell h.box 2 rfl, box_cell h.box 3 rfl, box_cell h.box 4 rfl, box_cell h.box 5 rfl, box_cell h.box 6 rfl, box_cell h.box 7 rfl⟩
theorem PL.f (h : PL w b v l) (o : Nat) : w.frozen? ⟨b, o, none⟩ = false := box_free h.box o
/-- Only its box is another one. -/
theorem PL.boxed (h : PL w b v l) {l' : LK} (hok : l'.ok) (htk : l'.out = 0 → l'.ticks = 0) (hw : l'.wait = l.wait) (hf : l'.first = l.first) (hd : l'.due = l.due) (ht : Touch (fun j => j = b) w w') (hb : w'.heap[b]? = some (.cells (pCells l' v) 62 (0, 0))) : PL w' b v l' :=
  ⟨hok, htk, hb, by rw [hw, hf, hd]; exact h.row.keep ht fun j hj e => h.ne (by rw [← e]; exact hj)⟩
/-- The cells of one that waits. -/
theorem PL.at {ao : Option Addr} {n cp : Nat} (h : PL w b (.slice ao n cp) l) (i : Nat) (hi : i < l.wait.length) : ∃ g off, ao = some ⟨g, off, none⟩ ∧ g ≠ b ∧ g < w.heap.size ∧ w.cell? ⟨g, off + i * 3, none⟩ = some (.int .i64 ((l.first + i : Nat) : Int)) ∧ w.cell? ⟨g, off + i * 3 + 1, none⟩ = some (.string l.wait[i]) ∧ w.cell? ⟨g, off + i * 3 + 2, none⟩ = some (.bool (decide (l.due ≤ i))) ∧ ∀ o, w.frozen? ⟨g, o, none⟩ = false := by
  have hne := h.ne
  have hr := h.row
  have hlt := fun j hj => h.row.lt (k := j) hj
  have hl : (waitsOf l.first l.due l.wait).length = l.wait.length := waitsOf_length _ _ _
  have hg := waitsOf_get l.wait i l.first l.due hi
  obtain ⟨hx, hx2⟩ := List.getElem?_eq_some_iff.1 hg
  obtain ⟨a1, c1, e1⟩ := hr.slice
  injection e1 with _ e2 _
  subst e2
  rcases hr.2 with ⟨hv, hn⟩ | ⟨g, off, c, cur, hv, hh, _⟩
  · omega
  · injection hv with h1 _ h3
    subst h1 h3
    obtain ⟨off2, ha, hc, hf⟩ := hr.cell
    injection ha with _ ha _
    subst ha
    have key : ∀ j, j < 3 → w.cell? ⟨g, off + i * 3 + j, none⟩ = ((waitsOf l.first l.due l.wait)[i].cells)[j]? := fun j hj => by
      rw [← wtCells_get _ i j hx hj, Nat.add_assoc]
      exact hc (i * 3 + j) (by omega)
    rw [hx2] at key
    exact ⟨g, off, rfl, fun e => hne (by rw [e]; rfl), hlt g rfl, key 0 (by omega), key 1 (by omega), key 2 (by omega), hf⟩
theorem PL.at2 {g off n cp : Nat} (h : PL w b (.slice (some ⟨g, off, none⟩) n cp) l) (i : Nat) (hi : i < l.wait.length) : g ≠ b ∧ g < w.heap.size ∧ w.cell? ⟨g, off + i * 3, none⟩ = some (.int .i64 ((l.first + i : Nat) : Int)) ∧ w.cell? ⟨g, off + i * 3 + 1, none⟩ = some (.string l.wait[i]) ∧ w.cell? ⟨g, off + i * 3 + 2, none⟩ = some (.bool (decide (l.due ≤ i))) ∧ ∀ o, w.frozen? ⟨g, o, none⟩ = false := by
  obtain ⟨g', off', e, r⟩ := h.at i hi
  injection e with e
  injection e with e1 e2 _
  subst e1 e2
  exact r
theorem PL.grown {w4 : World} {o : Obj} {row : Option Nat} (h : PL w b v l) (hg : (w.alloc o).grownBy w4 row) (hn : ∀ j, row = some j → ¬ pown b v j) : PL w4 b v l :=
  h.keep (own := fun j => row = some j) (((Touch.refl _ w).alloc o).grown hg fun _ e _ => e) fun j hj e => hn j e hj
set_option maxHeartbeats 1000000 in
theorem pwaiting (h : PL w b v l) : Calls Try.prog 19 #[.pointer (some ⟨b, 0, none⟩)] w fun e w' => e = .returned (.int .i64 l.wait.length) ∧ w' = w := by
  obtain ⟨ao, cp, hv⟩ := h.row.slice
  obtain ⟨_, _, _, _, _, c5, _⟩ := h.c
  rw [hv] at c5
  clear h
  go_enter Try.func19, Try.ntmps19
  go_wp2
  go_ret
  exact ⟨rfl, rfl⟩
set_option maxHeartbeats 1000000 in
theorem ppeer (h : PL w b v l) : Calls Try.prog 18 #[.pointer (some ⟨b, 0, none⟩)] w fun e w' => e = .returned (.int .i64 l.peer) ∧ w' = w := by
  obtain ⟨_, c1, _⟩ := h.c
  clear h
  go_enter Try.func18, Try.ntmps18
  go_wp2
  go_ret
  exact ⟨rfl, rfl⟩
theorem pknows (h : PL w b v l) : Calls Try.prog 27 #[.pointer (some ⟨b, 0, none⟩)] w fun e w' => e = .returned (.bool (decide (l.peer ≠ 0))) ∧ w' = w := by
  obtain ⟨_, c1, _⟩ := h.c
  clear h
  by_cases e : l.peer = 0
  · rw [e] at c1 ⊢
    go_enter Try.func27, Try.ntmps27
    go_wp2
    go_ret
    exact ⟨rfl, rfl⟩
  · have g := beq_zero_false e
    have g2 : (((l.peer : Nat) : Int) != 0) = true := by rw [bne_iff_ne]; omega
    rw [decide_eq_true e]
    clear e
    go_enter Try.func27, Try.ntmps27
    go_wp2
    go_ret
    exact ⟨rfl, rfl⟩
end
theorem isNumber_any (n : Int) (w : World) : Calls Try.prog 35 #[.int .i64 n] w fun e w' => e = .returned (.bool (decide (0 ≤ n ∧ n ≤ 9007199254740991))) ∧ w' = w := by
  by_cases h1 : 0 ≤ n
  · by_cases h2 : n ≤ 9007199254740991
    · rw [decide_eq_true (⟨h1, h2⟩ : 0 ≤ n ∧ n ≤ 9007199254740991)]
      go_enter Try.func35, Try.ntmps35
      go_wp2
      go_ret
      exact ⟨rfl, rfl⟩
    · rw [decide_eq_false (fun h => h2 h.2 : ¬ (0 ≤ n ∧ n ≤ 9007199254740991))]
      go_enter Try.func35, Try.ntmps35
      go_wp2
      go_ret
      exact ⟨rfl, rfl⟩
  · rw [decide_eq_false (fun h => h1 h.1 : ¬ (0 ≤ n ∧ n ≤ 9007199254740991))]
    go_enter Try.func35, Try.ntmps35
    go_wp2
    go_ret
    exact ⟨rfl, rfl⟩
theorem isEpoch_any (n : Int) (w : World) : Calls Try.prog 23 #[.int .i64 n] w fun e w' => e = .returned (.bool (decide (1 ≤ n ∧ n ≤ 9007199254740991))) ∧ w' = w := by
  have HN := hide (isNumber_any n w)
  by_cases h0 : n = 0
  · subst h0
    go_enter Try.func23, Try.ntmps23
    go_wp2
    go_ret
    exact ⟨rfl, rfl⟩
  · have g : (n == 0) = false := by rw [beq_eq_false_iff_ne]; exact h0
    have g2 : (n != 0) = true := by rw [bne_iff_ne]; exact h0
    have e : decide (1 ≤ n ∧ n ≤ 9007199254740991) = decide (0 ≤ n ∧ n ≤ 9007199254740991) := decide_eq_decide.2 (by omega)
    rw [e]
    clear h0 e
    generalize decide (0 ≤ n ∧ n ≤ 9007199254740991) = x at *
    go_enter Try.func23, Try.ntmps23
    go_wp2_with (go_at_call 35; refine HN.out.mono ?_; rintro e w' ⟨rfl, rfl⟩)
    go_ret
    exact ⟨rfl, rfl⟩
set_option maxHeartbeats 1000000 in
theorem pnew (n : Nat) (h1 : 1 ≤ n) (h2 : n ≤ 9007199254740991) (w : World) : Calls Try.prog 6 #[.int .i64 n] w fun e w' => e = .returned (.tuple #[.pointer (some ⟨w.heap.size, 0, none⟩), .int .i64 0]) ∧ PL w' w.heap.size (.slice none 0 0) (LK.new n) ∧ Below w.heap.size w w' := by
  have HO := hide (LK.ok_new h1 h2)
  have HE := hide (isEpoch_any n w)
  rw [decide_eq_true (⟨by omega, by omega⟩ : (1 : Int) ≤ n ∧ (n : Int) ≤ 9007199254740991)] at HE
  go_enter Try.func6, Try.ntmps6
  go_wp2_with (go_at_call 23; refine HE.out.mono ?_; rintro e w' ⟨rfl, rfl⟩)
  go_ret2
  refine ⟨rfl, ⟨HO.out, fun _ => rfl, ?_, OwnsQ.nil _ _ _⟩, (Below.refl _ _).alloc (Nat.le_refl _) _⟩
  exact heap_alloc_new w' _
set_option maxHeartbeats 1000000 in
theorem pnew_none (n : Int) (h : n < 1 ∨ 9007199254740991 < n) (w : World) : Calls Try.prog 6 #[.int .i64 n] w fun e w' => e = .returned (.tuple #[.pointer none, .int .i64 1]) ∧ w' = w := by
  have HE := hide (isEpoch_any n w)
  rw [decide_eq_false (by omega : ¬ ((1 : Int) ≤ n ∧ n ≤ 9007199254740991))] at HE
  clear h
  go_enter Try.func6, Try.ntmps6
  go_wp2_with (go_at_call 23; refine HE.out.mono ?_; rintro e w' ⟨rfl, rfl⟩)
  go_ret2
  exact ⟨rfl, rfl⟩
end Go.Proofs.Ythgfijmpofbchaa
