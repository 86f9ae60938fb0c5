/-
  The program's wait and Send, as they run.
-/
import Derived.Test.YthgfijmpofbchaaZD1
import Derived.Test.YthgfijmpofbchaaZS1
import Derived.Deep.RegionLaw
import Derived.Deep.RegionWith
import Derived.Shelf.Abstract
import Derived.Deep.DrawnRows
import Derived.Deep.RegionHeldLaw
import Derived.Test.YthgfijmpofbchaaZLast
namespace Go.Proofs.Ythgfijmpofbchaa
open Go.RowKit

attribute [local go_sem ↓] Go.wp_at_zero Go.wp_at_succ
section
variable {w : World} {b : Nat} {v : Value} {l : LK}
set_option maxHeartbeats 4000000 in
set_option linter.unusedSimpArgs false in
set_option maxRecDepth 100000 in
theorem pwait (h : PL w b v l) (s : ByteArray) (hs : s.size ≤ 100000) (hm : l.wait.length < 32) : Calls Try.prog 24 #[.pointer (some ⟨b, 0, none⟩), .string s] w fun e w' => e = .returned (.tuple #[]) ∧ ∃ v', PL w' b v' { l with wait := l.wait ++ [s] } ∧ PStep w w' b v v' := by
  have HO : Hid (({ l with wait := l.wait ++ [s] } : LK).ok) := by
    have := h.ok.send s
    unfold LK.send at this
    rwa [if_neg (by omega), if_neg (by omega)] at this
  obtain ⟨ao, cp, rfl⟩ := h.row.slice
  obtain ⟨i0, hi0, hz0, hz1, hz2⟩ := info_parts infoWT
  obtain ⟨c0, c1, c2, c3, c4, c5, c6, c7⟩ := h.c
  have f3 := h.f 3
  have f5 := h.f 5
  have hfst := h.ok.first
  have HB := hide h.box
  have HR := hide h.row
  have HN := hide h.ne
  have HTK := hide h.tk
  have hdl : l.due - l.wait.length = 0 := by have := h.ok.due; have := h.ok.outw; omega
  have hlt := heap_lt h.box
  have HW : Hid (wtCells (waitsOf l.first l.due l.wait) ++ [.int .i64 ((l.first - 1 + l.wait.length : Nat) + 1 : Int), .string s, .bool true] = wtCells (waitsOf l.first l.due (l.wait ++ [s]))) := by
    rw [waitsOf_append, wtCells_append]
    congr 1
    simp only [waitsOf, wtCells, WT.cells, List.flatMap_cons, List.flatMap_nil, List.append_nil, hdl]
    rw [show ((l.first - 1 + l.wait.length : Nat) + 1 : Int) = ((l.first + l.wait.length : Nat) : Int) by omega]
    rfl
  have HCE : Hid (((l.first - 1 + l.wait.length : Nat) : Int) + 1 = ((l.first - 1 + (l.wait ++ [s]).length : Nat) : Int)) := by
    show _ = _
    rw [List.length_append, List.length_singleton]
    omega
  have HLE : Hid ((l.wait ++ [s]).length = l.wait.length + 1) := by show _ = _; rw [List.length_append, List.length_singleton]
  have hla : (l.first - 1 + l.wait.length : Nat) ≤ 9007199254741100 := by have := h.ok.first; omega
  generalize l.wait.length = n at *
  generalize (l.first - 1 + n : Nat) = la at *
  have HK := hide (enters_of Try.func36 (by kernel_rfl) rfl)
  have HC := hide (fun w => clone_any s w (by omega))
  have K0 : Hid ((w.setCell ⟨b, 3, none⟩ (.int .i64 ((la : Int) + 1))).heap[b]? = some (.cells #[.int .i64 l.epoch, .int .i64 l.peer, .int .i64 l.taken, .int .i64 ((la : Int) + 1), .int .i64 ((l.first - 1 + l.out : Nat) : Int), .slice ao n cp, .int .i64 l.ticks, .bool l.owes] 62 (0, 0))) := by
    have := box_set HB.out 3 (.int .i64 ((la : Int) + 1))
    show _ = _
    simpa [pCells] using this
  have R0 : Hid (OwnsQ (w.setCell ⟨b, 3, none⟩ (.int .i64 ((la : Int) + 1))) 66 3 (.slice ao n cp) n (wtCells (waitsOf l.first l.due l.wait))) := HR.out.set b 3 _ HN.out
  have T0 : Hid (Touch (pown b (.slice ao n cp)) w (w.setCell ⟨b, 3, none⟩ (.int .i64 ((la : Int) + 1)))) := (Touch.refl _ w).setCell _ _ fun _ => .inl rfl
  clear h hdl
  go_enter Try.func24, Try.ntmps24
  go_wp2_with fail
  generalize w.setCell ⟨b, 3, none⟩ (.int .i64 ((la : Int) + 1)) = w0 at *
  have hlt0 := heap_lt K0.out
  have d3 := box_cell K0.out 3 rfl
  have d5 := box_cell K0.out 5 rfl
  clear c0 c1 c2 c3 c4 c5 c6 c7 f3 f5
  refine wp_region_last 16 rfl (by kernel_rfl) rfl rfl (by kernel_rfl) ?_
  intro ops' hops'
  simp only [idle, List.setIfInBounds_toArray, List.set_cons_succ, List.set_cons_zero] at hops'
  subst hops'
  refine wpAny_of_held (S := fun w' => w'.cell? ⟨b, 3, none⟩ = some (.int .i64 ((la : Int) + 1)) ∧ w'.cell? ⟨b, 5, none⟩ = some (.slice ao n cp)) _ _ _ _ ?_
  have hHeld : (fun w' => w'.cell? ⟨b, 3, none⟩ = some (.int .i64 ((la : Int) + 1)) ∧ w'.cell? ⟨b, 5, none⟩ = some (.slice ao n cp)) w0.drew := ⟨d3, d5⟩
  refine takeIn 0 (v := ?_) rfl (by kernel_rfl) (by kernel_rfl) (by kernel_rfl) (fun _ _ _ h => h) rfl ?_ hHeld ?_
  rotate_left
  · intro w hSw; (try dsimp only at hSw); first | (go_simp; done) | (go_simp; with_reducible rfl) | with_reducible rfl
  try simp only [Act.put, List.setIfInBounds_toArray, List.set_cons_zero, List.set_cons_succ]
  refine takeIn 1 (v := ?_) rfl (by kernel_rfl) (by kernel_rfl) (by kernel_rfl) (fun _ _ _ h => h) rfl ?_ hHeld ?_
  rotate_left
  · intro w hSw; (try dsimp only at hSw); first | (go_simp; done) | (go_simp; with_reducible rfl) | with_reducible rfl
  try simp only [Act.put, List.setIfInBounds_toArray, List.set_cons_zero, List.set_cons_succ]
  refine takeIn 2 (v := ?_) rfl (by kernel_rfl) (by kernel_rfl) (by kernel_rfl) (fun _ _ _ h => h) rfl ?_ hHeld ?_
  rotate_left
  · intro w hSw; (try dsimp only at hSw); first | (go_simp; done) | (go_simp; with_reducible rfl) | with_reducible rfl
  try simp only [Act.put, List.setIfInBounds_toArray, List.set_cons_zero, List.set_cons_succ]
  refine takeIn 3 (v := ?_) rfl (by kernel_rfl) (by kernel_rfl) (by kernel_rfl) (fun _ _ _ h => h) rfl ?_ hHeld ?_
  rotate_left
  · intro w hSw; (try dsimp only at hSw); first | (go_simp; done) | (go_simp; with_reducible rfl) | with_reducible rfl
  try simp only [Act.put, List.setIfInBounds_toArray, List.set_cons_zero, List.set_cons_succ]
  refine takeIn 4 (v := ?_) rfl (by kernel_rfl) (by kernel_rfl) (by kernel_rfl) (fun _ _ _ h => h) rfl ?_ hHeld ?_
  rotate_left
  · intro w hSw; (try dsimp only at hSw); first | (go_simp; done) | (go_simp; with_reducible rfl) | with_reducible rfl
  try simp only [Act.put, List.setIfInBounds_toArray, List.set_cons_zero, List.set_cons_succ]
  refine takeIn 5 (v := ?_) rfl (by kernel_rfl) (by kernel_rfl) (by kernel_rfl) (fun _ _ _ h => h) rfl ?_ hHeld ?_
  rotate_left
  · intro w hSw; (try dsimp only at hSw); first | (go_simp; done) | (go_simp; with_reducible rfl) | with_reducible rfl
  try simp only [Act.put, List.setIfInBounds_toArray, List.set_cons_zero, List.set_cons_succ]
  refine takeIn 6 (v := ?_) rfl (by kernel_rfl) (by kernel_rfl) (by kernel_rfl) (fun _ _ _ h => h) rfl ?_ hHeld ?_
  rotate_left
  · intro w hSw; (try dsimp only at hSw); first | (go_simp; done) | (go_simp; with_reducible rfl) | with_reducible rfl
  try simp only [Act.put, List.setIfInBounds_toArray, List.set_cons_zero, List.set_cons_succ]
  refine takeIn 7 (v := ?_) rfl (by kernel_rfl) (by kernel_rfl) (by kernel_rfl) (fun _ _ _ h => h) rfl ?_ hHeld ?_
  rotate_left
  · intro w hSw; (try dsimp only at hSw); first | (go_simp; done) | (go_simp; with_reducible rfl) | with_reducible rfl
  try simp only [Act.put, List.setIfInBounds_toArray, List.set_cons_zero, List.set_cons_succ]
  refine takeIn 8 (v := ?_) rfl (by kernel_rfl) (by kernel_rfl) (by kernel_rfl) (fun _ _ _ h => h) rfl ?_ hHeld ?_
  rotate_left
  · intro w hSw; (try dsimp only at hSw); first | (go_simp; done) | (go_simp; with_reducible rfl) | with_reducible rfl
  try simp only [Act.put, List.setIfInBounds_toArray, List.set_cons_zero, List.set_cons_succ]
  refine takeIn 9 (v := ?_) rfl (by kernel_rfl) (by kernel_rfl) (by kernel_rfl) (fun _ _ _ h => h) rfl ?_ hHeld ?_
  rotate_left
  · intro w hSw; (try dsimp only at hSw); first | (go_simp; done) | (go_simp; with_reducible rfl) | with_reducible rfl
  try simp only [Act.put, List.setIfInBounds_toArray, List.set_cons_zero, List.set_cons_succ]
  refine stepIn 10 rfl (by kernel_rfl) (fun K hK => ?_)
  refine step_fn rfl 36 _ _ rfl HK.out [.string s] rfl (HC.out _) ?_
  rintro e w1 ⟨rfl, bb⟩
  refine ⟨_, rfl, ?_⟩
  have B1 := hide bb
  clear bb
  have hb1 : b < w1.heap.size := Nat.lt_of_lt_of_le hlt0 B1.out.size
  have X1 : Hid (w1.heap[b]? = some (.cells #[.int .i64 l.epoch, .int .i64 l.peer, .int .i64 l.taken, .int .i64 ((la : Int) + 1), .int .i64 ((l.first - 1 + l.out : Nat) : Int), .slice ao n cp, .int .i64 l.ticks, .bool l.owes] 62 (0, 0))) := (B1.out.block b hlt0).trans K0.out
  have R1 : Hid (OwnsQ w1 66 3 (.slice ao n cp) n (wtCells (waitsOf l.first l.due l.wait))) := R0.out.congr (fun j hj => B1.out.block j (R0.out.lt hj))
  refine hK.out _ _ ⟨box_cell X1.out 3 rfl, box_cell X1.out 5 rfl⟩ (fun hHeldx => ?_)
  clear hK K hHeld
  have hHeld := hHeldx
  clear hHeldx
  try simp only [Act.put, List.setIfInBounds_toArray, List.set_cons_zero, List.set_cons_succ]
  refine takeIn 11 (v := ?_) rfl (by kernel_rfl) (by kernel_rfl) (by kernel_rfl) (fun _ _ _ h => h) rfl ?_ hHeld ?_
  rotate_left
  · intro w hSw; (try dsimp only at hSw); first | (go_simp; done) | (go_simp; with_reducible rfl) | with_reducible rfl
  try simp only [Act.put, List.setIfInBounds_toArray, List.set_cons_zero, List.set_cons_succ]
  refine stepIn 12 rfl (by kernel_rfl) (fun K hK => ?_)
  go_simp
  refine hK.out _ _ ⟨box_cell (box_alloc X1.out _) 3 rfl, box_cell (box_alloc X1.out _) 5 rfl⟩ (fun hHeldx => ?_)
  clear hK K hHeld
  have hHeld := hHeldx
  clear hHeldx
  try simp only [Act.put, List.setIfInBounds_toArray, List.set_cons_zero, List.set_cons_succ]
  refine stepIn 13 rfl (by kernel_rfl) (fun K hK => ?_)
  refine step_append_q (by rfl) _ _ _ (by rfl) 66 i0 _ 3 32 Try.underlying60 hi0 hz0 hz1 hz2 rfl (by omega) (.slice ao n cp) n (wtCells (waitsOf l.first l.due l.wait)) (by rfl) (R1.out.alloc _) ⟨w1.heap.size, 0, none⟩ 1 1 [.int .i64 ((la : Int) + 1), .string s, .bool true] (by rfl) (by rfl) (World.news_of_block (cs := #[.int .i64 ((la : Int) + 1), .string s, .bool true]) (t := 66) (fr := (0, 0)) (heap_alloc_new w1 _)) (by simp [Value.oneCell']) (by unfold maxLen; omega) (by omega) ?_
  intro a3 c3 w3 hown3 hgrow3 hat3
  have F5 : Hid (w3.heap[b]? = some (.cells #[.int .i64 l.epoch, .int .i64 l.peer, .int .i64 l.taken, .int .i64 ((la : Int) + 1), .int .i64 ((l.first - 1 + l.out : Nat) : Int), .slice ao n cp, .int .i64 l.ticks, .bool l.owes] 62 (0, 0))) := grown_at hgrow3 (box_alloc X1.out _) HN.out
  have q5 := box_cell F5.out 5 rfl
  have qf := box_free F5.out 5
  refine hK.out _ _ ⟨box_cell F5.out 3 rfl, box_cell F5.out 5 rfl⟩ (fun hHeldx => ?_)
  clear hK K hHeld
  have hHeld := hHeldx
  clear hHeldx
  try simp only [Act.put, List.setIfInBounds_toArray, List.set_cons_zero, List.set_cons_succ]
  refine takeIn 14 (v := ?_) rfl (by kernel_rfl) (by kernel_rfl) (by kernel_rfl) (fun _ _ _ h => h) rfl ?_ hHeld ?_
  rotate_left
  · intro w hSw; (try dsimp only at hSw); first | (go_simp; done) | (go_simp; with_reducible rfl) | with_reducible rfl
  try simp only [Act.put, List.setIfInBounds_toArray, List.set_cons_zero, List.set_cons_succ]
  refine takeIn 15 (v := ?_) rfl (by kernel_rfl) (by kernel_rfl) (by kernel_rfl) (fun _ _ _ h => h) rfl ?_ hHeld ?_
  rotate_left
  · intro w hSw; (try dsimp only at hSw); first | (go_simp; done) | (go_simp; with_reducible rfl) | with_reducible rfl
  try simp only [Act.put, List.setIfInBounds_toArray, List.set_cons_zero, List.set_cons_succ]
  refine takeIn 16 (v := ?_) rfl (by kernel_rfl) (by kernel_rfl) (by kernel_rfl) (fun _ _ _ h => h) rfl ?_ hHeld ?_
  rotate_left
  · intro w hSw; (try dsimp only at hSw); first | (go_simp; done) | (go_simp; with_reducible rfl) | with_reducible rfl
  try simp only [Act.put, List.setIfInBounds_toArray, List.set_cons_zero, List.set_cons_succ]
  refine wpAnyH_done (by kernel_rfl) ?_ _
  intro K hK
  go_simp
  refine hK _ _ ?_
  clear hK K hHeld
  all_goals (
    go_end0
    refine ⟨rfl, .slice a3 (n + 1) c3, ⟨HO.out, HTK.out, ?_, ?_⟩, ?_, ?_⟩
    · have h1 := box_set F5.out 5 (.slice a3 (n + 1) c3)
      rw [show pCells { l with wait := l.wait ++ [s] } (.slice a3 (n + 1) c3) = #[.int .i64 l.epoch, .int .i64 l.peer, .int .i64 l.taken, .int .i64 ((la : Int) + 1), .int .i64 ((l.first - 1 + l.out : Nat) : Int), .slice a3 (n + 1) c3, .int .i64 l.ticks, .bool l.owes] by rw [HCE.out]]
      simpa using h1
    · have hne5 : (Value.slice a3 (n + 1) c3).ownBlock ≠ some b := fun e => absurd (hown3.type e F5.out) (by decide)
      have h1 := hown3.set b 5 (.slice a3 (n + 1) c3) hne5
      show OwnsQ _ _ 3 _ (l.wait ++ [s]).length (wtCells (waitsOf l.first l.due (l.wait ++ [s])))
      rw [← HW.out, HLE.out]
      exact h1
    · exact (((T0.out.drew.andThen (Touch.of_below (own := fun _ => False) B1.out) fun _ _ e => e.elim).alloc _).grown hgrow3 fun j e _ => .inr e).setCell _ _ fun _ => .inl rfl
    · rintro j (e | e)
      · exact .inl (.inl e)
      · rcases hat3 j e with e2 | e2
        · exact .inl (.inr e2)
        · have e3 := B1.out.size
          have e4 := T0.out.size
          have e5 : w0.drew.heap.size = w0.heap.size := rfl
          simp at e2
          exact .inr (by omega))
set_option maxHeartbeats 4000000 in
theorem psend (h : PL w b v l) (s : ByteArray) (hs : s.size ≤ 281474976710656) : Calls Try.prog 9 #[.pointer (some ⟨b, 0, none⟩), .string s] w fun e w' => e = .returned (.int .i64 (l.send s).1) ∧ ∃ v', PL w' b v' (l.send s).2 ∧ PStep w w' b v v' := by
  obtain ⟨ao, cp, rfl⟩ := h.row.slice
  obtain ⟨_, _, _, _, _, c5, _⟩ := h.c
  have hm := h.ok.most
  have HH := hide h
  by_cases e1 : 100000 < s.size
  · have hT : l.send s = (3, l) := by unfold LK.send; rw [if_pos e1]
    rw [hT]
    have g1 : (100000 : Int) < (s.size : Int) := by omega
    clear h
    go_enter Try.func9, Try.ntmps9
    go_wp2
    go_ret
    exact ⟨rfl, _, HH.out, PStep.refl w⟩
  · have g1 : ¬ (100000 : Int) < (s.size : Int) := by omega
    by_cases e2 : 32 ≤ l.wait.length
    · have hT : l.send s = (8, l) := by unfold LK.send; rw [if_neg e1, if_pos e2]
      rw [hT]
      have g2 : ((l.wait.length : Int) == 32) = true := by rw [beq_iff_eq]; omega
      clear h
      go_enter Try.func9, Try.ntmps9
      go_wp2
      go_ret
      exact ⟨rfl, _, HH.out, PStep.refl w⟩
    · have hT : l.send s = (0, { l with wait := l.wait ++ [s] }) := by unfold LK.send; rw [if_neg e1, if_neg e2]
      rw [hT]
      have g2 : ((l.wait.length : Int) == 32) = false := by rw [beq_eq_false_iff_ne]; omega
      have HW := hide (pwait h s (by omega) (by omega))
      clear h
      go_enter Try.func9, Try.ntmps9
      go_wp2_with (go_at_call 24; refine HW.out.mono ?_; rintro e w' ⟨rfl, hw⟩)
      go_ret
      exact ⟨rfl, hw⟩
end
end Go.Proofs.Ythgfijmpofbchaa
