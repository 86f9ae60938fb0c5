/-
  The program's forget, meet, acknowledge, receive, as they run.
-/
import Derived.Test.YthgfijmpofbchaaZD5
namespace Go.Proofs.Ythgfijmpofbchaa
open Go.RowKit

section
variable {w : World} {b : Nat} {v : Value} {l : LK}
theorem hear_ok (h : l.ok) {E : Nat} (h1 : E ≤ 9007199254740991) : (l.hear E).2.ok := by
  unfold LK.hear
  split
  · exact h
  · split
    · exact ⟨h.epoch, h1, h.most, h.first, h.outw, h.win, h.due, Nat.zero_le _, h.ticks, h.small⟩
    · exact ⟨h.epoch, h1, Nat.zero_le _, ⟨Nat.le_refl _, by show 1 ≤ 9007199254740992; decide⟩, Nat.le_refl _, Nat.zero_le _, Nat.le_refl _, Nat.zero_le _, Nat.zero_le _, fun _ e => absurd e List.not_mem_nil⟩
set_option maxHeartbeats 4000000 in
/-- A greater epoch. -/
theorem pmeet (h : PL w b v l) (E : Nat) (hE : E ≤ 9007199254740991) (hlt : l.peer < E) : Calls Try.prog 31 #[.pointer (some ⟨b, 0, none⟩), .int .i64 E] w fun e w' => e = .returned (.bool (l.hear E).1) ∧ ∃ v', PL w' b v' (l.hear E).2 ∧ PStep w w' b v v' := by
  have HK := hide (pknows h)
  have HO := hide (hear_ok h.ok hE)
  have HB := hide h.box
  have HT : Hid (l.out = 0 → l.ticks = 0) := h.tk
  have HR := hide h.row
  have hne := hide h.ne
  obtain ⟨c0, c1, c2, c3, c4, c5, c6, c7⟩ := h.c
  have f1 := h.f 1
  have f2 := h.f 2
  have f3 := h.f 3
  have f4 := h.f 4
  have f5 := h.f 5
  have f6 := h.f 6
  by_cases e1 : l.peer = 0
  · have hh : l.hear E = (false, { l with peer := E, taken := 0 }) := by unfold LK.hear; rw [if_neg (by omega), if_pos e1]
    rw [hh] at HO ⊢
    rw [decide_eq_false (fun x => x e1)] at HK
    clear h hh e1
    go_enter Try.func31, Try.ntmps31
    go_wp2_with (go_at_call 27; refine HK.out.mono ?_; rintro e w' ⟨rfl, hw⟩; obtain rfl := hw.symm)
    go_ret
    refine ⟨rfl, v, ⟨HO.out, HT.out, ?_, ?_⟩, PStep.of ?_⟩
    · exact box_set (box_set HB.out 1 (.int .i64 E)) 2 (.int .i64 0)
    · exact (HR.out.set b 1 _ hne.out).set b 2 _ hne.out
    · repeat refine Touch.setCell ?_ _ _ (fun _ => rfl)
      exact Touch.refl _ w
  · have hh : l.hear E = (true, { l with wait := [], first := 1, out := 0, due := 0, ticks := 0, peer := E, taken := 0 }) := by unfold LK.hear; rw [if_neg (by omega), if_neg e1]
    rw [hh] at HO ⊢
    rw [decide_eq_true e1] at HK
    have HF : Hid (∀ W : World, W.heap[b]? = some (.cells (((pCells l v).setIfInBounds 1 (.int .i64 E)).setIfInBounds 2 (.int .i64 0)) 62 (0, 0)) → Calls Try.prog 37 #[.pointer (some ⟨b, 0, none⟩)] W fun e w' => e = .returned (.tuple #[]) ∧ w' = (((W.setCell ⟨b, 5, none⟩ (.slice none 0 0)).setCell ⟨b, 3, none⟩ (.int .i64 0)).setCell ⟨b, 4, none⟩ (.int .i64 0)).setCell ⟨b, 6, none⟩ (.int .i64 0)) := by
      intro W hW
      have d3 := box_cell hW 3 rfl
      have d4 := box_cell hW 4 rfl
      have d5 := box_cell hW 5 rfl
      have d6 := box_cell hW 6 rfl
      have g3 := box_free hW 3
      have g4 := box_free hW 4
      have g5 := box_free hW 5
      have g6 := box_free hW 6
      clear hW h hh HK HO HB HT HR c0 c1 c2 c3 c4 c5 c6 c7 f1 f2 f3 f4 f5 f6
      go_enter Try.func37, Try.ntmps37
      go_wp2
      go_end0
      exact ⟨rfl, rfl⟩
    clear h hh e1
    go_enter Try.func31, Try.ntmps31
    go_wp2_with (first | (go_at_call 27; refine HK.out.mono ?_; rintro e w' ⟨rfl, hw⟩; obtain rfl := hw.symm) | (go_at_call 37; refine (HF.out _ (box_set (box_set HB.out 1 (.int .i64 E)) 2 (.int .i64 0))).mono ?_; rintro e w' ⟨rfl, hw⟩; obtain rfl := hw.symm))
    go_ret
    refine ⟨rfl, .slice none 0 0, ⟨HO.out, fun _ => rfl, ?_, OwnsQ.nil _ _ _⟩, ?_, fun j hj => ?_⟩
    · exact box_set (box_set (box_set (box_set (box_set (box_set HB.out 1 (.int .i64 E)) 2 (.int .i64 0)) 5 (.slice none 0 0)) 3 (.int .i64 0)) 4 (.int .i64 0)) 6 (.int .i64 0)
    · repeat refine Touch.setCell ?_ _ _ (fun _ => .inl rfl)
      exact Touch.refl _ w
    · rcases hj with e | e
      · exact .inl (.inl e)
      · cases e
set_option maxHeartbeats 4000000 in
theorem preceive (h : PL w b v l) (q : Nat) (hq : q ≤ 9007199254740991) (s : ByteArray) (hs : s.size ≤ 100000) : Calls Try.prog 33 #[.pointer (some ⟨b, 0, none⟩), .int .i64 q, .string s] w fun e w' => ∃ ao cp, e = .returned (.slice ao (l.get q s).1.length cp) ∧ w'.ownsRow w.heap.size 9 1 (.slice ao (l.get q s).1.length cp) (l.get q s).1.length ((l.get q s).1.map .string) ∧ PL w' b v (l.get q s).2 ∧ Touch (fun j => j = b) w w' := by
  have PO := hide (h.owe true)
  have HH := hide h
  have HB := hide h.box
  obtain ⟨c0, c1, c2, c3, c4, c5, c6, c7⟩ := h.c
  have f2 := h.f 2
  have f7 := h.f 7
  have htk := h.ok.taken
  have HC := hide (fun w => clone_any s w (by omega))
  by_cases e0 : q = 0
  · have hg : l.get q s = ([], l) := by unfold LK.get; rw [if_neg (by omega), if_pos e0]
    rw [hg]
    subst e0
    clear h hg
    go_enter Try.func33, Try.ntmps33
    go_wp2
    go_ret
    exact ⟨none, 0, rfl, World.ownsRow_nil _ _ _ _, HH.out, Touch.refl _ w⟩
  · have g0 := beq_zero_false e0
    by_cases e1 : q = l.taken + 1
    · have hg : l.get q s = ([s], { l with taken := l.taken + 1, owes := true }) := by unfold LK.get; rw [if_pos e1]
      rw [hg]
      have g1 : ((q : Int) == (l.taken : Int) + 1) = true := by rw [beq_iff_eq]; omega
      have g1' : ((q : Int) != (l.taken : Int) + 1) = false := by rw [bne_eq_false_iff_eq]; omega
      have HQ : Hid ((q : Int) = ((l.taken + 1 : Nat) : Int)) := by show _ = _; omega
      have HOK : Hid (({ l with taken := l.taken + 1, owes := true } : LK).ok) := ⟨h.ok.epoch, h.ok.peer, h.ok.most, h.ok.first, h.ok.outw, h.ok.win, h.ok.due, by show l.taken + 1 ≤ 9007199254740991; omega, h.ok.ticks, h.ok.small⟩
      clear h hg e1 e0
      go_enter Try.func33, Try.ntmps33
      go_wp2_with (go_at_call 36; refine (HC.out _).mono ?_; rintro e w3 ⟨rfl, b3⟩; have B3 := hide b3; clear b3)
      go_ret
      have h1 := box_set (box_set HB.out 7 (.bool true)) 2 (.int .i64 q)
      have T1 : Touch (fun j => j = b) w ((w.setCell ⟨b, 7, none⟩ (.bool true)).setCell ⟨b, 2, none⟩ (.int .i64 q)) := by
        repeat refine Touch.setCell ?_ _ _ (fun _ => rfl)
        exact Touch.refl _ w
      have T3 := (T1.below B3.out).alloc (.cells #[.string s] 9)
      have h3 := box_alloc ((B3.out.block b (heap_lt h1)).trans h1) (.cells #[.string s] 9)
      rw [HQ.out] at h3
      refine ⟨some ⟨w3.heap.size, 0, none⟩, 1, rfl, ⟨rfl, .inr ⟨w3.heap.size, 1, #[.string s], rfl, ?_, heap_alloc_new w3 _, by decide, by decide, rfl, rfl⟩⟩, HH.out.boxed HOK.out HH.out.tk rfl rfl rfl T3 h3, T3⟩
      have e1 := (T1.below B3.out).size
      exact e1
    · have hg : l.get q s = ([], { l with owes := true }) := by unfold LK.get; rw [if_neg e1, if_neg e0]
      rw [hg]
      have g1 : ((q : Int) == (l.taken : Int) + 1) = false := by rw [beq_eq_false_iff_ne]; omega
      have g1' : ((q : Int) != (l.taken : Int) + 1) = true := by rw [bne_iff_ne]; omega
      clear h hg e1 e0
      go_enter Try.func33, Try.ntmps33
      go_wp2
      go_ret
      exact ⟨none, 0, rfl, World.ownsRow_nil _ _ _ _, PO.out, (Touch.refl _ w).setCell _ _ fun _ => rfl⟩
end
end Go.Proofs.Ythgfijmpofbchaa
