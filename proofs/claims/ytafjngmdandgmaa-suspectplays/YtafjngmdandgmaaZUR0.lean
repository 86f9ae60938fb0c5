/-
  carillonref13's suspect in memory; carillonref12's RightMember; Tick (mkur.py).
-/
import Derived.Test.YtafjngmdandgmaaZU2
import Derived.Test.YtafjngmdandgmaaZPhiG
import Derived.Test.YtafjngmdandgmaaZLast
import Derived.BigQuiet
namespace Go.Proofs.Ytafjngmdandgmaa
open Go.RowKit

attribute [local go_sem ↓] Go.wp_at_zero Go.wp_at_succ
set_option linter.unusedSimpArgs false
set_option linter.unusedVariables false
set_option maxHeartbeats 4000000 in
theorem rmember (m : MB) (w : World) : Calls Try.prog 20 #[m.v] w fun e w' => e = .returned (.bool (decide m.right)) ∧ Below w.heap.size w w' := by
  obtain ⟨n, l⟩ := m
  simp only [MB.v]
  have B0 := hide ((Below.refl w.heap.size w).alloc (Nat.le_refl _) (.cells #[.int .i64 n, .int .i64 l] tMember))
  by_cases h : (MB.mk n l).right
  · rw [decide_eq_true h]
    obtain ⟨h1, h2, h3, h4⟩ := h
    simp only at h1 h2 h3 h4
    go_enter Try.func20, Try.ntmps20
    go_wp2
    go_ret
    exact ⟨rfl, B0.out⟩
  · rw [decide_eq_false h]
    by_cases h1 : 0 ≤ n
    · by_cases h2 : n < 7
      · by_cases h3 : 1 ≤ l
        · have h4 : ¬ l ≤ 9007199254740991 := fun e => h ⟨h1, h2, h3, e⟩
          clear h
          go_enter Try.func20, Try.ntmps20
          go_wp2
          go_ret
          exact ⟨rfl, B0.out⟩
        · clear h
          go_enter Try.func20, Try.ntmps20
          go_wp2
          go_ret
          exact ⟨rfl, B0.out⟩
      · clear h
        go_enter Try.func20, Try.ntmps20
        go_wp2
        go_ret
        exact ⟨rfl, B0.out⟩
    · clear h
      go_enter Try.func20, Try.ntmps20
      go_wp2
      go_ret
      exact ⟨rfl, B0.out⟩
abbrev tRef : TypeId := 49
abbrev tInt : TypeId := 3
/-- Seven numbers in a row. -/
def tab (f : Nat → Int) : Array Value := ((List.range 7).map fun k => Value.int .i64 (f k)).toArray
theorem tab_get (f : Nat → Int) {k : Nat} (h : k < 7) : (tab f)[k]? = some (.int .i64 (f k)) := by
  unfold tab
  rw [List.getElem?_toArray, List.getElem?_map, List.getElem?_range h]
  rfl
theorem tab_set (f : Nat → Int) {k : Nat} (h : k < 7) (x : Int) : (tab f).setIfInBounds k (.int .i64 x) = tab fun n => if n = k then x else f n := by
  apply Array.ext'
  rw [Array.toList_setIfInBounds]
  unfold tab
  simp only
  apply List.ext_getElem?
  intro n
  rw [List.getElem?_set]
  by_cases e : k = n
  · subst e
    rw [if_pos rfl, if_pos (by simp; omega), List.getElem?_map, List.getElem?_range h]
    simp
  · rw [if_neg e, List.getElem?_map, List.getElem?_map]
    by_cases hn : n < 7
    · rw [List.getElem?_range hn]
      rw [Option.map_some, Option.map_some, if_neg fun c : n = k => e c.symm]
    · rw [List.getElem?_eq_none (by simp; omega)]
      rfl
theorem tab_congr {f g : Nat → Int} (h : ∀ k, f k = g k) : tab f = tab g := by
  rw [show f = g from funext h]
def rBox (S : SU) (b1 b2 : Nat) : Array Value := #[.int .i64 S.self.node, .int .i64 S.self.life, .slice (some ⟨b1, 0, none⟩) 7 7, .slice (some ⟨b2, 0, none⟩) 7 7, .int .i64 (S.now : Int)]
/-- carillonref13's suspect in memory. -/
structure RAt (w : World) (b b1 b2 : Nat) (S : SU) : Prop where
  box : w.heap[b]? = some (.cells (rBox S b1 b2) tRef (0, 0))
  lives : w.heap[b1]? = some (.cells (tab S.life) tInt (0, 0))
  ats : w.heap[b2]? = some (.cells (tab fun k => (S.now : Int) - (S.age k : Int)) tInt (0, 0))
  ne : b1 ≠ b2
  age : ∀ k, S.age k ≤ S.now
theorem RAt.ne1 {w : World} {b b1 b2 : Nat} {S : SU} (h : RAt w b b1 b2 S) : b ≠ b1 := fun e => by
  have := h.lives
  rw [← e, h.box] at this
  injection this with this
  injection this with _ this _
  exact absurd this (by decide)
theorem RAt.ne2 {w : World} {b b1 b2 : Nat} {S : SU} (h : RAt w b b1 b2 S) : b ≠ b2 := fun e => by
  have := h.ats
  rw [← e, h.box] at this
  injection this with this
  injection this with _ this _
  exact absurd this (by decide)
/-- Its blocks. -/
def rOwn (b b1 b2 k : Nat) : Prop := k = b ∨ k = b1 ∨ k = b2
theorem RAt.lt {w : World} {b b1 b2 : Nat} {S : SU} (h : RAt w b b1 b2 S) : ∀ k, rOwn b b1 b2 k → k < w.heap.size := by
  rintro k (rfl | rfl | rfl)
  · exact heap_lt h.box
  · exact heap_lt h.lives
  · exact heap_lt h.ats
theorem RAt.keep {w w' : World} {b b1 b2 : Nat} {S : SU} (h : RAt w b b1 b2 S) (hk : ∀ k, rOwn b b1 b2 k → w'.heap[k]? = w.heap[k]?) : RAt w' b b1 b2 S :=
  ⟨(hk b (.inl rfl)).trans h.box, (hk b1 (.inr (.inl rfl))).trans h.lives, (hk b2 (.inr (.inr rfl))).trans h.ats, h.ne, h.age⟩
theorem RAt.below {w w' : World} {b b1 b2 : Nat} {S : SU} (h : RAt w b b1 b2 S) (hb : Below w.heap.size w w') : RAt w' b b1 b2 S := h.keep fun k hk => hb.block k (h.lt k hk)
theorem RAt.c0 {w : World} {b b1 b2 : Nat} {S : SU} (h : RAt w b b1 b2 S) : w.cell? ⟨b, 0, none⟩ = some (.int .i64 S.self.node) := box_cell h.box 0 rfl
theorem RAt.c1 {w : World} {b b1 b2 : Nat} {S : SU} (h : RAt w b b1 b2 S) : w.cell? ⟨b, 1, none⟩ = some (.int .i64 S.self.life) := box_cell h.box 1 rfl
theorem RAt.c2 {w : World} {b b1 b2 : Nat} {S : SU} (h : RAt w b b1 b2 S) : w.cell? ⟨b, 2, none⟩ = some (.slice (some ⟨b1, 0, none⟩) 7 7) := box_cell h.box 2 rfl
theorem RAt.c3 {w : World} {b b1 b2 : Nat} {S : SU} (h : RAt w b b1 b2 S) : w.cell? ⟨b, 3, none⟩ = some (.slice (some ⟨b2, 0, none⟩) 7 7) := box_cell h.box 3 rfl
theorem RAt.c4 {w : World} {b b1 b2 : Nat} {S : SU} (h : RAt w b b1 b2 S) : w.cell? ⟨b, 4, none⟩ = some (.int .i64 (S.now : Int)) := box_cell h.box 4 rfl
theorem RAt.t1 {w : World} {b b1 b2 : Nat} {S : SU} (h : RAt w b b1 b2 S) {n : Nat} (hn : n < 7) : w.cell? ⟨b1, n, none⟩ = some (.int .i64 (S.life n)) := box_cell h.lives n (tab_get _ hn)
theorem RAt.t2 {w : World} {b b1 b2 : Nat} {S : SU} (h : RAt w b b1 b2 S) {n : Nat} (hn : n < 7) : w.cell? ⟨b2, n, none⟩ = some (.int .i64 ((S.now : Int) - (S.age n : Int))) := box_cell h.ats n (tab_get _ hn)
set_option maxHeartbeats 4000000 in
theorem rtick {w : World} {b b1 b2 : Nat} {S : SU} (h : RAt w b b1 b2 S) (hn : S.now ≤ 1000000) : Calls Try.prog 10 #[.pointer (some ⟨b, 0, none⟩)] w fun e w' => (∃ v, e = .returned v) ∧ RAt w' b b1 b2 S.tick ∧ Touch (rOwn b b1 b2) w w' := by
  have H := hide h
  have c4 := h.c4
  have f4 := box_free h.box 4
  have fin : RAt (w.setCell ⟨b, 4, none⟩ (.int .i64 ((S.now : Int) + 1))) b b1 b2 S.tick ∧ Touch (rOwn b b1 b2) w (w.setCell ⟨b, 4, none⟩ (.int .i64 ((S.now : Int) + 1))) := by
    refine ⟨⟨?_, box_apart h.lives h.ne1.symm _ _, ?_, h.ne, fun k => Nat.succ_le_succ (h.age k)⟩, (Touch.refl _ w).setCell _ _ fun _ => .inl rfl⟩
    · have h1 := box_set h.box 4 (.int .i64 ((S.now : Int) + 1))
      simpa [rBox, SU.tick] using h1
    · rw [box_apart h.ats h.ne2.symm]
      congr 2
      apply tab_congr
      intro k
      show _ = ((S.now + 1 : Nat) : Int) - ((S.age k + 1 : Nat) : Int)
      omega
  have FI := hide fin
  have hw : IntKind.i64.wrap ((S.now : Int) + 1) = (S.now : Int) + 1 := by rw [IntKind.wrap_i64]; omega
  clear h hn fin
  generalize (S.now : Int) = z at *
  go_enter Try.func10, Try.ntmps10
  go_wp2
  first | go_end0 | ((try simp only [Exit.inBlock, Exit.then]); refine bodyPost_ret (results_none rfl _ _ _) rfl ?_)
  exact ⟨⟨_, rfl⟩, FI.out⟩
end Go.Proofs.Ytafjngmdandgmaa
