/-
  The program's suspect in memory; its clock; Tick (mkua.py).
-/
import Derived.Test.YtafjngmdandgmaaZU2
import Derived.Test.YtafjngmdandgmaaZPhiG
import Derived.Test.YtafjngmdandgmaaZLast
import Derived.BigQuiet
import Derived.Laws.StructEq
namespace Go.Proofs.Ytafjngmdandgmaa
open Go.RowKit

attribute [local go_sem ↓] Go.wp_at_zero Go.wp_at_succ
set_option linter.unusedSimpArgs false
set_option linter.unusedVariables false
set_option maxHeartbeats 4000000 in
theorem pmember (m : MB) (w : World) : Calls Try.prog 18 #[m.v] w fun e w' => e = .returned (.bool (decide m.right)) ∧ Below w.heap.size w w' := by
  obtain ⟨n, l⟩ := m
  simp only [MB.v]
  have B0 := hide ((Below.refl w.heap.size w).alloc (Nat.le_refl _) (.cells #[.int .i64 n, .int .i64 l] tMember))
  by_cases h : (MB.mk n l).right
  · rw [decide_eq_true h]
    obtain ⟨h1, h2, h3, h4⟩ := h
    simp only at h1 h2 h3 h4
    go_enter Try.func18, Try.ntmps18
    go_wp2
    go_ret
    exact ⟨rfl, B0.out⟩
  · rw [decide_eq_false h]
    by_cases h1 : 0 ≤ n
    · by_cases h2 : n < 7
      · by_cases h3 : 1 ≤ l
        · have h4 : ¬ l ≤ 9007199254740991 := fun e => h ⟨h1, h2, h3, e⟩
          clear h
          go_enter Try.func18, Try.ntmps18
          go_wp2
          go_ret
          exact ⟨rfl, B0.out⟩
        · clear h
          go_enter Try.func18, Try.ntmps18
          go_wp2
          go_ret
          exact ⟨rfl, B0.out⟩
      · clear h
        go_enter Try.func18, Try.ntmps18
        go_wp2
        go_ret
        exact ⟨rfl, B0.out⟩
    · clear h
      go_enter Try.func18, Try.ntmps18
      go_wp2
      go_ret
      exact ⟨rfl, B0.out⟩
abbrev tSus : TypeId := 47
abbrev tNow : TypeId := 3
/-- n values in a row, by their places. -/
def rowOf (n : Nat) (f : Nat → Value) : Array Value := ((List.range n).map f).toArray
theorem rowOf_get (f : Nat → Value) {n k : Nat} (h : k < n) : (rowOf n f)[k]? = some (f k) := by
  unfold rowOf
  rw [List.getElem?_toArray, List.getElem?_map, List.getElem?_range h]
  rfl
theorem rowOf_set (f : Nat → Value) {n k : Nat} (h : k < n) (x : Value) : (rowOf n f).setIfInBounds k x = rowOf n fun i => if i = k then x else f i := by
  apply Array.ext'
  rw [Array.toList_setIfInBounds]
  unfold rowOf
  simp only
  apply List.ext_getElem?
  intro i
  rw [List.getElem?_set]
  by_cases e : k = i
  · subst e
    rw [if_pos rfl, if_pos (by simp; omega), List.getElem?_map, List.getElem?_range h]
    simp
  · rw [if_neg e, List.getElem?_map, List.getElem?_map]
    by_cases hn : i < n
    · rw [List.getElem?_range hn]
      rw [Option.map_some, Option.map_some, if_neg fun c : i = k => e c.symm]
    · rw [List.getElem?_eq_none (by simp; omega)]
      rfl
theorem rowOf_congr {n : Nat} {f g : Nat → Value} (h : ∀ k, k < n → f k = g k) : rowOf n f = rowOf n g := by
  unfold rowOf
  congr 1
  exact List.map_congr_left fun k hk => h k (List.mem_range.1 hk)
theorem rowOf_size (n : Nat) (f : Nat → Value) : (rowOf n f).size = n := by simp [rowOf]
/-- The clock. -/
def clo (c : Nat) : Value := .func (.func 22) #[] #[.pointer (some ⟨c, 0, none⟩)]
def SU.cellAt (S : SU) (c j : Nat) : Value := if j = 0 then .int .i64 S.self.node else if j = 1 then .int .i64 S.self.life else if j = 16 then clo c else if j % 2 = 0 then .int .i64 (S.life (j / 2 - 1)) else .int .i64 ((S.now : Int) - (S.age (j / 2 - 1) : Int))
/-- The program's suspect in memory: its box, and its clock's. -/
structure PAt (w : World) (b c : Nat) (S : SU) : Prop where
  box : w.heap[b]? = some (.cells (rowOf 17 (S.cellAt c)) tSus (0, 0))
  clock : w.heap[c]? = some (.cells #[.int .i64 (S.now : Int)] tNow (0, 0))
  age : ∀ k, S.age k ≤ S.now
  now : S.now ≤ 1000001
  self : S.self.right
theorem PAt.ne {w : World} {b c : Nat} {S : SU} (h : PAt w b c S) : b ≠ c := fun e => by
  have := h.clock
  rw [← e, h.box] at this
  injection this with this
  injection this with _ this _
  exact absurd this (by decide)
/-- Its blocks. -/
def pOwn (b c k : Nat) : Prop := k = b ∨ k = c
theorem PAt.lt {w : World} {b c : Nat} {S : SU} (h : PAt w b c S) : ∀ k, pOwn b c k → k < w.heap.size := by
  rintro k (rfl | rfl)
  · exact heap_lt h.box
  · exact heap_lt h.clock
theorem PAt.keep {w w' : World} {b c : Nat} {S : SU} (h : PAt w b c S) (hk : ∀ k, pOwn b c k → w'.heap[k]? = w.heap[k]?) : PAt w' b c S :=
  ⟨(hk b (.inl rfl)).trans h.box, (hk c (.inr rfl)).trans h.clock, h.age, h.now, h.self⟩
theorem PAt.below {w w' : World} {b c : Nat} {S : SU} (h : PAt w b c S) (hb : Below w.heap.size w w') : PAt w' b c S := h.keep fun k hk => hb.block k (h.lt k hk)
theorem PAt.c0 {w : World} {b c : Nat} {S : SU} (h : PAt w b c S) : w.cell? ⟨b, 0, none⟩ = some (.int .i64 S.self.node) := box_cell h.box 0 (rowOf_get _ (by omega))
theorem PAt.c1 {w : World} {b c : Nat} {S : SU} (h : PAt w b c S) : w.cell? ⟨b, 1, none⟩ = some (.int .i64 S.self.life) := box_cell h.box 1 (rowOf_get _ (by omega))
theorem PAt.c16 {w : World} {b c : Nat} {S : SU} (h : PAt w b c S) : w.cell? ⟨b, 16, none⟩ = some (clo c) := box_cell h.box 16 (rowOf_get _ (by omega))
theorem PAt.t1 {w : World} {b c : Nat} {S : SU} (h : PAt w b c S) {n : Nat} (hn : n < 7) : w.cell? ⟨b, 2 + n * 2, none⟩ = some (.int .i64 (S.life n)) := by
  rw [box_cell h.box (2 + n * 2) (rowOf_get _ (by omega))]
  unfold SU.cellAt
  rw [if_neg (by omega), if_neg (by omega), if_neg (by omega), if_pos (by omega), show (2 + n * 2) / 2 - 1 = n by omega]
theorem PAt.t2 {w : World} {b c : Nat} {S : SU} (h : PAt w b c S) {n : Nat} (hn : n < 7) : w.cell? ⟨b, 2 + n * 2 + 1, none⟩ = some (.int .i64 ((S.now : Int) - (S.age n : Int))) := by
  rw [box_cell h.box (2 + n * 2 + 1) (rowOf_get _ (by omega))]
  unfold SU.cellAt
  rw [if_neg (by omega), if_neg (by omega), if_neg (by omega), if_neg (by omega), show (2 + n * 2 + 1) / 2 - 1 = n by omega]
theorem PAt.ct {w : World} {b c : Nat} {S : SU} (h : PAt w b c S) : w.cell? ⟨c, 0, none⟩ = some (.int .i64 (S.now : Int)) := box_cell h.clock 0 rfl
set_option maxHeartbeats 4000000 in
/-- The clock goes on. -/
theorem pclock {w : World} {c : Nat} {z k : Int} (h : w.heap[c]? = some (.cells #[.int .i64 z] tNow (0, 0))) (hw : IntKind.i64.wrap (z + k) = z + k) : Calls Try.prog 22 #[.int .i64 k, .pointer (some ⟨c, 0, none⟩)] w fun e w' => e = .returned (.int .i64 (z + k)) ∧ w' = w.setCell ⟨c, 0, none⟩ (.int .i64 (z + k)) := by
  have c0 := box_cell h 0 rfl
  have f0 := box_free h 0
  have g0 := box_cell (box_set h 0 (.int .i64 (z + k))) 0 rfl
  clear h
  go_enter Try.func22, Try.ntmps22
  go_wp2
  go_ret
  exact ⟨rfl, rfl⟩
/-- The clock is asked: nothing turns. -/
theorem pnow {w : World} {c : Nat} {z : Int} (h : w.heap[c]? = some (.cells #[.int .i64 z] tNow (0, 0))) (hw : IntKind.i64.wrap z = z) : Calls Try.prog 22 #[.int .i64 0, .pointer (some ⟨c, 0, none⟩)] w fun e w' => e = .returned (.int .i64 z) ∧ Below w.heap.size w w' := by
  refine (pclock (k := 0) h (by rw [Int.add_zero]; exact hw)).mono ?_
  rintro e w' ⟨rfl, rfl⟩
  rw [Int.add_zero]
  refine ⟨rfl, rfl, rfl, rfl, ?_, fun k hk => ?_⟩
  · exact Nat.le_of_eq (World.size_setCell _ _ _).symm
  · by_cases e : k = c
    · subst e
      rw [box_set h, h]
      rfl
    · have hn : ¬ c = k := fun x => e x.symm
      simp [World.setCell, Array.getElem?_modify, hn]
set_option maxHeartbeats 4000000 in
theorem ptick {w : World} {b c : Nat} {S : SU} (h : PAt w b c S) (hn : S.now ≤ 1000000) : Calls Try.prog 9 #[.pointer (some ⟨b, 0, none⟩)] w fun e w' => (∃ v, e = .returned v) ∧ PAt w' b c S.tick ∧ Touch (pOwn b c) w w' := by
  have fin : PAt (w.setCell ⟨c, 0, none⟩ (.int .i64 ((S.now : Int) + 1))) b c S.tick ∧ Touch (pOwn b c) w (w.setCell ⟨c, 0, none⟩ (.int .i64 ((S.now : Int) + 1))) := by
    refine ⟨⟨?_, ?_, fun k => Nat.succ_le_succ (h.age k), Nat.succ_le_succ hn, h.self⟩, (Touch.refl _ w).setCell _ _ fun _ => .inr rfl⟩
    · rw [box_apart h.box h.ne]
      congr 2
      apply rowOf_congr
      intro k _
      unfold SU.cellAt
      repeat' split
      all_goals first | rfl | (show Value.int .i64 _ = Value.int .i64 (((S.now + 1 : Nat) : Int) - ((S.age _ + 1 : Nat) : Int)); congr 1; omega)
    · have h1 := box_set h.clock 0 (.int .i64 ((S.now : Int) + 1))
      simpa [SU.tick] using h1
  have FI := hide fin
  have HC := hide (pclock (k := 1) h.clock (by rw [IntKind.wrap_i64]; omega))
  have c16 := h.c16
  unfold clo at c16
  clear h hn fin
  generalize (S.now : Int) = z at *
  go_enter Try.func9, Try.ntmps9
  go_wp2_with (go_at_call 22; refine HC.out.mono ?_; rintro e w1 ⟨rfl, rfl⟩)
  first | go_end0 | ((try simp only [Exit.inBlock, Exit.then]); refine bodyPost_ret (results_none rfl _ _ _) rfl ?_)
  exact ⟨⟨_, rfl⟩, FI.out⟩
end Go.Proofs.Ytafjngmdandgmaa
