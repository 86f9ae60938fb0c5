/-
  carillonref09's New and Send, as they run.
-/
import Derived.Test.YthgfijmpofbchaaZX1
import Derived.Test.YthgfijmpofbchaaZX2
import Derived.Test.YthgfijmpofbchaaZD1
import Derived.Deep.RegionWith
import Derived.Deep.DrawnRows
namespace Go.Proofs.Ythgfijmpofbchaa
open Go.RowKit

/-- What a call of it leaves: its own blocks and new ones alone are touched. -/
structure XStep (w w' : World) (b : Nat) (v v' : Value) : Prop where
  touch : Touch (xown b v) w w'
  grew : ∀ j, xown b v' j → xown b v j ∨ w.heap.size ≤ j
section
variable {w : World} {b : Nat} {v : Value} {l : LK}
theorem XStep.of {w w' : World} (h : Touch (fun j => j = b) w w') : XStep w w' b v v := ⟨h.mono fun _ _ e => .inl e, fun _ h => .inl h⟩
set_option maxHeartbeats 4000000 in
theorem xsend (h : XL w b v l) (s : ByteArray) (hs : s.size ≤ 281474976710656) : Calls Try.prog 10 #[.pointer (some ⟨b, 0, none⟩), .string s] w fun e w' => e = .returned (.int .i64 (l.send s).1) ∧ ∃ v', XL w' b v' (l.send s).2 ∧ XStep w w' b v v' := by
  have HO := hide (h.ok.send s)
  obtain ⟨ao, cp, rfl⟩ := h.row.slice
  obtain ⟨_, _, c2, _⟩ := h.c
  have hm := h.ok.most
  have HH := hide h
  by_cases e1 : 100000 < s.size
  · have hT : l.send s = (3, l) := by unfold LK.send; rw [if_pos e1]
    rw [hT]
    have g1 : (100000 : Int) < (s.size : Int) := by omega
    clear h
    go_enter Try.func10, Try.ntmps10
    go_wp2
    go_ret
    exact ⟨rfl, _, HH.out, XStep.of (Touch.refl _ w)⟩
  · have g1 : ¬ (100000 : Int) < (s.size : Int) := by omega
    by_cases e2 : 32 ≤ l.wait.length
    · have hT : l.send s = (8, l) := by unfold LK.send; rw [if_neg e1, if_pos e2]
      rw [hT]
      have g2 : (32 : Int) ≤ (l.wait.length : Int) := by omega
      clear h
      go_enter Try.func10, Try.ntmps10
      go_wp2
      go_ret
      exact ⟨rfl, _, HH.out, XStep.of (Touch.refl _ w)⟩
    · have hT : l.send s = (0, { l with wait := l.wait ++ [s] }) := by unfold LK.send; rw [if_neg e1, if_neg e2]
      rw [hT] at HO ⊢
      have g2 : ¬ (32 : Int) ≤ (l.wait.length : Int) := by omega
      have f2 := h.f 2
      have hne := h.ne
      have OR0 := h.row
      have OR := hide OR0
      have HB := hide h.box
      generalize hn : l.wait.length = n at *
      have HG : Hid (∀ (o : Obj) (W w5 : World), W.grownBy w5 (Value.slice ao n cp).ownBlock → W.heap = (w.alloc o).heap → w5.cell? ⟨b, 2, none⟩ = some (.slice ao n cp) ∧ w5.frozen? ⟨b, 2, none⟩ = false) := by
        intro o W w5 hg hW
        have hb5 := grown_at hg (by rw [hW]; exact box_alloc HB.out o) hne
        refine ⟨box_cell hb5 2 rfl, box_free hb5 2⟩
      have q2 : ∀ o : Obj, (w.alloc o).cell? ⟨b, 2, none⟩ = some (.slice ao n cp) := fun o => by
        exact box_cell (box_alloc HB.out o) 2 rfl
      have HFIN : Hid (∀ (W w5 : World) (a5 : Option Addr) (c5 : Nat), Touch (fun _ => False) w W → W.grownBy w5 (Value.slice ao n cp).ownBlock → OwnsQ w5 9 1 (.slice a5 (n + 1) c5) (n + 1) (l.wait.map .string ++ [.string s]) → (∀ j, (Value.slice a5 (n + 1) c5).ownBlock = some j → (Value.slice ao n cp).ownBlock = some j ∨ w.heap.size ≤ j) →
          ∃ v', XL (w5.setCell ⟨b, 2, none⟩ (.slice a5 (n + 1) c5)) b v' { l with wait := l.wait ++ [s] } ∧ XStep w (w5.setCell ⟨b, 2, none⟩ (.slice a5 (n + 1) c5)) b (.slice ao n cp) v') := by
        intro W w5 a5 c5 hT hg ho hloc
        have hbW := hT.at HB.out (fun e => e)
        have hb5 := grown_at hg hbW hne
        have hT5 : Touch (xown b (.slice ao n cp)) w w5 := (hT.mono fun _ _ e => e.elim).grown hg fun j e _ => .inr e
        have hne5 : (Value.slice a5 (n + 1) c5).ownBlock ≠ some b := fun e => absurd (ho.type e hb5) (by decide)
        refine ⟨.slice a5 (n + 1) c5, ⟨HO.out, ?_, ?_⟩, hT5.setCell _ _ fun _ => .inl rfl, fun j hj => ?_⟩
        · have h1 := box_set hb5 2 (.slice a5 (n + 1) c5)
          simpa [xCells] using h1
        · have h1 := ho.set b 2 (.slice a5 (n + 1) c5) hne5
          have e3 : (l.wait ++ [s]).length = n + 1 := by rw [List.length_append, List.length_singleton, hn]
          show OwnsQ _ _ 1 _ (l.wait ++ [s]).length ((l.wait ++ [s]).map .string)
          rw [e3, List.map_append]
          exact h1
        · rcases hj with e | e
          · exact .inl (.inl e)
          · rcases hloc j e with e2 | e2
            · exact .inl (.inr e2)
            · exact .inr e2
      have i9 := infoStr
      obtain ⟨i0, hi0, hz0, hz1, hz2⟩ := info_parts i9
      clear i9 h OR0 HH
      go_enter Try.func10, Try.ntmps10
      go_wp2_with (at_builtin; refine wpList_append_q _ rfl _ _ 40 rfl 9 i0 _ 1 16 Try.underlying40 hi0 hz0 hz1 hz2 rfl (by omega) (.slice ao n cp) n (l.wait.map .string) (by rfl) (OR.out.alloc _) ⟨w.heap.size, 0, none⟩ 1 1 [.string s] (by rfl) (by rfl) (World.news_of_block (cs := #[.string s]) (t := 9) (fr := (0, 0)) (heap_alloc_new w _)) (by simp [Value.oneCell']) (by unfold maxLen; omega) (by omega) ?_)
      intro a5 c5 w5 hown5 hgrow5 hloc5
      obtain ⟨y1, y2⟩ := HG.out _ _ _ hgrow5 rfl
      go_wp2
      go_ret
      exact ⟨rfl, HFIN.out _ _ _ _ ((Touch.refl _ w).alloc _) hgrow5 hown5 (fun j hj => (hloc5 j hj).imp id (fun e => by omega))⟩
set_option maxHeartbeats 1000000 in
theorem xnew (n : Nat) (h1 : 1 ≤ n) (h2 : n ≤ 9007199254740991) (w : World) : Calls Try.prog 7 #[.int .i64 n] w fun e w' => e = .returned (.pointer (some ⟨w.heap.size, 0, none⟩)) ∧ XL w' w.heap.size (.slice none 0 0) (LK.new n) ∧ Below w.heap.size w w' := by
  have HO := hide (LK.ok_new h1 h2)
  have g1 : ¬ (n : Int) < 1 := by omega
  have g2 : ¬ (9007199254740991 : Int) < (n : Int) := by omega
  go_enter Try.func7, Try.ntmps7
  go_wp2
  go_ret
  refine ⟨rfl, ⟨HO.out, ?_, OwnsQ.nil _ _ _⟩, (Below.refl _ _).alloc (Nat.le_refl _) _⟩
  exact heap_alloc_new w _
set_option maxHeartbeats 1000000 in
theorem xnew_none (n : Int) (h : n < 1 ∨ 9007199254740991 < n) (w : World) : Calls Try.prog 7 #[.int .i64 n] w fun e w' => e = .returned (.pointer none) ∧ w' = w := by
  by_cases g1 : n < 1
  · clear h
    go_enter Try.func7, Try.ntmps7
    go_wp2
    go_ret
    exact ⟨rfl, rfl⟩
  · have g2 : 9007199254740991 < n := h.resolve_left g1
    clear h
    go_enter Try.func7, Try.ntmps7
    go_wp2
    go_ret
    exact ⟨rfl, rfl⟩
end
end Go.Proofs.Ythgfijmpofbchaa
