/-
  remove of a link.
-/
import Derived.Test.YtjmfimllaejpnaaL2
import Derived.Test.YtjmfimllaejpnaaSh
import Derived.Lib.OwnBridge
namespace Go.Proofs.Ytjmfimllaejpnaa
open Go.RowKit Go.Maps

theorem zeroStr (w : World) : (zeroValue 9).run Try.prog w = .ok (.string ⟨#[]⟩) w := by kernel_rfl
theorem erase_list (ms : List ByteArray) (i : Nat) (hi : i < ms.length) : (ms.take i ++ ms.drop (i + 1) ++ List.replicate 1 (⟨#[]⟩ : ByteArray)).take (ms.length - 1) = ms.eraseIdx i := by
  rw [List.eraseIdx_eq_take_drop_succ, List.take_append_of_le_length (by simp; omega), List.take_of_length_le (by simp; omega)]
theorem del_any (g cap i : Nat) (ms : List ByteArray) (w : World) (hi : i < ms.length) (hrow : w.ownsRow 0 9 1 (.slice (some ⟨g, 0, none⟩) ms.length cap) ms.length (ms.map .string)) :
    Calls Try.prog 36 #[.slice (some ⟨g, 0, none⟩) ms.length cap, .int .i64 i, .int .i64 ((i : Int) + 1)] w fun e w' => e = .returned (.slice (some ⟨g, 0, none⟩) (ms.length - 1) cap) ∧ w'.ownsRow 0 9 1 (.slice (some ⟨g, 0, none⟩) (ms.length - 1) cap) (ms.length - 1) ((ms.eraseIdx i).map .string) ∧ Touch (fun j => j = g) w w' := by
  obtain ⟨i0, hi0, hz0, hz1, hz2⟩ := info_parts infoStr
  obtain ⟨g', cap', hform, _, hg, hnc, hcm, _, hH⟩ := Lib.holds_of_ownsRow (enc := Value.string) hrow (by simp)
  obtain ⟨rfl, rfl⟩ : g = g' ∧ cap = cap' := by cases hform; exact ⟨rfl, rfl⟩
  have h := AnyE.slices_Delete Try.shDel Value.string (fun _ => rfl) ⟨#[]⟩ zeroStr i0 hi0 hz1 g 0 cap i (i + 1) ms.toArray w hH (by simpa using hnc) (by simpa [maxLen] using hcm) (by omega) (by simp; omega)
  have e1 : ((i + 1 : Nat) : Int) = (i : Int) + 1 := by omega
  rw [e1] at h
  have e2 : ms.toArray.size - (i + 1 - i) = ms.length - 1 := by simp
  have e3 : ms.toArray.size = ms.length := by simp
  rw [e2, e3] at h
  refine h.mono ?_
  rintro e w' ⟨rfl, q, rfl⟩
  refine ⟨rfl, ?_, ?_⟩
  · have h2 := Lib.ownsRow_putRow (enc := Value.string) (q := q) (k := ms.length - 1) hrow (ys := ms.take i ++ ms.drop (i + 1) ++ List.replicate 1 ⟨#[]⟩) (by simp; omega) (by omega)
    rw [erase_list ms i hi] at h2
    rw [show i + 1 - i = 1 by omega]
    exact h2
  · refine ⟨rfl, rfl, rfl, by simp [Sort.ahead], fun k hk hn => ?_⟩
    simp [Sort.putRow, Sort.mapBlock, Sort.ahead, Array.getElem?_modify, show g ≠ k from fun e => hn e.symm]

theorem remove_any (f g cap i : Nat) (ms : List ByteArray) (w : World) (hi : i < ms.length) (hl : ms.length < 1000) (hbox : w.heap[f]? = some (.cells #[.slice (some ⟨g, 0, none⟩) ms.length cap] 56 (0, 0)))
    (hrow : w.ownsRow 0 9 1 (.slice (some ⟨g, 0, none⟩) ms.length cap) ms.length (ms.map .string)) (hgf : g ≠ f) :
    Calls Try.prog 30 #[.pointer (some ⟨f, 0, none⟩), .int .i64 i] w fun e w' => e = .returned (.string ms[i]) ∧ w'.heap[f]? = some (.cells #[.slice (some ⟨g, 0, none⟩) (ms.length - 1) cap] 56 (0, 0)) ∧ w'.ownsRow 0 9 1 (.slice (some ⟨g, 0, none⟩) (ms.length - 1) cap) (ms.length - 1) ((ms.eraseIdx i).map .string) ∧ Touch (fun j => j = f ∨ j = g) w w' := by
  have HB := hide hbox
  have HR := hide hrow
  have hlt := heap_lt hbox
  have c0 : w.cell? ⟨f, 0, none⟩ = some (.slice (some ⟨g, 0, none⟩) ms.length cap) := box_cell hbox 0 rfl
  have r0 : w.cell? ⟨g, i, none⟩ = some (.string ms[i]) := by
    have h1 := hrow.cells rfl i (.string ms[i]) (by rw [List.getElem?_map, List.getElem?_eq_getElem hi]; rfl)
    rw [Addr.add_lit] at h1
    simpa using h1
  have hi0 : (0 : Int) ≤ (i : Int) := by omega
  have hi1 : (i : Int) < (ms.length : Int) := by omega
  have HK := hide (enters_of Try.func36 (by kernel_rfl) rfl)
  have HD := hide (fun w h => del_any g cap i ms w hi h)
  clear hbox hrow
  obtain ⟨s, hs⟩ : ∃ s, ms[i] = s := ⟨_, rfl⟩
  rw [hs] at r0 ⊢
  clear hs
  go_enter Try.func30, Try.ntmps30
  go_wp2_with (go_at_call 36; refine (HD.out _ HR.out).mono ?_; rintro e w1 ⟨rfl, h1, h2⟩; have H1 := hide h1; have H2 := hide h2; clear h1 h2; have X1 : Hid (w1.heap[f]? = some (.cells #[.slice (some ⟨g, 0, none⟩) ms.length cap] 56 (0, 0))) := H2.out.at HB.out (fun e => hgf e.symm); have c1 : w1.cell? ⟨f, 0, none⟩ = some (.slice (some ⟨g, 0, none⟩) ms.length cap) := box_cell X1.out 0 rfl; have f1 := box_free X1.out 0)
  go_ret
  refine ⟨rfl, box_set X1.out 0 _, set_row H1.out f 0 _ (fun e => hgf (by simpa [Value.ownBlock] using e)), ?_⟩
  exact (H2.out.mono (fun k _ e => .inr e)).setCell _ _ fun _ => .inl rfl

end Go.Proofs.Ytjmfimllaejpnaa
