/-
  add and remove of a link.
-/
import Derived.Test.YtjmfimllaejpnaaL1
import Derived.Test.YtjmfimllaejpnaaS1
import Derived.Test.YtjmfimllaejpnaaCl
import Derived.Deep.RegionLaw
import Derived.Deep.RegionWith
import Derived.Shelf.Abstract
import Derived.Laws.Pointers
import Derived.Deep.DrawnRows
import Derived.Deep.DeepCutAuto
namespace Go.Proofs.Ytjmfimllaejpnaa
open Go.RowKit Go.Maps
theorem infoStr : (Try.prog.info? 9).map (fun i => (i.zero, i.size, i.bytes)) = some (some (.string ⟨#[]⟩), 1, 16) := by kernel_rfl

theorem add_any (f : Nat) (ao : Option Addr) (n cp : Nat) (xs : List Value) (s : ByteArray) (w : World) (hbox : w.heap[f]? = some (.cells #[.slice ao n cp] 56 (0, 0))) (hrow : w.ownsRow 0 9 1 (.slice ao n cp) n xs) (hn : n < 1000)
    (hs : s.size ≤ 281474976710656) (hnf : (Value.slice ao n cp).ownBlock ≠ some f) :
    Calls Try.prog 27 #[.pointer (some ⟨f, 0, none⟩), .string s] w fun e w' => e = .returned (.tuple #[]) ∧ ∃ g cap, w'.heap[f]? = some (.cells #[.slice (some ⟨g, 0, none⟩) (n + 1) cap] 56 (0, 0)) ∧ w'.ownsRow 0 9 1 (.slice (some ⟨g, 0, none⟩) (n + 1) cap) (n + 1) (xs ++ [.string s]) ∧
      ((Value.slice ao n cp).ownBlock = some g ∨ w.heap.size ≤ g) ∧ g ≠ f ∧ Touch (fun j => j = f ∨ (Value.slice ao n cp).ownBlock = some j) w w' := by
  obtain ⟨i0, hi0, hz0, hz1, hz2⟩ := info_parts infoStr
  have hlt := heap_lt hbox
  have HB := hide hbox
  have HR := hide hrow
  have HN := hide hnf
  have HK := hide (enters_of Try.func35 (by kernel_rfl) rfl)
  have HC := hide (fun w => clone_any s w hs)
  have c0 : w.cell? ⟨f, 0, none⟩ = some (.slice ao n cp) := box_cell hbox 0 rfl
  clear hbox hrow hnf
  go_enter Try.func27, Try.ntmps27
  go_region_law (first
    | (refine step_fn rfl 35 _ _ rfl HK.out [.string s] rfl (HC.out _) ?_; rintro e w1 ⟨rfl, bb⟩; refine ⟨_, rfl, ?_⟩; have B1 := hide bb; clear bb; have hb1 : f < w1.heap.size := Nat.lt_of_lt_of_le hlt B1.out.size; have R1 : Hid (w1.ownsRow 0 9 1 (.slice ao n cp) n xs) := below_row B1.out (HR.out.drew); have c1 : w1.cell? ⟨f, 0, none⟩ = some (.slice ao n cp) := (World.cell?_of_block (a := ⟨f, 0, none⟩) (B1.out.block f hlt)).trans c0; have hb2 : f ≠ w1.heap.size := Nat.ne_of_lt hb1; have y1 : ∀ o, (w1.alloc o).cell? ⟨f, 0, none⟩ = some (.slice ao n cp) := fun o => (World.cell?_of_block (a := ⟨f, 0, none⟩) (Below.heap_alloc w1 o f hb1)).trans c1; have X1 : Hid (w1.heap[f]? = some (.cells #[.slice ao n cp] 56 (0, 0))) := (B1.out.block f hlt).trans HB.out)
    | (refine step_append_lies _ (by rfl) _ _ _ (by rfl) 0 9 i0 _ 1 16 Try.underlying52 hi0 hz0 hz1 hz2 rfl (by omega) (.slice ao n cp) n xs (by rfl) (R1.out.alloc _) ⟨w1.heap.size, 0, none⟩ 1 1 [.string s] (by rfl) (by rfl) (World.news_of_block (cs := #[.string s]) (t := 9) (fr := (0, 0)) (heap_alloc_new w1 _)) (by simp [Value.oneCell']) (by omega) (by unfold maxLen; omega) (by omega) (Nat.zero_le _) (w1.heap.size + 1) (by simp) ?_; intro g cap w3 hown3 hgrow3 hat3 hlt3; have F5 : Hid (w3.heap[f]? = some (.cells #[.slice ao n cp] 56 (0, 0))) := grown_at hgrow3 (box_alloc X1.out _) HN.out; have z2 : w3.cell? ⟨f, 0, none⟩ = some (.slice ao n cp) := box_cell F5.out 0 rfl; have zf := box_free F5.out 0))
  all_goals (
  go_end0
  have hg2 : (Value.slice ao n cp).ownBlock = some g ∨ w.heap.size ≤ g := by
    rcases hat3 with h | h
    · exact .inl h
    · have := B1.out.size
      have e : w.drew.heap.size = w.heap.size := rfl
      exact .inr (by omega)
  have hgf : g ≠ f := by
    rcases hat3 with h | h
    · exact fun e => HN.out (e ▸ h)
    · omega
  refine ⟨rfl, g, cap, box_set F5.out 0 _, set_row hown3 f 0 _ (fun e => hgf (by simpa [Value.ownBlock] using e)), hg2, hgf, ?_⟩
  have B2 : Below w.heap.size w w1 := ⟨B1.out.os, B1.out.tape, B1.out.output, B1.out.size, B1.out.block⟩
  exact (((Touch.of_below (own := fun j => j = f ∨ (Value.slice ao n cp).ownBlock = some j) B2).alloc _).grown hgrow3 fun j h _ => .inr h).setCell _ _ fun _ => .inl rfl)

end Go.Proofs.Ytjmfimllaejpnaa
