/-
  What a call touches of a world: blocks of one's own, and new ones; nothing of the program is in this text.
-/
import Derived.WalkKit
import Derived.OwnWalk
import Derived.Below
import Derived.Deep.AppendLies
import Derived.Lib.AppendStr
import Derived.Lib.SliceRun
import Derived.Lib.Builder
import Derived.Maps.OwnSet
namespace Go.Proofs.YtfoomgdlbkjaeaaGreat
open Go.RowKit
theorem hide {p : Prop} (h : p) : Hid p := h
structure Touch (own : Nat → Prop) (w w' : World) : Prop where
  os : w'.os = w.os
  tape : w'.tape = w.tape
  output : w'.output = w.output
  size : w.heap.size ≤ w'.heap.size
  block : ∀ k, k < w.heap.size → ¬ own k → w'.heap[k]? = w.heap[k]?
section
variable {own own' : Nat → Prop} {w w1 w2 : World}
theorem Touch.refl (own : Nat → Prop) (w : World) : Touch own w w := ⟨rfl, rfl, rfl, Nat.le_refl _, fun _ _ _ => rfl⟩
theorem Touch.of_below (h : Below w.heap.size w w1) : Touch own w w1 := ⟨h.os, h.tape, h.output, h.size, fun k hk _ => h.block k hk⟩
theorem Touch.mono (h : Touch own w w1) (hs : ∀ k, k < w.heap.size → own k → own' k) : Touch own' w w1 := ⟨h.os, h.tape, h.output, h.size, fun k hk hn => h.block k hk fun e => hn (hs k hk e)⟩
theorem Touch.andThen (h : Touch own w w1) (h2 : Touch own' w1 w2) (hs : ∀ k, k < w.heap.size → own' k → own k) : Touch own w w2 :=
  ⟨h2.os.trans h.os, h2.tape.trans h.tape, h2.output.trans h.output, Nat.le_trans h.size h2.size, fun k hk hn => (h2.block k (Nat.lt_of_lt_of_le hk h.size) fun e => hn (hs k hk e)).trans (h.block k hk hn)⟩
theorem Touch.alloc (h : Touch own w w1) (o : Obj) : Touch own w (w1.alloc o) :=
  ⟨h.os, h.tape, h.output, Nat.le_trans h.size (by simp), fun k hk hn => (Below.heap_alloc w1 o k (Nat.lt_of_lt_of_le hk h.size)).trans (h.block k hk hn)⟩
theorem Touch.drew (h : Touch own w w1) : Touch own w w1.drew := ⟨h.os, h.tape, h.output, h.size, h.block⟩
theorem Touch.setCell (h : Touch own w w1) (a : Addr) (v : Value) (ha : a.block < w.heap.size → own a.block) : Touch own w (w1.setCell a v) :=
  ⟨h.os, h.tape, h.output, by rw [World.size_setCell]; exact h.size, fun k hk hn => by
    rw [Below.heap_setCell _ _ _ _ (fun e => hn (by subst e; exact ha hk))]
    exact h.block k hk hn⟩
theorem Touch.grown (h : Touch own w w1) {row : Option Nat} (hg : w1.grownBy w2 row) (hr : ∀ k, row = some k → k < w.heap.size → own k) : Touch own w w2 :=
  ⟨hg.os.trans h.os, hg.tape.trans h.tape, hg.output.trans h.output, Nat.le_trans h.size hg.size, fun k hk hn => (hg.block k (Nat.lt_of_lt_of_le hk h.size) fun e => hn (hr k e.symm hk)).trans (h.block k hk hn)⟩
theorem Touch.below (h : Touch own w w1) (hb : Below w1.heap.size w1 w2) : Touch own w w2 := h.andThen (Touch.of_below (own := own) hb) fun _ _ e => e
theorem Touch.toBelow {B : Nat} (h : Touch own w w1) (hB : B ≤ w.heap.size) (hn : ∀ k, k < B → ¬ own k) : Below B w w1 := ⟨h.os, h.tape, h.output, h.size, fun k hk => h.block k (Nat.lt_of_lt_of_le hk hB) (hn k hk)⟩
theorem Touch.cell (h : Touch own w w1) (a : Addr) {v : Value} (hv : w.cell? a = some v) (hn : ¬ own a.block) : w1.cell? a = some v :=
  (World.cell?_of_block (h.block a.block (World.block_lt_of_cell? w a hv) hn)).trans hv
theorem Touch.at (h : Touch own w w1) {k : Nat} {o : Obj} (hv : w.heap[k]? = some o) (hn : ¬ own k) : w1.heap[k]? = some o :=
  (h.block k (Array.getElem?_eq_some_iff.1 hv).1 hn).trans hv
theorem Touch.row (h : Touch own w w1) {base : Nat} {e : TypeId} {size : Nat} {v : Value} {n : Nat} {xs : List Value} (hv : w.ownsRow base e size v n xs) (hn : ∀ k, v.ownBlock = some k → ¬ own k) : w1.ownsRow base e size v n xs := by
  refine ⟨hv.1, ?_⟩
  rcases hv.2 with h0 | ⟨g, cap, cur, rfl, hb, hg, rest⟩
  · exact .inl h0
  · exact .inr ⟨g, cap, cur, rfl, hb, h.at hg (hn g rfl), rest⟩
theorem Touch.map (h : Touch own w w1) {H : Type} {P : Program} {k : TypeId} {R : Value → Option (DataW H × List MemPlace)} {b n : Nat} {D : DataW H} (hv : w.ownsMap P k R b n D) (hn : ¬ own b) : w1.ownsMap P k R b n D := by
  obtain ⟨es, clock, hb, rest⟩ := hv
  exact ⟨es, clock, h.at hb hn, rest⟩
end
theorem heap_lt {w : World} {k : Nat} {o : Obj} (h : w.heap[k]? = some o) : k < w.heap.size := (Array.getElem?_eq_some_iff.1 h).1
theorem Below.at {w w1 : World} (h : Below w.heap.size w w1) {k : Nat} {o : Obj} (hv : w.heap[k]? = some o) : w1.heap[k]? = some o := (h.block k (heap_lt hv)).trans hv
theorem below_row {w w1 : World} (h : Below w.heap.size w w1) {base : Nat} {e : TypeId} {size : Nat} {v : Value} {n : Nat} {xs : List Value} (hv : w.ownsRow base e size v n xs) : w1.ownsRow base e size v n xs :=
  (Touch.of_below (own := fun _ => False) h).row hv fun _ _ e => e
theorem below_map {w w1 : World} (h : Below w.heap.size w w1) {H : Type} {P : Program} {k : TypeId} {R : Value → Option (DataW H × List MemPlace)} {b n : Nat} {D : DataW H} (hv : w.ownsMap P k R b n D) : w1.ownsMap P k R b n D :=
  (Touch.of_below (own := fun _ => False) h).map hv fun e => e
theorem grown_at {w w1 : World} {row : Option Nat} (hg : w.grownBy w1 row) {k : Nat} {o : Obj} (hv : w.heap[k]? = some o) (hn : row ≠ some k) : w1.heap[k]? = some o := (hg.block k (heap_lt hv) fun e => hn e.symm).trans hv
theorem row_lt {w : World} {base : Nat} {e : TypeId} {size : Nat} {v : Value} {n : Nat} {xs : List Value} (hv : w.ownsRow base e size v n xs) {k : Nat} (h : v.ownBlock = some k) : k < w.heap.size := (hv.lt k h).2
theorem set_row {w : World} {base : Nat} {e : TypeId} {size : Nat} {v : Value} {n : Nat} {xs : List Value} (hv : w.ownsRow base e size v n xs) (b o : Nat) (u : Value) (hn : v.ownBlock ≠ some b) : (w.setCell ⟨b, o, none⟩ u).ownsRow base e size v n xs :=
  ((Touch.refl (fun k => k = b) w).setCell ⟨b, o, none⟩ u (fun _ => rfl)).row hv fun k h e => hn (by rw [h, e])
theorem box_cell {w : World} {b : Nat} {cs : Array Value} {t : TypeId} (h : w.heap[b]? = some (.cells cs t (0, 0))) (o : Nat) {v : Value} (hv : cs[o]? = some v) : w.cell? ⟨b, o, none⟩ = some v := by rw [Lib.cell_of_heap h]; exact hv
theorem box_free {w : World} {b : Nat} {cs : Array Value} {t : TypeId} (h : w.heap[b]? = some (.cells cs t (0, 0))) (o : Nat) : w.frozen? ⟨b, o, none⟩ = false := Lib.frozen_of_heap h o
theorem box_set {w : World} {b : Nat} {cs : Array Value} {t : TypeId} (h : w.heap[b]? = some (.cells cs t (0, 0))) (o : Nat) (v : Value) : (w.setCell ⟨b, o, none⟩ v).heap[b]? = some (.cells (cs.setIfInBounds o v) t (0, 0)) := by
  unfold World.setCell
  simp [Array.getElem?_modify, h]
theorem box_apart {w : World} {b c : Nat} {x : Obj} (h : w.heap[b]? = some x) (hc : b ≠ c) (o : Nat) (v : Value) : (w.setCell ⟨c, o, none⟩ v).heap[b]? = some x := by rw [Below.heap_setCell _ _ _ _ hc]; exact h
theorem box_alloc {w : World} {b : Nat} {x : Obj} (h : w.heap[b]? = some x) (o : Obj) : (w.alloc o).heap[b]? = some x := (Below.heap_alloc w o b (heap_lt h)).trans h
theorem row_slice {w : World} {base : Nat} {e : TypeId} {size : Nat} {v : Value} {n : Nat} {xs : List Value} (h : w.ownsRow base e size v n xs) : ∃ ao cp, v = .slice ao n cp := by
  rcases h.2 with ⟨rfl, rfl⟩ | ⟨g, cap, cur, rfl, _⟩
  · exact ⟨none, 0, rfl⟩
  · exact ⟨_, _, rfl⟩
section
variable {P : Program} (w : World)
end
end Go.Proofs.YtfoomgdlbkjaeaaGreat
