/-
  A pair in a block of its own.
-/
import Derived.Test.YtddmnmeijnncmabN1
namespace Go.Proofs.Ytddmnmeijnncmab
open Go.RowKit

/-- The pair lies in block b. -/
structure Held (W : World) (b : Nat) (x y : Int) : Prop where
  box : W.heap[b]? = some (.cells #[.int .i64 x, .int .i64 y] 23)
section
variable {W W' : World} {b : Nat} {x y : Int}
theorem Held.lt (h : Held W b x y) : b < W.heap.size := (Array.getElem?_eq_some_iff.1 h.box).1
theorem Held.ne (h : Held W b x y) : b ≠ W.heap.size := Nat.ne_of_lt h.lt
theorem Held.c0 (h : Held W b x y) : W.cell? ⟨b, 0, none⟩ = some (.int .i64 x) := by rw [Lib.cell_of_heap h.box]; rfl
theorem Held.c1 (h : Held W b x y) : W.cell? ⟨b, 1, none⟩ = some (.int .i64 y) := by rw [Lib.cell_of_heap h.box]; rfl
theorem Held.f0 (h : Held W b x y) : W.frozen? ⟨b, 0, none⟩ = false := Lib.frozen_of_heap h.box 0
theorem Held.f1 (h : Held W b x y) : W.frozen? ⟨b, 1, none⟩ = false := Lib.frozen_of_heap h.box 1
theorem Held.new (W : World) (x y : Int) : Held (W.alloc (.cells #[.int .i64 x, .int .i64 y] 23)) W.heap.size x y := ⟨by show (W.heap.push _)[W.heap.size]? = _; simp⟩
theorem Held.at (W : World) (x y : Int) (b : Nat) (h : b = W.heap.size) : Held (W.alloc (.cells #[.int .i64 x, .int .i64 y] 23)) b x y := h ▸ Held.new W x y
theorem Held.alloc (h : Held W b x y) (o : Obj) : Held (W.alloc o) b x y := ⟨(Below.heap_alloc W o b h.lt).trans h.box⟩
theorem Held.below (h : Held W b x y) (hb : Below W.heap.size W W') : Held W' b x y := ⟨(hb.block b h.lt).trans h.box⟩
theorem Held.past {V : World} (h : Held W b x y) (hb : Below V.heap.size V W') (e : V.heap = W.heap := by rfl) : Held W' b x y := ⟨(hb.block b (by rw [e]; exact h.lt)).trans (by rw [e]; exact h.box)⟩
theorem Held.drewN (h : Held W b x y) (n : Nat) : Held (W.drewN n) b x y := ⟨by rw [World.heap_drewN]; exact h.box⟩
theorem Held.apart (h : Held W b x y) (c : Nat) (hc : b ≠ c) (v u : Value) : Held ((W.setCell ⟨c, 0, none⟩ v).setCell ⟨c, 1, none⟩ u) b x y :=
  ⟨by rw [Below.heap_setCell _ _ _ _ hc, Below.heap_setCell _ _ _ _ hc]; exact h.box⟩
end
theorem below_new {w W : World} (h : Below w.heap.size w W) (o : Obj) : Below w.heap.size w (W.alloc o) := h.alloc h.size o
theorem undrew {W W' : World} (h : Below W.drew.heap.size W.drew W') : Below W.heap.size W W' := ⟨h.os, h.tape, h.output, h.size, h.block⟩
theorem bpast {w V W W' : World} (h : Below w.heap.size w W) (k : Below V.heap.size V W') (e : V.heap = W.heap := by rfl) (e1 : V.os = W.os := by rfl) (e2 : V.tape = W.tape := by rfl) (e3 : V.output = W.output := by rfl) : Below w.heap.size w W' :=
  ⟨k.os.trans (e1.trans h.os), k.tape.trans (e2.trans h.tape), k.output.trans (e3.trans h.output), by have := h.size; have := k.size; rw [e] at this; omega, fun j hj => (k.block j (by rw [e]; exact Nat.lt_of_lt_of_le hj h.size)).trans (by rw [e]; exact h.block j hj)⟩
/-- What was there stays, one call behind the other. -/
theorem bthen {w W W' : World} (h : Below w.heap.size w W) (k : Below W.heap.size W W') : Below w.heap.size w W' := h.trans (k.mono h.size)

end Go.Proofs.Ytddmnmeijnncmab
