/-
  A command in a box.
-/
import Derived.Test.YtlfodldlkchmoaaGreatZC6
import Derived.Test.YtlfodldlkchmoaaGreatZKW13
import Derived.Test.YtlfodldlkchmoaaGreatZPhiG
namespace Go.Proofs.YtlfodldlkchmoaaGreat
open Go.RowKit
set_option maxRecDepth 100000
theorem CM.Small.ok {c : CM} (h : c.Small) : c.ok := ⟨by have := h.t; omega, by have := h.m; omega, by have := h.y; omega, by have := h.v; omega⟩
theorem itemsC_ok {c : CM} (h : c.Small) : ∀ x ∈ itemsC c, x.ok := by
  obtain ⟨k1, k2, o1, o2, a1, a2, s1, s2, n1, n2, ht, hm, hy, hv⟩ := h
  intro x hx
  simp only [itemsC, List.mem_cons, List.not_mem_nil, or_false] at hx
  have z0 : (⟨#[]⟩ : ByteArray).size = 0 := rfl
  rcases hx with rfl | rfl | rfl | rfl | rfl | rfl | rfl | rfl | rfl <;> exact ⟨by simp, by simp, by simp only; omega, by simp only; omega, by simp only [z0] <;> omega⟩
theorem itemsC_at (W : World) (cm : CM) (b : Nat) (t : TypeId) (hb : W.heap[b]? = some (.cells #[.int .i64 1, .int .u64 cm.kind, .string ⟨#[]⟩, .int .i64 4, .int .u64 0, .string cm.topic, .int .i64 4, .int .u64 0, .string cm.name, .int .i64 3, .int .u64 cm.seq, .string ⟨#[]⟩, .int .i64 4, .int .u64 0, .string cm.key, .int .i64 4, .int .u64 0, .string cm.val, .int .i64 3, .int .u64 (cm.n + 1), .string ⟨#[]⟩, .int .i64 1, .int .u64 cm.node, .string ⟨#[]⟩, .int .i64 3, .int .u64 cm.ask, .string ⟨#[]⟩] t (0, 0))) : K.ItemsAt W (some ⟨b, 0, none⟩) (itemsC cm) := by
  intro i hi
  have hi5 : i < 9 := hi
  have hs := (Array.getElem?_eq_some_iff.1 hb).1
  refine ⟨b, 0, rfl, hs, ?_⟩
  have hc : ∀ k, W.cell? ⟨b, k, none⟩ = (#[.int .i64 1, .int .u64 cm.kind, .string ⟨#[]⟩, .int .i64 4, .int .u64 0, .string cm.topic, .int .i64 4, .int .u64 0, .string cm.name, .int .i64 3, .int .u64 cm.seq, .string ⟨#[]⟩, .int .i64 4, .int .u64 0, .string cm.key, .int .i64 4, .int .u64 0, .string cm.val, .int .i64 3, .int .u64 (cm.n + 1), .string ⟨#[]⟩, .int .i64 1, .int .u64 cm.node, .string ⟨#[]⟩, .int .i64 3, .int .u64 cm.ask, .string ⟨#[]⟩])[k]? := fun k => by rw [Lib.cell_of_heap hb]
  rw [hc, hc, hc]
  have h5 : i = 0 ∨ i = 1 ∨ i = 2 ∨ i = 3 ∨ i = 4 ∨ i = 5 ∨ i = 6 ∨ i = 7 ∨ i = 8 := by omega
  rcases h5 with rfl | rfl | rfl | rfl | rfl | rfl | rfl | rfl | rfl <;> exact ⟨rfl, rfl, rfl⟩
end Go.Proofs.YtlfodldlkchmoaaGreat
namespace Go.Proofs.YtlfodldlkchmoaaGreat
open Go.RowKit
set_option maxRecDepth 100000
structure CB (w w' : World) (b : Nat) (c : CM) : Prop where
  below : Below w.heap.size w w'
  box : w'.heap[b]? = some (.cells c.cells 31 (0, 0))
theorem CB.to {w w1 w2 : World} {b : Nat} {c : CM} (h : CB w w1 b c) (hb : Below w1.heap.size w1 w2) : CB w w2 b c := ⟨h.below.trans (hb.mono h.below.size), (hb.block _ (heap_lt h.box)).trans h.box⟩
theorem CB.new (w : World) (c : CM) : CB w (w.alloc (.cells c.cells 31)) w.heap.size c := ⟨(Below.refl _ w).alloc (Nat.le_refl _) _, heap_alloc_new w _⟩
theorem CB.cells {w w' : World} {b : Nat} {c : CM} (h : CB w w' b c) : w'.cell? ⟨b, 0, none⟩ = some (.int .i64 c.kind) ∧ w'.cell? ⟨b, 1, none⟩ = some (.string c.topic) ∧ w'.cell? ⟨b, 2, none⟩ = some (.string c.name) ∧ w'.cell? ⟨b, 3, none⟩ = some (.int .i64 c.seq) ∧ w'.cell? ⟨b, 4, none⟩ = some (.string c.key) ∧ w'.cell? ⟨b, 5, none⟩ = some (.string c.val) ∧ w'.cell? ⟨b, 6, none⟩ = some (.int .i64 c.n) ∧ w'.cell? ⟨b, 7, none⟩ = some (.int .i64 c.node) ∧ w'.cell? ⟨b, 8, none⟩ = some (.int .i64 c.ask) :=
  ⟨box_cell h.box 0 rfl, box_cell h.box 1 rfl, box_cell h.box 2 rfl, box_cell h.box 3 rfl, box_cell h.box 4 rfl, box_cell h.box 5 rfl, box_cell h.box 6 rfl, box_cell h.box 7 rfl, box_cell h.box 8 rfl⟩
end Go.Proofs.YtlfodldlkchmoaaGreat
