/-
  The net's calls in plain words, beside blocks that are not its own.
-/
import Derived.Test.YtjmfimllaejpnaaKit
namespace Go.Proofs.Ytjmfimllaejpnaa
open Go.RowKit Go.Maps

/-- A net at block b; the blocks F are not its own. -/
structure Nt (F : Nat → Prop) (w : World) (b n : Nat) (s : Int) (q : Qs) : Prop where
  is : ∃ G, Rep w b G ∧ G.like n s q ∧ ∀ j, G.own j → ¬ F j
theorem Nt.step {F : Nat → Prop} {w w' : World} {b : Nat} {G : NG} (hF : ∀ j, F j → j < w.heap.size) (h3 : ∀ j, G.own j → ¬ F j) {G' : NG} (hs : Step w w' b G G') {n : Nat} {s : Int} {q : Qs} (hl : G'.like n s q) : Nt F w' b n s q ∧ Touch (fun j => ¬ F j) w w' :=
  ⟨⟨G', hs.rep, hl, fun j hj hf => by
    rcases hs.grew j hj with e | e
    · exact h3 j e hf
    · have := hF j hf; omega⟩, hs.touch.mono fun k _ e => h3 k e⟩
theorem Nt.move {F F' own : Nat → Prop} {w w' : World} {b n : Nat} {s : Int} {q : Qs} (h : Nt F w b n s q) (ht : Touch own w w') (h1 : ∀ j, j < w.heap.size → own j → F j) (h2 : ∀ j, F' j → F j ∨ w.heap.size ≤ j) : Nt F' w' b n s q := by
  obtain ⟨G, g1, g2, g3⟩ := h.is
  refine ⟨G, g1.keep (own := fun j => j < w.heap.size ∧ own j) ⟨ht.os, ht.tape, ht.output, ht.size, fun k hk hn => ht.block k hk fun e => hn ⟨hk, e⟩⟩ (fun j hj e => g3 j hj (h1 j e.1 e.2)), g2, fun j hj hf => ?_⟩
  rcases h2 j hf with e | e
  · exact g3 j hj e
  · have := g1.role0 j hj; omega
theorem Net.nt {B : Nat} {w : World} {b n : Nat} {s : Int} {q : Qs} (h : Net B w b n s q) : Nt (fun j => j < B) w b n s q := by
  obtain ⟨G, g1, g2, g3⟩ := h.is
  exact ⟨G, g1, g2, fun j hj hf => by have := g3 j hj; omega⟩
section
variable {F : Nat → Prop} {w : World} {b n : Nat} {s : Int} {q : Qs}
theorem Nt.nodes (h : Nt F w b n s q) : Calls Try.prog 7 #[.pointer (some ⟨b, 0, none⟩)] w fun e w' => e = .returned (.int .i64 n) ∧ w' = w := by
  obtain ⟨G, h1, ⟨rfl, rfl, rfl⟩, h3⟩ := h.is
  exact nodes_any h1
theorem Nt.len (h : Nt F w b n s q) {x y : Int} (hx : In64 x) (hy : In64 y) : Calls Try.prog 23 #[.pointer (some ⟨b, 0, none⟩), .int .i64 x, .int .i64 y] w fun e w' => e = .returned (.int .i64 (lenQ n q x y)) ∧ w' = w := by
  obtain ⟨G, h1, ⟨rfl, rfl, rfl⟩, h3⟩ := h.is
  exact netlen_any h1 hx hy
theorem Nt.joined (h : Nt F w b n s q) (x y : Int) : Calls Try.prog 21 #[.pointer (some ⟨b, 0, none⟩), .int .i64 x, .int .i64 y] w fun e w' => e = .returned (.bool (decide (Go.Proofs.Ytjmfimllaejpnaa.joined n s x y))) ∧ w' = w := by
  obtain ⟨G, h1, ⟨rfl, rfl, rfl⟩, h3⟩ := h.is
  exact joined_any h1 x y
theorem Nt.send (h : Nt F w b n s q) (hF : ∀ j, F j → j < w.heap.size) {x y : Int} (hx : In64 x) (hy : In64 y) (t : ByteArray) (ht : t.size ≤ 281474976710656) : Calls Try.prog 9 #[.pointer (some ⟨b, 0, none⟩), .int .i64 x, .int .i64 y, .string t] w fun e w' => e = .returned (.bool (decide (roomQ n q x y))) ∧ Nt F w' b n s (if roomQ n q x y then moreQ q x y t else q) ∧ Touch (fun j => ¬ F j) w w' := by
  obtain ⟨G, h1, ⟨rfl, rfl, rfl⟩, h3⟩ := h.is
  refine (send_any h1 hx hy t ht).mono ?_
  rintro e w' ⟨he, G', hs, hl⟩
  exact ⟨he, Nt.step hF h3 hs hl⟩
theorem Nt.drop (h : Nt F w b n s q) (hF : ∀ j, F j → j < w.heap.size) {x y : Int} (hx : In64 x) (hy : In64 y) (i : Int) : Calls Try.prog 13 #[.pointer (some ⟨b, 0, none⟩), .int .i64 x, .int .i64 y, .int .i64 i] w fun e w' => e = .returned (.bool (decide (hasQ n q x y i))) ∧ Nt F w' b n s (if hasQ n q x y i then lessQ q x y i else q) ∧ Touch (fun j => ¬ F j) w w' := by
  obtain ⟨G, h1, ⟨rfl, rfl, rfl⟩, h3⟩ := h.is
  refine (drop_any h1 hx hy).mono ?_
  rintro e w' ⟨he, G', hs, hl⟩
  exact ⟨he, Nt.step hF h3 hs hl⟩
theorem Nt.take (h : Nt F w b n s q) (hF : ∀ j, F j → j < w.heap.size) {x y : Int} (hx : In64 x) (hy : In64 y) (i : Int) : Calls Try.prog 11 #[.pointer (some ⟨b, 0, none⟩), .int .i64 x, .int .i64 y, .int .i64 i] w fun e w' => e = .returned (.tuple #[.string (if takesQ n s q x y i then msgQ q x y i else ⟨#[]⟩), .bool (decide (takesQ n s q x y i))]) ∧ Nt F w' b n s (if takesQ n s q x y i then lessQ q x y i else q) ∧ Touch (fun j => ¬ F j) w w' := by
  obtain ⟨G, h1, ⟨rfl, rfl, rfl⟩, h3⟩ := h.is
  refine (take_any h1 hx hy).mono ?_
  rintro e w' ⟨he, G', hs, hl⟩
  exact ⟨he, Nt.step hF h3 hs hl⟩
theorem Nt.double (h : Nt F w b n s q) (hF : ∀ j, F j → j < w.heap.size) {x y : Int} (hx : In64 x) (hy : In64 y) (i : Int) : Calls Try.prog 15 #[.pointer (some ⟨b, 0, none⟩), .int .i64 x, .int .i64 y, .int .i64 i] w fun e w' => e = .returned (.bool (decide (doublesQ n q x y i))) ∧ Nt F w' b n s (if doublesQ n q x y i then moreQ q x y (msgQ q x y i) else q) ∧ Touch (fun j => ¬ F j) w w' := by
  obtain ⟨G, h1, ⟨rfl, rfl, rfl⟩, h3⟩ := h.is
  refine (double_any h1 hx hy).mono ?_
  rintro e w' ⟨he, G', hs, hl⟩
  exact ⟨he, Nt.step hF h3 hs hl⟩
theorem Nt.cut (h : Nt F w b n s q) (hF : ∀ j, F j → j < w.heap.size) (i : Int) (hi : In64 i) : Calls Try.prog 17 #[.pointer (some ⟨b, 0, none⟩), .int .i64 i] w fun e w' => e = .returned (.tuple #[]) ∧ Nt F w' b n (max i 0) q ∧ Touch (fun j => ¬ F j) w w' := by
  obtain ⟨G, h1, ⟨rfl, rfl, rfl⟩, h3⟩ := h.is
  refine (cut_any h1 i hi).mono ?_
  rintro e w' ⟨he, G', hs, hl⟩
  exact ⟨he, Nt.step hF h3 hs hl⟩
theorem Nt.clear (h : Nt F w b n s q) (hF : ∀ j, F j → j < w.heap.size) (node : Int) : Calls Try.prog 19 #[.pointer (some ⟨b, 0, none⟩), .int .i64 node] w fun e w' => e = .returned (.tuple #[]) ∧ Nt F w' b n s (clearAll n q node) ∧ Touch (fun j => ¬ F j) w w' := by
  obtain ⟨G, h1, ⟨rfl, rfl, rfl⟩, h3⟩ := h.is
  refine (clear_any h1 node).mono ?_
  rintro e w' ⟨he, G', hs, hl⟩
  exact ⟨he, Nt.step hF h3 hs hl⟩
end
theorem Nt.few {F : Nat → Prop} {w : World} {b n : Nat} {s : Int} {q : Qs} (h : Nt F w b n s q) : ∀ x y : Nat, isLink n x y → (q x y).length ≤ 64 := by
  obtain ⟨G, h1, ⟨rfl, rfl, rfl⟩, h3⟩ := h.is
  exact h1.few
theorem Nt.side {F : Nat → Prop} {w : World} {b n : Nat} {s : Int} {q : Qs} (h : Nt F w b n s q) : 0 ≤ s ∧ s ≤ 9223372036854775807 := by
  obtain ⟨G, h1, ⟨rfl, rfl, rfl⟩, h3⟩ := h.is
  exact h1.side
theorem Nt.drew {F : Nat → Prop} {w : World} {b n : Nat} {s : Int} {q : Qs} (h : Nt F w b n s q) : Nt F w.drew b n s q := h.move (own := fun _ => False) ((Touch.refl _ w).drew) (fun _ _ e => e.elim) fun _ e => .inl e
theorem link_ne {n A C : Nat} (hA : A < n) (hC : C < n) : isLink n (A : Int) (C : Int) ↔ A ≠ C := by
  unfold isLink
  constructor
  · rintro ⟨_, _, _, _, h⟩ e
    exact h (by omega)
  · intro h
    exact ⟨by omega, by omega, by omega, by omega, by omega⟩

end Go.Proofs.Ytjmfimllaejpnaa
