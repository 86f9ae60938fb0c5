/-
  The net's calls in plain words: what a call answers, and what the messages are behind it.
-/
import Derived.Test.YtjmfimllaejpnaaPick
namespace Go.Proofs.Ytjmfimllaejpnaa
open Go.RowKit Go.Maps

abbrev Qs := Nat → Nat → List ByteArray
def lenQ (n : Nat) (q : Qs) (x y : Int) : Nat := if isLink n x y then (q x.toNat y.toNat).length else 0
def hasQ (n : Nat) (q : Qs) (x y i : Int) : Prop := 0 ≤ i ∧ i < lenQ n q x y
def roomQ (n : Nat) (q : Qs) (x y : Int) : Prop := isLink n x y ∧ lenQ n q x y < 64
def takesQ (n : Nat) (s : Int) (q : Qs) (x y i : Int) : Prop := hasQ n q x y i ∧ joined n s x y
def doublesQ (n : Nat) (q : Qs) (x y i : Int) : Prop := hasQ n q x y i ∧ lenQ n q x y < 64
instance (n : Nat) (q : Qs) (x y i : Int) : Decidable (hasQ n q x y i) := by unfold hasQ; infer_instance
instance (n : Nat) (q : Qs) (x y : Int) : Decidable (roomQ n q x y) := by unfold roomQ; infer_instance
instance (n : Nat) (s : Int) (q : Qs) (x y i : Int) : Decidable (takesQ n s q x y i) := by unfold takesQ; infer_instance
instance (n : Nat) (q : Qs) (x y i : Int) : Decidable (doublesQ n q x y i) := by unfold doublesQ; infer_instance
def msgQ (q : Qs) (x y i : Int) : ByteArray := (q x.toNat y.toNat).getD i.toNat ⟨#[]⟩
def lessQ (q : Qs) (x y i : Int) : Qs := setQ q x.toNat y.toNat ((q x.toNat y.toNat).eraseIdx i.toNat)
def moreQ (q : Qs) (x y : Int) (s : ByteArray) : Qs := setQ q x.toNat y.toNat (q x.toNat y.toNat ++ [s])
/-- A net at block b, its own blocks beyond B. -/
structure Net (B : Nat) (w : World) (b n : Nat) (s : Int) (q : Qs) : Prop where
  is : ∃ G, Rep w b G ∧ G.like n s q ∧ ∀ j, G.own j → B ≤ j
theorem Net.keep {B : Nat} {w w' : World} {b n : Nat} {s : Int} {q : Qs} (h : Net B w b n s q) {own : Nat → Prop} (ht : Touch own w w') (hn : ∀ j, own j → j < B) : Net B w' b n s q := by
  obtain ⟨G, h1, h2, h3⟩ := h.is
  exact ⟨G, h1.keep ht fun j hj e => by have := h3 j hj; have := hn j e; omega, h2, h3⟩
theorem Net.below {B : Nat} {w w' : World} {b n : Nat} {s : Int} {q : Qs} (h : Net B w b n s q) (hb : Below w.heap.size w w') : Net B w' b n s q := h.keep (own := fun _ => False) (Touch.of_below hb) fun _ e => e.elim
/-- A step of it: the new messages, and nothing below B is touched. -/
theorem Net.step {B : Nat} {w w' : World} {b : Nat} {G : NG} (hB : B ≤ w.heap.size) (h3 : ∀ j, G.own j → B ≤ j) {G' : NG} (hs : Step w w' b G G') {n : Nat} {s : Int} {q : Qs} (hl : G'.like n s q) : Net B w' b n s q ∧ Below B w w' :=
  ⟨⟨G', hs.rep, hl, fun j hj => by rcases hs.grew j hj with e | e; exact h3 j e; omega⟩, hs.touch.toBelow hB fun k hk e => by have := h3 k e; omega⟩
section
variable {B : Nat} {w : World} {b n : Nat} {s : Int} {q : Qs}
theorem Net.nodes (h : Net B w b n s q) : Calls Try.prog 7 #[.pointer (some ⟨b, 0, none⟩)] w fun e w' => e = .returned (.int .i64 n) ∧ w' = w := by
  obtain ⟨G, h1, ⟨rfl, rfl, rfl⟩, h3⟩ := h.is
  exact nodes_any h1
theorem Net.len (h : Net B w b n s q) {x y : Int} (hx : In64 x) (hy : In64 y) : Calls Try.prog 23 #[.pointer (some ⟨b, 0, none⟩), .int .i64 x, .int .i64 y] w fun e w' => e = .returned (.int .i64 (lenQ n q x y)) ∧ w' = w := by
  obtain ⟨G, h1, ⟨rfl, rfl, rfl⟩, h3⟩ := h.is
  exact netlen_any h1 hx hy
theorem Net.joined (h : Net B w b n s q) (x y : Int) : Calls Try.prog 21 #[.pointer (some ⟨b, 0, none⟩), .int .i64 x, .int .i64 y] w fun e w' => e = .returned (.bool (decide (joined n s x y))) ∧ w' = w := by
  obtain ⟨G, h1, ⟨rfl, rfl, rfl⟩, h3⟩ := h.is
  exact joined_any h1 x y
theorem Net.send (h : Net B w b n s q) (hB : B ≤ w.heap.size) {x y : Int} (hx : In64 x) (hy : In64 y) (t : ByteArray) (ht : t.size ≤ 281474976710656) : Calls Try.prog 9 #[.pointer (some ⟨b, 0, none⟩), .int .i64 x, .int .i64 y, .string t] w fun e w' => e = .returned (.bool (decide (roomQ n q x y))) ∧ Net B w' b n s (if roomQ n q x y then moreQ q x y t else q) ∧ Below B w w' := by
  obtain ⟨G, h1, ⟨rfl, rfl, rfl⟩, h3⟩ := h.is
  refine (send_any h1 hx hy t ht).mono ?_
  rintro e w' ⟨he, G', hs, hl⟩
  exact ⟨he, Net.step hB h3 hs hl⟩
theorem Net.drop (h : Net B w b n s q) (hB : B ≤ w.heap.size) {x y : Int} (hx : In64 x) (hy : In64 y) (i : Int) : Calls Try.prog 13 #[.pointer (some ⟨b, 0, none⟩), .int .i64 x, .int .i64 y, .int .i64 i] w fun e w' => e = .returned (.bool (decide (hasQ n q x y i))) ∧ Net B w' b n s (if hasQ n q x y i then lessQ q x y i else q) ∧ Below B w w' := by
  obtain ⟨G, h1, ⟨rfl, rfl, rfl⟩, h3⟩ := h.is
  refine (drop_any h1 hx hy).mono ?_
  rintro e w' ⟨he, G', hs, hl⟩
  exact ⟨he, Net.step hB h3 hs hl⟩
theorem Net.take (h : Net B w b n s q) (hB : B ≤ w.heap.size) {x y : Int} (hx : In64 x) (hy : In64 y) (i : Int) : Calls Try.prog 11 #[.pointer (some ⟨b, 0, none⟩), .int .i64 x, .int .i64 y, .int .i64 i] w fun e w' => e = .returned (.tuple #[.string (if takesQ n s q x y i then msgQ q x y i else ⟨#[]⟩), .bool (decide (takesQ n s q x y i))]) ∧ Net B w' b n s (if takesQ n s q x y i then lessQ q x y i else q) ∧ Below B w w' := by
  obtain ⟨G, h1, ⟨rfl, rfl, rfl⟩, h3⟩ := h.is
  refine (take_any h1 hx hy).mono ?_
  rintro e w' ⟨he, G', hs, hl⟩
  exact ⟨he, Net.step hB h3 hs hl⟩
theorem Net.double (h : Net B w b n s q) (hB : B ≤ w.heap.size) {x y : Int} (hx : In64 x) (hy : In64 y) (i : Int) : Calls Try.prog 15 #[.pointer (some ⟨b, 0, none⟩), .int .i64 x, .int .i64 y, .int .i64 i] w fun e w' => e = .returned (.bool (decide (doublesQ n q x y i))) ∧ Net B w' b n s (if doublesQ n q x y i then moreQ q x y (msgQ q x y i) else q) ∧ Below B w w' := by
  obtain ⟨G, h1, ⟨rfl, rfl, rfl⟩, h3⟩ := h.is
  refine (double_any h1 hx hy).mono ?_
  rintro e w' ⟨he, G', hs, hl⟩
  exact ⟨he, Net.step hB h3 hs hl⟩
theorem Net.cut (h : Net B w b n s q) (hB : B ≤ w.heap.size) (i : Int) (hi : In64 i) : Calls Try.prog 17 #[.pointer (some ⟨b, 0, none⟩), .int .i64 i] w fun e w' => e = .returned (.tuple #[]) ∧ Net B w' b n (max i 0) q ∧ Below B w w' := by
  obtain ⟨G, h1, ⟨rfl, rfl, rfl⟩, h3⟩ := h.is
  refine (cut_any h1 i hi).mono ?_
  rintro e w' ⟨he, G', hs, hl⟩
  exact ⟨he, Net.step hB h3 hs hl⟩
theorem Net.clear (h : Net B w b n s q) (hB : B ≤ w.heap.size) (node : Int) : Calls Try.prog 19 #[.pointer (some ⟨b, 0, none⟩), .int .i64 node] w fun e w' => e = .returned (.tuple #[]) ∧ Net B w' b n s (clearAll n q node) ∧ Below B w w' := by
  obtain ⟨G, h1, ⟨rfl, rfl, rfl⟩, h3⟩ := h.is
  refine (clear_any h1 node).mono ?_
  rintro e w' ⟨he, G', hs, hl⟩
  exact ⟨he, Net.step hB h3 hs hl⟩
end
theorem Net.new (n : Nat) (w : World) (hr : 1 ≤ n ∧ n ≤ 7) : Calls Try.prog 5 #[.int .i64 n] w fun e w' => ∃ b, e = .returned (.tuple #[.pointer (some ⟨b, 0, none⟩), .int .i64 0]) ∧ Net w.heap.size w' b n 0 (fun _ _ => []) ∧ Below w.heap.size w w' := by
  refine (new_ok n w hr).mono ?_
  rintro e w' ⟨b, G, he, h1, h2, h3, h4⟩
  exact ⟨b, he, ⟨G, h1, h2, h3⟩, h4⟩
theorem Net.nodes_le {B : Nat} {w : World} {b n : Nat} {s : Int} {q : Qs} (h : Net B w b n s q) : n ≤ 7 ∧ (∀ x y : Nat, isLink n x y → (q x y).length ≤ 64) := by
  obtain ⟨G, h1, ⟨rfl, rfl, rfl⟩, h3⟩ := h.is
  exact ⟨h1.nodes.2, h1.few⟩
theorem Net.side {B : Nat} {w : World} {b n : Nat} {s : Int} {q : Qs} (h : Net B w b n s q) : 0 ≤ s ∧ s ≤ 9223372036854775807 := by
  obtain ⟨G, h1, ⟨rfl, rfl, rfl⟩, h3⟩ := h.is
  exact h1.side

end Go.Proofs.Ytjmfimllaejpnaa
