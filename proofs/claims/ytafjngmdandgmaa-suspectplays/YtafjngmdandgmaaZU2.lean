/-
  What the program's suspect is held to.
-/
import Derived.Test.YtafjngmdandgmaaZU1
import Derived.Test.YtafjngmdandgmaaZUM
import Derived.Test.YtafjngmdandgmaaProg
namespace Go.Proofs.Ytafjngmdandgmaa
open Go.RowKit

abbrev fNew : Nat := 7
/-- The program's suspect in memory (its blocks: O), and what its calls do. -/
structure Sus where
  lies : World → Addr → (Nat → Prop) → SU → Prop
  lt : ∀ {w ad O S}, lies w ad O S → ∀ k, O k → k < w.heap.size
  keep : ∀ {w w' ad O S}, lies w ad O S → (∀ k, O k → w'.heap[k]? = w.heap[k]?) → w.heap.size ≤ w'.heap.size → lies w' ad O S
  new : ∀ (m : MB) (w : World), m.right → Calls Try.prog 7 #[m.v] w fun e w' => ∃ ad, e = .returned (.tuple #[.pointer (some ad), .int .i64 0]) ∧ (∃ O, lies w' ad O (SU.new m) ∧ ∀ k, O k → w.heap.size ≤ k) ∧ Below w.heap.size w w'
  newNo : ∀ (m : MB) (w : World), ¬ m.right → Calls Try.prog 7 #[m.v] w fun e w' => e = .returned (.tuple #[.pointer none, .int .i64 1]) ∧ Below w.heap.size w w'
  heard : ∀ {w ad O S} (m : MB), lies w ad O S → Calls Try.prog 11 #[.pointer (some ad), m.v] w fun e w' => e = .returned (.bool (S.hears m)) ∧ (∃ O', lies w' ad O' (S.heard m) ∧ ∀ k, O' k → O k ∨ w.heap.size ≤ k) ∧ Touch O w w'
  tick : ∀ {w ad O S}, lies w ad O S → S.now ≤ 1000000 → Calls Try.prog 9 #[.pointer (some ad)] w fun e w' => (∃ v, e = .returned v) ∧ (∃ O', lies w' ad O' S.tick ∧ ∀ k, O' k → O k ∨ w.heap.size ≤ k) ∧ Touch O w w'
  is : ∀ {w ad O S} (m : MB), lies w ad O S → Calls Try.prog 15 #[.pointer (some ad), m.v] w fun e w' => e = .returned (.bool (S.is m)) ∧ Below w.heap.size w w'
  alive : ∀ {w ad O S}, lies w ad O S → Calls Try.prog 13 #[.pointer (some ad)] w fun e w' => ∃ ro rc, e = .returned (.slice ro S.alive.length rc) ∧ MemsAt w' ro S.alive ∧ Below w.heap.size w w' ∧ ∀ a, ro = some a → w.heap.size ≤ a.block
/-- Deeds that came in. -/
def DeedsAt (w : World) (ao : Option Addr) (L : List (Bool × MB)) : Prop := ∀ i (hi : i < L.length), ∃ b off, ao = some ⟨b, off, none⟩ ∧ b < w.heap.size ∧ w.cell? ⟨b, off + i * 3, none⟩ = some (.bool L[i].1) ∧ w.cell? ⟨b, off + i * 3 + 1, none⟩ = some (.int .i64 L[i].2.node) ∧ w.cell? ⟨b, off + i * 3 + 2, none⟩ = some (.int .i64 L[i].2.life)
theorem DeedsAt.below {w w1 : World} {ao : Option Addr} {L : List (Bool × MB)} (h : DeedsAt w ao L) (hb : Below w.heap.size w w1) : DeedsAt w1 ao L := fun i hi => by
  obtain ⟨b, off, h1, h2, h3, h4, h5⟩ := h i hi
  exact ⟨b, off, h1, Nat.lt_of_lt_of_le h2 hb.size, (hb.cell (p := ⟨b, _, none⟩) h2).trans h3, (hb.cell (p := ⟨b, _, none⟩) h2).trans h4, (hb.cell (p := ⟨b, _, none⟩) h2).trans h5⟩
theorem Sus.below (U : Sus) {w w' : World} {ad : Addr} {O : Nat → Prop} {S : SU} (h : U.lies w ad O S) (hb : Below w.heap.size w w') : U.lies w' ad O S := U.keep h (fun k hk => hb.block k (U.lt h k hk)) hb.size
abbrev SExSays : Prop := ∀ w : World, Calls Try.prog 6 #[] w fun e w' => e = .returned (.bool true) ∧ Below w.heap.size w w'
end Go.Proofs.Ytafjngmdandgmaa
