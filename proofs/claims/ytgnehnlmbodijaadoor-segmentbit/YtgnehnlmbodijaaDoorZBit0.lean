/-
  A text's bytes in a row of the call's own; a bit of it turned (as wip/crc's BitW has it).
-/
import Derived.Test.YtgnehnlmbodijaaDoorZLaw0
import Derived.Laws.IdiomStrings
import Derived.BigRegion
import Derived.RegionTactic
namespace Go.Proofs.YtgnehnlmbodijaaDoor
open Go.RowKit

/-- A row of bytes of the call's own. -/
structure BytesAt (w0 w : World) (g : Nat) (l : List UInt8) : Prop where
  below : Below w0.heap.size w0 w
  new : w0.heap.size ≤ g
  lt : g < w.heap.size
  cells : ∀ j (h : j < l.length), w.cell? ⟨g, j, none⟩ = some (.int .u8 (l[j].toNat : Int))
  free : ∀ j, j < l.length → w.frozen? ⟨g, j, none⟩ = false

theorem bytes_conv (w : World) (s : ByteArray) : ∃ W cap, (convert 9 55 (.string s)).run Tryd.prog w = .ok (.slice (some ⟨w.heap.size, 0, none⟩) s.size cap) W ∧ BytesAt w W w.heap.size s.data.toList := by
  refine ⟨_, _, run_bytes_of_string w 9 55 5 s Tryd.underlying9 Tryd.underlying55 Tryd.underlying5, ?_, Nat.le_refl _, ?_, ?_, ?_⟩
  · exact ((Below.refl _ _).drew).alloc (Nat.le_refl _) _
  · simp
  · intro j h
    have e := World.cell?_alloc_mark w.drew (bytesRow s (grownCap w s.size 0 5)) 5 ((bytesRow s (grownCap w s.size 0 5)).size, (bytesRow s (grownCap w s.size 0 5)).size + 1) j
    have hj : j < s.data.size := by simpa using h
    rw [bytesRow_at s _ j hj] at e
    simpa using e
  · intro j h
    have e := World.frozen?_alloc_mark w.drew (bytesRow s (grownCap w s.size 0 5)) 5 (bytesRow s (grownCap w s.size 0 5)).size ((bytesRow s (grownCap w s.size 0 5)).size + 1) j
    have hj : j < s.data.size := by simpa using h
    have hb : j < (bytesRow s (grownCap w s.size 0 5)).size := by
      have := bytesRow_at s (grownCap w s.size 0 5) j hj
      exact (Array.getElem?_eq_some_iff.1 this).1
    have hd : decide ((bytesRow s (grownCap w s.size 0 5)).size ≤ j) = false := by rw [decide_eq_false_iff_not]; omega
    rw [hd, Bool.false_and] at e
    exact e

theorem BytesAt.set {w0 w : World} {g : Nat} {l : List UInt8} (h : BytesAt w0 w g l) (i : Nat) (hi : i < l.length) (c : UInt8) (y : Int) (hy : y = (c.toNat : Int)) : BytesAt w0 (w.setCell ⟨g, i, none⟩ (.int .u8 y)).drew g (l.set i c) := by
  obtain ⟨v0, hv0⟩ : ∃ v, w.cell? ⟨g, i, none⟩ = some v := ⟨_, h.cells i hi⟩
  have hsz : (w.setCell ⟨g, i, none⟩ (.int .u8 y)).drew.heap.size = w.heap.size := by
    show (w.setCell ⟨g, i, none⟩ (.int .u8 y)).heap.size = _
    exact World.size_setCell _ _ _
  refine ⟨(h.below.setCell (p := ⟨g, i, none⟩) h.new _).drew, h.new, by rw [hsz]; exact h.lt, ?_, ?_⟩
  · intro j hj
    rw [List.length_set] at hj
    show (w.setCell ⟨g, i, none⟩ (.int .u8 y)).cell? ⟨g, j, none⟩ = _
    by_cases hji : j = i
    · subst hji
      rw [World.cell?_setCell_same _ _ _ hv0, hy]
      simp
    · rw [World.cell?_setCell_other _ _ _ _ (fun e => hji (congrArg Addr.off e).symm), h.cells j hj]
      simp [Ne.symm hji]
  · intro j hj
    rw [List.length_set] at hj
    show (w.setCell ⟨g, i, none⟩ (.int .u8 y)).frozen? ⟨g, j, none⟩ = _
    rw [World.frozen?_setCell]
    exact h.free j hj
theorem BytesAt.back {w0 w : World} {g : Nat} {l : List UInt8} (h : BytesAt w0 w g l) (n cap : Nat) (hn : l.length = n) : (convert 55 9 (.slice (some ⟨g, 0, none⟩) n cap)).run Tryd.prog w = .ok (.string ⟨l.toArray⟩) w := by
  subst hn
  refine run_convert_bytes_back w 55 9 5 ⟨g, 0, none⟩ cap l Tryd.underlying55 Tryd.underlying5 Tryd.underlying9 fun j hj => ?_
  rw [addr_add, Nat.zero_add]
  exact h.cells j hj
theorem flip_set (l : List UInt8) (q i r : Nat) (hi : q / 8 = i) (hr : q % 8 = r) (h : i < l.length) : flipF l q = l.set i (UInt8.ofNat (l[i].toNat ^^^ 2 ^ r)) := by
  subst hi hr
  unfold flipF
  apply List.ext_getElem (by simp)
  intro j h1 h2
  rw [List.getElem_modify, List.getElem_set]
  by_cases hj : q / 8 = j
  · subst hj
    simp
  · simp [hj]
theorem flip_val (x : UInt8) (r : Nat) (hr : r < 8) : bits .xor .u8 (x.toNat : Int) (2 ^ r % 256) = ((UInt8.ofNat (x.toNat ^^^ 2 ^ r)).toNat : Int) := by
  have hp : 2 ^ r < 2 ^ 8 := Nat.pow_lt_pow_right (by omega) hr
  have e : ((2 : Int) ^ r % 256) = ((2 ^ r : Nat) : Int) := by
    have e1 : ((2 : Int) ^ r) = ((2 ^ r : Nat) : Int) := by rw [Int.natCast_pow]; rfl
    rw [e1]
    clear e1
    generalize (2 ^ r : Nat) = p at hp ⊢
    omega
  rw [e, flip_byte x r hr]
  exact u8_xor_nat x.toNat (2 ^ r) x.toNat_lt hp

end Go.Proofs.YtgnehnlmbodijaaDoor
