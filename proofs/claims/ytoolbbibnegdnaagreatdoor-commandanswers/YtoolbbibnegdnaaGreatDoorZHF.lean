import Derived.Test.YtoolbbibnegdnaaGreatDoorZGF
import Derived.ProofKit
import Derived.OpenShut
import Derived.ShutString
import Derived.ChangeOld
import Derived.SizedLaws
import Derived.Deep.Slices
import Derived.Deep.Strs
import Derived.Test.YtoolbbibnegdnaaGreatDoorZGA
namespace Go.Proofs.YtoolbbibnegdnaaGreatDoor.K
open Go.ChangeShapes Go.WideShapes Go.ChangeAt Go.RowKit Go.Deep

theorem Tryz.cellsItem : Tryz.prog.cellsOf 61 = 3 := by kernel_rfl
theorem Tryz.cellsInt : Tryz.prog.cellsOf 3 = 1 := by kernel_rfl
theorem Tryz.cellsU64 : Tryz.prog.cellsOf 59 = 1 := by kernel_rfl
theorem Tryz.cellsString : Tryz.prog.cellsOf 9 = 1 := by kernel_rfl
theorem Tryz.bytesItem : Tryz.prog.bytesOf 61 = 32 := by kernel_rfl

theorem three_of (cs : List Value) (h : cs.length = 3) : ∃ a b c, cs = [a, b, c] := by
  match cs, h with
  | [a, b, c], _ => exact ⟨a, b, c, rfl⟩

theorem addr_add (b off n : Nat) : (⟨b, off, none⟩ : Addr).add n = ⟨b, off + n, none⟩ := by
  unfold Addr.add
  split
  · rename_i h; subst h; rfl
  · rfl

/-- One item, read. -/
theorem item_open {H : Type} {enc : TypeId × Value → H} {W : World} {fuel : Nat} {cs : List Value} {x : DataW H × List MemPlace} (h : DataW.trod enc Tryz.prog W 0 (fun _ => true) true fuel 61 cs = some x) :
    ∃ y : It, y.ok ∧ cs = y.cells := by
  obtain ⟨y0, y1, y2, n, _, hl, h0, h1, h2⟩ := trod_struct3 Tryz.underlying61 h
  rw [Tryz.cellsItem] at hl
  obtain ⟨a, b, c, rfl⟩ := three_of cs hl
  simp only [Tryz.cellsInt, Tryz.cellsU64, Tryz.cellsString] at h0 h1 h2
  obtain ⟨k, e0, _, w0⟩ := DataW.trod_int Tryz.underlying3 h0
  obtain ⟨m, e1, _, w1⟩ := DataW.trod_int Tryz.underlying59 h1
  obtain ⟨s, e2, _, w2⟩ := DataW.trod_string Tryz.underlying9 h2
  simp at e0 e1 e2
  subst e0 e1 e2
  have b0 := bounds_i64 w0
  have b1 := bounds_u64 w1
  unfold maxLen at w2
  exact ⟨⟨k, m, s⟩, ⟨by simp; omega, by simp; omega, by simp; omega, by simp; omega, by simp; omega⟩, rfl⟩

theorem items_open {H : Type} {enc : TypeId × Value → H} {W : World} {a0 : Option Addr} {len cap : Nat} {d : DataW H} {p : List MemPlace} (h : DataW.Trod enc Tryz.prog W 0 (fun _ => true) true 50 (.slice a0 len cap) d p) :
    ∃ l : List It, l.length = len ∧ ItemsAt W a0 l ∧ (∀ x ∈ l, x.ok) ∧ ((d = .nil ∧ len = 0) ∨ ∃ el sp, d = .slice el sp ∧ el.length = len) := by
  obtain ⟨fuel, hf⟩ := h
  rcases open_slice Tryz.underlying50 hf with ⟨hcs, hx⟩ | ⟨a, l', c', m, n, D, Pl, hcs, _, hl, hm, hmm, hx, hel⟩
  · simp [Value.cells] at hcs
    obtain ⟨rfl, rfl, rfl⟩ := hcs
    refine ⟨[], rfl, fun i hi => by simp at hi, by simp, Or.inl ⟨?_, rfl⟩⟩
    exact congrArg Prod.fst hx
  · simp [Value.cells] at hcs
    obtain ⟨rfl, rfl, rfl⟩ := hcs
    simp only [if_true] at hmm
    subst hmm
    rw [Tryz.cellsItem] at hel
    have hch : ∀ i, i < len → ∃ y : It, y.ok ∧ W.cells? 0 (a.add (i * 3)) 3 = some y.cells := by
      intro i hi
      obtain ⟨cs', h1, h2⟩ := hel i (by omega)
      obtain ⟨y, hy, rfl⟩ := item_open h2
      exact ⟨y, hy, h1⟩
    obtain ⟨f, hfy⟩ := @choose_lt It ⟨It.zero⟩ len (fun i y => y.ok ∧ W.cells? 0 (a.add (i * 3)) 3 = some y.cells) hch
    refine ⟨(List.range len).map f, by simp, ?_, ?_, Or.inr ⟨(List.range len).map D, _, congrArg Prod.fst hx, by simp⟩⟩
    · intro i hi
      have hi' : i < len := by simpa using hi
      obtain ⟨_, h1⟩ := hfy i hi'
      have hb := World.cells?_block h1 (by omega)
      obtain ⟨b, off, spot⟩ := a
      have hb' : b < W.heap.size := by
        have e : ((⟨b, off, spot⟩ : Addr).add (i * 3)).block = b := by unfold Addr.add; split <;> rfl
        rw [e] at hb; exact hb
      have hspot : spot = none := by
        obtain ⟨_, h0⟩ := hfy 0 (by omega)
        have h2 := (World.cells?_some h0).2.2 0 (by omega)
        have h3 : W.cell? (⟨b, off, spot⟩ : Addr) = some (.int .i64 (f 0).k) := h2
        exact World.cell?_spot h3
      subst hspot
      have h2 := (World.cells?_some h1).2.2
      rw [addr_add] at h2
      have g0 := h2 0 (by omega)
      have g1 := h2 1 (by omega)
      have g2 := h2 2 (by omega)
      rw [addr_add] at g0 g1 g2
      have e : ((List.range len).map f)[i] = f i := by simp
      refine ⟨b, off, rfl, hb', ?_, ?_, ?_⟩
      · rw [e]; exact g0
      · rw [e]; exact g1
      · rw [e]; exact g2
    · intro x hx
      obtain ⟨i, hi, rfl⟩ := List.mem_map.1 hx
      exact (hfy i (List.mem_range.1 hi)).1

end Go.Proofs.YtoolbbibnegdnaaGreatDoor.K
/-
  What the laws share: the words of the frame, and how long what is written can be.
-/
namespace Go.Proofs.YtoolbbibnegdnaaGreatDoor.K
open Go.ChangeShapes Go.WideShapes Go.ChangeAt Go.RowKit

theorem own : ownKnob Tryz.prog.godebug = none := by kernel_rfl
theorem laidOut : laidOutB Tryz.prog = true := by kernel_rfl

theorem encF_len (l : List It) : (encF l).1.length ≤ 100008000 := by
  by_cases h : (encF l).2 = 0
  · obtain ⟨h1, h2, h3⟩ := encF_zero l h
    have := itemsB_length l h2
    rw [h3]
    show (l.flatMap itemB).length ≤ 100008000
    omega
  · rw [encF_fault l h]; simp
theorem shapeF_len (l : List It) : (shapeF l).1.length ≤ l.length := by
  unfold shapeF
  split
  · simp
  · simp
theorem mk_size (l : List UInt8) (h : l.length ≤ maxLen) : (⟨l.toArray⟩ : ByteArray).size ≤ maxLen := by
  show l.toArray.size ≤ maxLen
  simpa using h

/-- A slice's bytes are within reach: so is its length. -/
theorem items_reach {H : Type} {ds : List (DataW H)} {ts : List TypeId} {j : Nat} {d : DataW H} {len : Nat} (hsz : (DataW.weightsEach Tryz.prog ts ds).all (· ≤ reachBytes) = true) (ht : ts[j]? = some 50) (hd : ds[j]? = some d)
    (h : (d = .nil ∧ len = 0) ∨ ∃ el sp, d = .slice el sp ∧ el.length = len) : len ≤ 4398046511104 := by
  rcases h with ⟨_, rfl⟩ | ⟨el, sp, rfl, rfl⟩
  · omega
  · have := sized_slice hsz ht hd Tryz.underlying50
    rw [Tryz.bytesItem] at this
    simp only [reachBytes] at this
    omega

end Go.Proofs.YtoolbbibnegdnaaGreatDoor.K
