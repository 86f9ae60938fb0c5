/-
  What the laws' last steps share: the table out of the row's list; a slice of texts that came in.
-/
import Derived.Test.YtlalfehnkhenjabDoorCards
import Derived.Test.YtlalfehnkhenjabDoorTie
import Derived.Test.YtlalfehnkhenjabDoorE1
import Derived.ProofKit
import Derived.OpenShut
import Derived.ShutString
import Derived.ChangeOld
import Derived.SizedLaws
import Derived.Deep.DeepHandedRow
import Derived.Deep.Slices
import Derived.Deep.Strs
import Derived.Lib.LaidTab
import Derived.LaidMore
namespace Go.Proofs.YtlalfehnkhenjabDoor
open Go.ChangeShapes Go.WideShapes Go.ChangeAt Go.RowKit Go.Deep

theorem own : ownKnob Tryd.prog.godebug = none := by kernel_rfl
theorem laidOut : laidOutB Tryd.prog = true := by kernel_rfl
theorem gTab : Tryd.prog.globalNamed "carillon/crc.halves" = some 0 := by kernel_rfl
theorem gTabType : (Tryd.prog.globals[0]?).map (·.type) = some 43 := by kernel_rfl
theorem cellsTab : Tryd.prog.cellsOf 43 = 16 := by kernel_rfl
theorem cellsU32 : Tryd.prog.cellsOf 30 = 1 := by kernel_rfl
theorem cellsString : Tryd.prog.cellsOf 9 = 1 := by kernel_rfl
theorem bytesString : Tryd.prog.bytesOf 9 = 16 := by kernel_rfl

/-- What the row's list gives: the table's cells. -/
theorem tab_of {W : World} (h : laidMetH Tryd.prog [("carillon/crc.halves", Rows.laid_carillon_crc_halves)] W) : Tab W := by
  have hT : Lib.TabIs Tryd.prog W "carillon/crc.halves" .u32 tabZ := Lib.tabIs_of_head (rest := []) gTab gTabType Tryd.underlying43 Tryd.underlying30 cellsU32 cellsTab h
  intro i hi
  rw [hT.cell gTab i hi, tab4_at i hi]

theorem door_met (os : Os) (args : Array Value) : laidMet Tryd.prog [("carillon/crc.halves", Rows.laid_carillon_crc_halves)] ((World.doorLaid Tryd.prog 14 os).forCall (fun _ _ => 0) ⟨#[], args, []⟩).memory :=
  laidMet_of_run' 8 (by kernel_rfl) (by kernel_rfl)

theorem maxLen_le {s : ByteArray} (h : s.size ≤ maxLen) : s.size ≤ 9223372036854775807 := by unfold maxLen at h; omega

theorem one_of (cs : List Value) (h : cs.length = 1) : ∃ a, cs = [a] := by
  match cs, h with
  | [a], _ => exact ⟨a, rfl⟩

/-- A slice of texts that came in, read. -/
theorem strs_open {H : Type} {enc : TypeId × Value → H} {W : World} {a0 : Option Addr} {len cap : Nat} {d : DataW H} {p : List MemPlace} (h : DataW.Trod enc Tryd.prog W 0 (fun _ => true) true 33 (.slice a0 len cap) d p) :
    ∃ l : List (List UInt8), l.length = len ∧ StrsAt W a0 l ∧ (∀ x ∈ l, x.length ≤ maxLen) ∧ len ≤ cap ∧ cap ≤ maxLen ∧ ((d = .nil ∧ len = 0) ∨ ∃ sp, d = .slice (l.map fun x => .lit (.string x)) sp) := by
  obtain ⟨fuel, hf⟩ := h
  rcases open_slice Tryd.underlying33 hf with ⟨hcs, hx⟩ | ⟨a, l', c', m, n, D, Pl, hcs, _, hl, hm, hmm, hx, hel⟩
  · simp [Value.cells] at hcs
    obtain ⟨rfl, rfl, rfl⟩ := hcs
    refine ⟨[], rfl, fun i hi => by simp at hi, by simp, Nat.le_refl _, Nat.zero_le _, Or.inl ⟨?_, rfl⟩⟩
    exact congrArg Prod.fst hx
  · simp [Value.cells] at hcs
    obtain ⟨rfl, rfl, rfl⟩ := hcs
    simp only [if_true] at hmm
    subst hmm
    rw [cellsString] at hel
    have hch : ∀ i, i < len → ∃ y : List UInt8, y.length ≤ maxLen ∧ W.cells? 0 (a.add (i * 1)) 1 = some [.string ⟨y.toArray⟩] ∧ D i = .lit (.string y) := by
      intro i hi
      obtain ⟨cs', h1, h2⟩ := hel i (by omega)
      obtain ⟨s, e2, e3, w2⟩ := DataW.trod_string Tryd.underlying9 h2
      subst e2
      exact ⟨s.data.toList, by rw [size_list]; exact w2, by rw [mk_list]; exact h1, congrArg Prod.fst e3⟩
    obtain ⟨f, hfy⟩ := @choose_lt (List UInt8) ⟨[]⟩ len (fun i y => y.length ≤ maxLen ∧ W.cells? 0 (a.add (i * 1)) 1 = some [.string ⟨y.toArray⟩] ∧ D i = .lit (.string y)) hch
    have hDf : (List.range len).map D = ((List.range len).map f).map fun x => .lit (.string x) := by
      rw [List.map_map]
      exact List.map_congr_left fun i hi => (hfy i (List.mem_range.1 hi)).2.2
    refine ⟨(List.range len).map f, by simp, ?_, ?_, hl, hm, Or.inr ⟨_, by rw [← hDf]; exact congrArg Prod.fst hx⟩⟩
    · intro i hi
      have hi' : i < len := by simpa using hi
      obtain ⟨_, h1, _⟩ := hfy i hi'
      have hb := World.cells?_block h1 (by omega)
      obtain ⟨b, off, spot⟩ := a
      have hb' : b < W.heap.size := by
        have e : ((⟨b, off, spot⟩ : Addr).add (i * 1)).block = b := by unfold Addr.add; split <;> rfl
        rw [e] at hb; exact hb
      have hspot : spot = none := by
        obtain ⟨_, h0, _⟩ := hfy 0 (by omega)
        have h2 := (World.cells?_some h0).2.2 0 (by omega)
        have h3 : W.cell? (⟨b, off, spot⟩ : Addr) = some (.string ⟨(f 0).toArray⟩) := h2
        exact World.cell?_spot h3
      subst hspot
      have h2 := (World.cells?_some h1).2.2
      rw [addr_add] at h2
      have g0 := h2 0 (by omega)
      rw [addr_add] at g0
      have e : ((List.range len).map f)[i] = f i := by simp
      refine ⟨b, off, rfl, hb', ?_⟩
      rw [e]
      simpa using g0
    · intro x hx
      obtain ⟨i, hi, rfl⟩ := List.mem_map.1 hx
      exact (hfy i (List.mem_range.1 hi)).1

/-- A slice's bytes are within reach: so is its length. -/
theorem strs_reach {H : Type} {ds : List (DataW H)} {ts : List TypeId} {j : Nat} {d : DataW H} {l : List (List UInt8)} (hsz : (DataW.weightsEach Tryd.prog ts ds).all (· ≤ reachBytes) = true) (ht : ts[j]? = some 33) (hd : ds[j]? = some d)
    (h : (d = .nil ∧ l.length = 0) ∨ ∃ sp, d = .slice (l.map fun x => .lit (.string x)) sp) : l.length ≤ 8796093021952 := by
  rcases h with ⟨_, h0⟩ | ⟨sp, rfl⟩
  · omega
  · have := sized_slice hsz ht hd Tryd.underlying33
    rw [bytesString, List.length_map] at this
    simp only [reachBytes] at this
    omega

end Go.Proofs.YtlalfehnkhenjabDoor
