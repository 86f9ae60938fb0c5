/-
  What the laws' last steps share: the table out of the row's list; records that came in.
-/
import Derived.Test.YtgnehnlmbodijaaDoorCards
import Derived.Test.YtgnehnlmbodijaaDoorTie
import Derived.Test.YtgnehnlmbodijaaDoorZS6
import Derived.ProofKit
import Derived.OpenShut
import Derived.ShutString
import Derived.ChangeOld
import Derived.SizedLaws
import Derived.Deep.DeepHandedRow
import Derived.Deep.Slices
import Derived.Deep.Strs
import Derived.Lib.LaidTab
import Derived.LaidMore
namespace Go.Proofs.YtgnehnlmbodijaaDoor
open Go.ChangeShapes Go.WideShapes Go.ChangeAt Go.RowKit Go.Deep

theorem own : ownKnob Tryd.prog.godebug = none := by kernel_rfl
theorem laidOut : laidOutB Tryd.prog = true := by kernel_rfl
theorem gTab : Tryd.prog.globalNamed "carillon/crc.halves" = some 1 := by kernel_rfl
theorem gTabType : (Tryd.prog.globals[1]?).map (·.type) = some 121 := by kernel_rfl
theorem cellsTab : Tryd.prog.cellsOf 121 = 16 := by kernel_rfl
theorem cellsU32 : Tryd.prog.cellsOf 85 = 1 := by kernel_rfl
theorem cellsString : Tryd.prog.cellsOf 9 = 1 := by kernel_rfl
theorem cellsInt : Tryd.prog.cellsOf 3 = 1 := by kernel_rfl
theorem cellsRec : Tryd.prog.cellsOf 23 = 5 := by kernel_rfl
theorem bytesRecP : Tryd.prog.bytesOf 23 = 64 := by kernel_rfl

/-- What the row's list gives: the table's cells. -/
theorem tab_of {W : World} (h : laidMetH Tryd.prog [("carillon/crc.halves", Rows.laid_carillon_crc_halves)] W) : Tab W := by
  have hT : Lib.TabIs Tryd.prog W "carillon/crc.halves" .u32 tabZ := Lib.tabIs_of_head (rest := []) gTab gTabType Tryd.underlying121 Tryd.underlying85 cellsU32 cellsTab h
  intro i hi
  rw [hT.cell gTab i hi, tab4_at i hi]

theorem door_met (os : Os) (args : Array Value) : laidMet Tryd.prog [("carillon/crc.halves", Rows.laid_carillon_crc_halves)] ((World.doorLaid Tryd.prog 14 os).forCall (fun _ _ => 0) ⟨#[], args, []⟩).memory :=
  laidMet_of_run' 8 (by kernel_rfl) (by kernel_rfl)

theorem five_of {α : Type} (l : List α) (h : l.length = 5) : ∃ a b c d e, l = [a, b, c, d, e] := by
  match l, h with
  | [a, b, c, d, e], _ => exact ⟨a, b, c, d, e, rfl⟩
/-- One record, read. -/
theorem rec_open {H : Type} {enc : TypeId × Value → H} {W : World} {n : Nat} {cs : List Value} {x : DataW H × List MemPlace} (h : DataW.trod enc Tryd.prog W 0 (fun _ => true) true n 23 cs = some x) :
    ∃ o : Rec, o.ok ∧ cs = o.cells := by
  obtain ⟨xs, m, _, _, hl, hlen, hf⟩ := DataW.trod_struct Tryd.underlying23 h
  rw [cellsRec] at hl
  obtain ⟨v0, v1, v2, v3, v4, rfl⟩ := five_of cs hl
  obtain ⟨x0, x1, x2, x3, x4, rfl⟩ := five_of xs hlen
  have h0 : DataW.trod enc Tryd.prog W 0 (fun _ => true) true m 3 [v0] = some x0 := by
    have h : DataW.trod enc Tryd.prog W 0 (fun _ => true) true m 3 (([v0, v1, v2, v3, v4].drop 0).take (Tryd.prog.cellsOf 3)) = some x0 := hf 0 _ rfl
    rw [cellsInt] at h
    exact h
  have h1 : DataW.trod enc Tryd.prog W 0 (fun _ => true) true m 9 [v1] = some x1 := by
    have h : DataW.trod enc Tryd.prog W 0 (fun _ => true) true m 9 (([v0, v1, v2, v3, v4].drop 1).take (Tryd.prog.cellsOf 9)) = some x1 := hf 1 _ rfl
    rw [cellsString] at h
    exact h
  have h2 : DataW.trod enc Tryd.prog W 0 (fun _ => true) true m 3 [v2] = some x2 := by
    have h : DataW.trod enc Tryd.prog W 0 (fun _ => true) true m 3 (([v0, v1, v2, v3, v4].drop 2).take (Tryd.prog.cellsOf 3)) = some x2 := hf 2 _ rfl
    rw [cellsInt] at h
    exact h
  have h3 : DataW.trod enc Tryd.prog W 0 (fun _ => true) true m 9 [v3] = some x3 := by
    have h : DataW.trod enc Tryd.prog W 0 (fun _ => true) true m 9 (([v0, v1, v2, v3, v4].drop 3).take (Tryd.prog.cellsOf 9)) = some x3 := hf 3 _ rfl
    rw [cellsString] at h
    exact h
  have h4 : DataW.trod enc Tryd.prog W 0 (fun _ => true) true m 9 [v4] = some x4 := by
    have h : DataW.trod enc Tryd.prog W 0 (fun _ => true) true m 9 (([v0, v1, v2, v3, v4].drop 4).take (Tryd.prog.cellsOf 9)) = some x4 := hf 4 _ rfl
    rw [cellsString] at h
    exact h
  obtain ⟨a0, e0, _, w0⟩ := DataW.trod_int Tryd.underlying3 h0
  obtain ⟨a1, e1, _, w1⟩ := DataW.trod_string Tryd.underlying9 h1
  obtain ⟨a2, e2, _, w2⟩ := DataW.trod_int Tryd.underlying3 h2
  obtain ⟨a3, e3, _, w3⟩ := DataW.trod_string Tryd.underlying9 h3
  obtain ⟨a4, e4, _, w4⟩ := DataW.trod_string Tryd.underlying9 h4
  cases e0
  cases e1
  cases e2
  cases e3
  cases e4
  have b0 := bounds_i64 w0
  have b2 := bounds_i64 w2
  unfold maxLen at w1 w3 w4
  exact ⟨⟨a0, a1, a2, a3, a4⟩, ⟨b0.1, by simp only; omega, b2.1, by simp only; omega, by simp only; omega, by simp only; omega, by simp only; omega⟩, rfl⟩
set_option maxRecDepth 100000 in
theorem rec_param {H : Type} {enc : TypeId × Value → H} {W : World} {r : Reach} {b0 : Nat} {v : Value} {d : DataW H} {p : List MemPlace} (hv : Value.okWide Tryd.prog W r b0 23 v) (h : DataW.Trod enc Tryd.prog W 0 (fun _ => true) true 23 v d p) :
    ∃ x : Rec, v = x.v ∧ x.ok := by
  obtain ⟨cs, rfl, _⟩ := okWide_struct Tryd.underlying23 hv
  obtain ⟨fuel, hf⟩ := h
  obtain ⟨x, hx, e⟩ := rec_open hf
  refine ⟨x, ?_, hx⟩
  simp only [Value.cells] at e
  exact congrArg Value.agg (by cases cs; simp only [Rec.cells] at e; simp_all)
theorem recs_open {H : Type} {enc : TypeId × Value → H} {W : World} {a0 : Option Addr} {len cap : Nat} {d : DataW H} {p : List MemPlace} (h : DataW.Trod enc Tryd.prog W 0 (fun _ => true) true 31 (.slice a0 len cap) d p) {ts : List TypeId} {ds : List (DataW H)} {j : Nat} (hsz : (DataW.weightsEach Tryd.prog ts ds).all (· ≤ reachBytes) = true) (ht : ts[j]? = some 31) (hd : ds[j]? = some d) :
    ∃ us : List Rec, RecsAt W (.slice a0 len cap) us ∧ (∀ r ∈ us, r.ok) ∧ us.length ≤ 4611686018427387904 := by
  obtain ⟨fuel, hf⟩ := h
  rcases open_slice Tryd.underlying31 hf with ⟨hcs, hx⟩ | ⟨a, l', c', m, n, D, Pl, hcs, _, hl, hm, hmm, hx, hel⟩
  · simp [Value.cells] at hcs
    obtain ⟨rfl, rfl, rfl⟩ := hcs
    exact ⟨[], ⟨none, 0, rfl, by omega, fun i hi => by simp at hi⟩, fun u hu => by simp at hu, Nat.zero_le _⟩
  · simp [Value.cells] at hcs
    obtain ⟨rfl, rfl, rfl⟩ := hcs
    simp only [if_true] at hmm
    subst hmm
    rw [cellsRec] at hel
    have hdd : d = .slice ((List.range len).map D) ((List.range (m - len)).map fun j => D (len + j)) := congrArg Prod.fst hx
    subst hdd
    have hsl := sized_slice hsz ht hd Tryd.underlying31
    rw [bytesRecP, List.length_map, List.length_range] at hsl
    simp only [reachBytes] at hsl
    have hch : ∀ i, i < len → ∃ y : Rec, y.ok ∧ W.cells? 0 (a.add (i * 5)) 5 = some y.cells := by
      intro i hi
      obtain ⟨cs', h1, h2⟩ := hel i (by omega)
      obtain ⟨o, ho, rfl⟩ := rec_open h2
      exact ⟨o, ho, h1⟩
    obtain ⟨f, hfy⟩ := @choose_lt Rec ⟨Rec.zero⟩ len (fun i y => y.ok ∧ W.cells? 0 (a.add (i * 5)) 5 = some y.cells) hch
    refine ⟨(List.range len).map f, ⟨some a, m, by simp, by unfold maxLen at hm; omega, ?_⟩, ?_, ?_⟩
    · intro i hi
      have hi' : i < len := by simpa using hi
      obtain ⟨_, h1⟩ := hfy i hi'
      have hb := World.cells?_block h1 (by omega)
      obtain ⟨b, off, spot⟩ := a
      have hb' : b < W.heap.size := by
        have e : ((⟨b, off, spot⟩ : Addr).add (i * 5)).block = b := by unfold Addr.add; split <;> rfl
        rw [e] at hb; exact hb
      have hspot : spot = none := by
        obtain ⟨_, h0⟩ := hfy 0 (by omega)
        have h2 := (World.cells?_some h0).2.2 0 (by omega)
        have h3 : W.cell? (⟨b, off, spot⟩ : Addr) = some (.int .i64 (f 0).off) := h2
        exact World.cell?_spot h3
      subst hspot
      have h2 := (World.cells?_some h1).2.2
      rw [addr_add] at h2
      have e : ((List.range len).map f)[i] = f i := by simp
      refine ⟨b, off, rfl, hb', ?_⟩
      rw [e]
      intro j hj
      have g := h2 j hj
      rw [addr_add] at g
      exact g
    · intro x hx
      obtain ⟨i, hi, rfl⟩ := List.mem_map.1 hx
      exact (hfy i (List.mem_range.1 hi)).1
    · rw [List.length_map, List.length_range]
      omega
end Go.Proofs.YtgnehnlmbodijaaDoor
