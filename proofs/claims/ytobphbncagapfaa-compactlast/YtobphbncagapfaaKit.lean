/-
  What the laws' last steps share: records that came in, of a bulk.
-/
import Derived.Test.YtobphbncagapfaaRows
import Derived.Test.YtobphbncagapfaaC2
import Derived.ProofKit
import Derived.OpenShut
import Derived.ShutString
import Derived.ChangeOld
import Derived.SizedLaws
import Derived.Deep.Slices
import Derived.Deep.Strs
import Derived.JoinedCond
namespace Go.Proofs.Ytobphbncagapfaa
open Go.ChangeShapes Go.WideShapes Go.ChangeAt Go.RowKit Go.Deep

theorem own : ownKnob Try.prog.godebug = none := by kernel_rfl
theorem laidOut : laidOutB Try.prog = true := by kernel_rfl
theorem cellsInt : Try.prog.cellsOf 3 = 1 := by kernel_rfl
theorem cellsString : Try.prog.cellsOf 9 = 1 := by kernel_rfl
theorem cellsRec : Try.prog.cellsOf 30 = 5 := by kernel_rfl
theorem bulk_one {H : Type} (d : DataW H) : 1 ≤ Rows.uptoBulk d := by
  cases d with
  | lit l => cases l <;> simp [Rows.uptoBulk]
  | nil => simp [Rows.uptoBulk]
  | ptr d => simp [Rows.uptoBulk]
  | slice elems spare => simp [Rows.uptoBulk]
  | agg parts => simp [Rows.uptoBulk]
  | iface t d => simp [Rows.uptoBulk]
  | map entries => simp [Rows.uptoBulk]
  | held h => simp [Rows.uptoBulk]
theorem bulk_len {H : Type} (l : List (DataW H)) : l.length ≤ Rows.uptoBulkAll l := by
  induction l with
  | nil => simp [Rows.uptoBulkAll]
  | cons x r ih => have := bulk_one x; simp only [Rows.uptoBulkAll, List.length_cons]; omega
theorem bulk_in {H : Type} {l : List (DataW H)} {d : DataW H} (h : d ∈ l) : Rows.uptoBulk d ≤ Rows.uptoBulkAll l := by
  induction l with
  | nil => cases h
  | cons x r ih =>
    simp only [Rows.uptoBulkAll]
    rcases List.mem_cons.1 h with rfl | h
    · omega
    · have := ih h; omega
theorem wf_i64 {a : Int} (h : (Lit.int .i64 a).wf = true) : -9223372036854775808 ≤ a ∧ a ≤ 9223372036854775807 := by
  simp [Lit.wf, IntKind.min, IntKind.max, IntKind.bits, IntKind.signed] at h
  omega
theorem five_of {α : Type} (l : List α) (h : l.length = 5) : ∃ a b c d e, l = [a, b, c, d, e] := by
  match l, h with
  | [a, b, c, d, e], _ => exact ⟨a, b, c, d, e, rfl⟩
theorem addr_add (b off n : Nat) : (⟨b, off, none⟩ : Addr).add n = ⟨b, off + n, none⟩ := by
  unfold Addr.add
  split
  · rename_i h; subst h; rfl
  · rfl
/-- One record, read. -/
theorem rec_open {H : Type} {enc : TypeId × Value → H} {W : World} {n : Nat} {cs : List Value} {x : DataW H × List MemPlace} (h : DataW.trod enc Try.prog W 0 (fun _ => true) true n 30 cs = some x) (hw : Rows.uptoBulk x.1 ≤ 1048576) :
    ∃ o : Rec, o.ok ∧ cs = o.cells := by
  obtain ⟨xs, m, _, hx, hl, hlen, hf⟩ := DataW.trod_struct Try.underlying30 h
  rw [cellsRec] at hl
  obtain ⟨v0, v1, v2, v3, v4, rfl⟩ := five_of cs hl
  obtain ⟨x0, x1, x2, x3, x4, rfl⟩ := five_of xs hlen
  have h0 : DataW.trod enc Try.prog W 0 (fun _ => true) true m 3 [v0] = some x0 := by
    have h : DataW.trod enc Try.prog W 0 (fun _ => true) true m 3 (([v0, v1, v2, v3, v4].drop 0).take (Try.prog.cellsOf 3)) = some x0 := hf 0 _ rfl
    rw [cellsInt] at h
    exact h
  have h1 : DataW.trod enc Try.prog W 0 (fun _ => true) true m 9 [v1] = some x1 := by
    have h : DataW.trod enc Try.prog W 0 (fun _ => true) true m 9 (([v0, v1, v2, v3, v4].drop 1).take (Try.prog.cellsOf 9)) = some x1 := hf 1 _ rfl
    rw [cellsString] at h
    exact h
  have h2 : DataW.trod enc Try.prog W 0 (fun _ => true) true m 3 [v2] = some x2 := by
    have h : DataW.trod enc Try.prog W 0 (fun _ => true) true m 3 (([v0, v1, v2, v3, v4].drop 2).take (Try.prog.cellsOf 3)) = some x2 := hf 2 _ rfl
    rw [cellsInt] at h
    exact h
  have h3 : DataW.trod enc Try.prog W 0 (fun _ => true) true m 9 [v3] = some x3 := by
    have h : DataW.trod enc Try.prog W 0 (fun _ => true) true m 9 (([v0, v1, v2, v3, v4].drop 3).take (Try.prog.cellsOf 9)) = some x3 := hf 3 _ rfl
    rw [cellsString] at h
    exact h
  have h4 : DataW.trod enc Try.prog W 0 (fun _ => true) true m 9 [v4] = some x4 := by
    have h : DataW.trod enc Try.prog W 0 (fun _ => true) true m 9 (([v0, v1, v2, v3, v4].drop 4).take (Try.prog.cellsOf 9)) = some x4 := hf 4 _ rfl
    rw [cellsString] at h
    exact h
  obtain ⟨a0, e0, _, w0⟩ := DataW.trod_int Try.underlying3 h0
  obtain ⟨a1, e1, d1, _⟩ := DataW.trod_string Try.underlying9 h1
  obtain ⟨a2, e2, _, w2⟩ := DataW.trod_int Try.underlying3 h2
  obtain ⟨a3, e3, d3, _⟩ := DataW.trod_string Try.underlying9 h3
  obtain ⟨a4, e4, d4, _⟩ := DataW.trod_string Try.underlying9 h4
  have hb : Rows.uptoBulk (.agg [x0.1, x1.1, x2.1, x3.1, x4.1]) ≤ 1048576 := by
    have e : x.1 = .agg [x0.1, x1.1, x2.1, x3.1, x4.1] := by rw [hx]; rfl
    rw [← e]
    exact hw
  rw [d1, d3, d4] at hb
  simp only [Rows.uptoBulk, Rows.uptoBulkAll] at hb
  have s1 : a1.data.toList.length = a1.size := by simp
  have s3 : a3.data.toList.length = a3.size := by simp
  have s4 : a4.data.toList.length = a4.size := by simp
  rw [s1, s3, s4] at hb
  have b0 := wf_i64 w0
  have b2 := wf_i64 w2
  cases e0
  cases e1
  cases e2
  cases e3
  cases e4
  exact ⟨⟨a0, a1, a2, a3, a4⟩, ⟨b0.1, b0.2, b2.1, b2.2, by simp only; omega, by simp only; omega, by simp only; omega⟩, rfl⟩
theorem recs_open {H : Type} {enc : TypeId × Value → H} {W : World} {a0 : Option Addr} {len cap : Nat} {d : DataW H} {p : List MemPlace} (h : DataW.Trod enc Try.prog W 0 (fun _ => true) true 22 (.slice a0 len cap) d p) (hb : Rows.uptoBulk d ≤ 1048576) :
    ∃ us : List Rec, len = us.length ∧ RecsAt W (.slice a0 us.length cap) us ∧ (∀ r ∈ us, r.ok) ∧ us.length ≤ 1048576 ∧ (a0 = none → cap = 0 ∧ us = []) := by
  obtain ⟨fuel, hf⟩ := h
  rcases open_slice Try.underlying22 hf with ⟨hcs, hx⟩ | ⟨a, l', c', m, n, D, Pl, hcs, _, hl, hm, hmm, hx, hel⟩
  · simp [Value.cells] at hcs
    obtain ⟨rfl, rfl, rfl⟩ := hcs
    exact ⟨[], rfl, ⟨none, 0, rfl, by omega, fun i hi => by simp at hi⟩, fun u hu => by simp at hu, Nat.zero_le _, fun _ => ⟨rfl, rfl⟩⟩
  · simp [Value.cells] at hcs
    obtain ⟨rfl, rfl, rfl⟩ := hcs
    simp only [if_true] at hmm
    subst hmm
    rw [cellsRec] at hel
    have hdd : d = .slice ((List.range len).map D) ((List.range (m - len)).map fun j => D (len + j)) := congrArg Prod.fst hx
    subst hdd
    simp only [Rows.uptoBulk] at hb
    have hlen := bulk_len ((List.range len).map D)
    rw [List.length_map, List.length_range] at hlen
    have hch : ∀ i, i < len → ∃ y : Rec, y.ok ∧ W.cells? 0 (a.add (i * 5)) 5 = some y.cells := by
      intro i hi
      obtain ⟨cs', h1, h2⟩ := hel i (by omega)
      have hbi := bulk_in (d := D i) (l := (List.range len).map D) (List.mem_map.2 ⟨i, List.mem_range.2 hi, rfl⟩)
      obtain ⟨o, ho, rfl⟩ := rec_open h2 (by show Rows.uptoBulk (D i) ≤ 1048576; omega)
      exact ⟨o, ho, h1⟩
    obtain ⟨f, hfy⟩ := @choose_lt Rec ⟨⟨0, ⟨#[]⟩, 0, ⟨#[]⟩, ⟨#[]⟩⟩⟩ len (fun i y => y.ok ∧ W.cells? 0 (a.add (i * 5)) 5 = some y.cells) hch
    refine ⟨(List.range len).map f, by simp, ⟨some a, m, by simp, by unfold maxLen at hm; omega, ?_⟩, ?_, ?_, fun e => by cases e⟩
    · intro i hi
      have hi' : i < len := by simpa using hi
      obtain ⟨_, h1⟩ := hfy i hi'
      have hb := World.cells?_block h1 (by omega)
      obtain ⟨b, off, spot⟩ := a
      have hb' : b < W.heap.size := by
        have e : ((⟨b, off, spot⟩ : Addr).add (i * 5)).block = b := by unfold Addr.add; split <;> rfl
        rw [e] at hb; exact hb
      have hspot : spot = none := by
        obtain ⟨_, h0⟩ := hfy 0 (by omega)
        have h2 := (World.cells?_some h0).2.2 0 (by omega)
        have h3 : W.cell? (⟨b, off, spot⟩ : Addr) = some (.int .i64 (f 0).off) := h2
        exact World.cell?_spot h3
      subst hspot
      have h2 := (World.cells?_some h1).2.2
      rw [addr_add] at h2
      have e : ((List.range len).map f)[i] = f i := by simp
      refine ⟨b, off, rfl, hb', ?_⟩
      rw [e]
      intro j hj
      have g := h2 j hj
      rw [addr_add] at g
      exact g
    · intro x hx
      obtain ⟨i, hi, rfl⟩ := List.mem_map.1 hx
      exact (hfy i (List.mem_range.1 hi)).1
    · rw [List.length_map, List.length_range]
      omega
end Go.Proofs.Ytobphbncagapfaa
