/-
  What came in: commands, records, replies; the table out of the row's list (mkkit.py)
-/
import Derived.Test.YtoolbbibnegdnaaGreatDoorCards
import Derived.Test.YtoolbbibnegdnaaGreatDoorTie
import Derived.Test.YtoolbbibnegdnaaGreatDoorZCN
import Derived.ProofKit
import Derived.OpenShut
import Derived.ShutString
import Derived.ChangeOld
import Derived.SizedLaws
import Derived.Deep.DeepHandedRow
import Derived.Deep.Slices
import Derived.Deep.Strs
import Derived.Lib.LaidTab
import Derived.LaidMore
namespace Go.Proofs.YtoolbbibnegdnaaGreatDoor
open Go.ChangeShapes Go.WideShapes Go.ChangeAt Go.RowKit Go.Deep

theorem own : ownKnob Tryz.prog.godebug = none := by kernel_rfl
theorem laidOut : laidOutB Tryz.prog = true := by kernel_rfl
theorem gTab : Tryz.prog.globalNamed "carillon/crc.halves" = some 1 := by kernel_rfl
theorem gTabType : (Tryz.prog.globals[1]?).map (·.type) = some 136 := by kernel_rfl
theorem cellsTab : Tryz.prog.cellsOf 136 = 16 := by kernel_rfl
theorem cellsU32 : Tryz.prog.cellsOf 75 = 1 := by kernel_rfl
theorem cellsString : Tryz.prog.cellsOf 9 = 1 := by kernel_rfl
theorem cellsInt : Tryz.prog.cellsOf 3 = 1 := by kernel_rfl
theorem cellsCM : Tryz.prog.cellsOf 23 = 9 := by kernel_rfl
theorem cellsRec : Tryz.prog.cellsOf 46 = 5 := by kernel_rfl
theorem bytesRecP : Tryz.prog.bytesOf 46 = 64 := by kernel_rfl

/-- What the row's list gives: the table's cells. -/
theorem tab_of {W : World} (h : laidMetH Tryz.prog [("carillon/crc.halves", Rows.laid_carillon_crc_halves)] W) : Tab W := by
  have hT : Lib.TabIs Tryz.prog W "carillon/crc.halves" .u32 tabZ := Lib.tabIs_of_head (rest := []) gTab gTabType Tryz.underlying136 Tryz.underlying75 cellsU32 cellsTab h
  intro i hi
  rw [hT.cell gTab i hi, tab4_at i hi]

theorem door_met (os : Os) (args : Array Value) : laidMet Tryz.prog [("carillon/crc.halves", Rows.laid_carillon_crc_halves)] ((World.doorLaid Tryz.prog 14 os).forCall (fun _ _ => 0) ⟨#[], args, []⟩).memory :=
  laidMet_of_run' 8 (by kernel_rfl) (by kernel_rfl)

theorem five_of {α : Type} (l : List α) (h : l.length = 5) : ∃ a b c d e, l = [a, b, c, d, e] := by
  match l, h with
  | [a, b, c, d, e], _ => exact ⟨a, b, c, d, e, rfl⟩
/-- One record, read. -/
theorem rec_open {H : Type} {enc : TypeId × Value → H} {W : World} {n : Nat} {cs : List Value} {x : DataW H × List MemPlace} (h : DataW.trod enc Tryz.prog W 0 (fun _ => true) true n 46 cs = some x) :
    ∃ o : Rec, o.ok ∧ cs = o.cells := by
  obtain ⟨xs, m, _, _, hl, hlen, hf⟩ := DataW.trod_struct Tryz.underlying46 h
  rw [cellsRec] at hl
  obtain ⟨v0, v1, v2, v3, v4, rfl⟩ := five_of cs hl
  obtain ⟨x0, x1, x2, x3, x4, rfl⟩ := five_of xs hlen
  have h0 : DataW.trod enc Tryz.prog W 0 (fun _ => true) true m 3 [v0] = some x0 := by
    have h : DataW.trod enc Tryz.prog W 0 (fun _ => true) true m 3 (([v0, v1, v2, v3, v4].drop 0).take (Tryz.prog.cellsOf 3)) = some x0 := hf 0 _ rfl
    rw [cellsInt] at h
    exact h
  have h1 : DataW.trod enc Tryz.prog W 0 (fun _ => true) true m 9 [v1] = some x1 := by
    have h : DataW.trod enc Tryz.prog W 0 (fun _ => true) true m 9 (([v0, v1, v2, v3, v4].drop 1).take (Tryz.prog.cellsOf 9)) = some x1 := hf 1 _ rfl
    rw [cellsString] at h
    exact h
  have h2 : DataW.trod enc Tryz.prog W 0 (fun _ => true) true m 3 [v2] = some x2 := by
    have h : DataW.trod enc Tryz.prog W 0 (fun _ => true) true m 3 (([v0, v1, v2, v3, v4].drop 2).take (Tryz.prog.cellsOf 3)) = some x2 := hf 2 _ rfl
    rw [cellsInt] at h
    exact h
  have h3 : DataW.trod enc Tryz.prog W 0 (fun _ => true) true m 9 [v3] = some x3 := by
    have h : DataW.trod enc Tryz.prog W 0 (fun _ => true) true m 9 (([v0, v1, v2, v3, v4].drop 3).take (Tryz.prog.cellsOf 9)) = some x3 := hf 3 _ rfl
    rw [cellsString] at h
    exact h
  have h4 : DataW.trod enc Tryz.prog W 0 (fun _ => true) true m 9 [v4] = some x4 := by
    have h : DataW.trod enc Tryz.prog W 0 (fun _ => true) true m 9 (([v0, v1, v2, v3, v4].drop 4).take (Tryz.prog.cellsOf 9)) = some x4 := hf 4 _ rfl
    rw [cellsString] at h
    exact h
  obtain ⟨a0, e0, _, w0⟩ := DataW.trod_int Tryz.underlying3 h0
  obtain ⟨a1, e1, _, w1⟩ := DataW.trod_string Tryz.underlying9 h1
  obtain ⟨a2, e2, _, w2⟩ := DataW.trod_int Tryz.underlying3 h2
  obtain ⟨a3, e3, _, w3⟩ := DataW.trod_string Tryz.underlying9 h3
  obtain ⟨a4, e4, _, w4⟩ := DataW.trod_string Tryz.underlying9 h4
  cases e0
  cases e1
  cases e2
  cases e3
  cases e4
  have b0 := bounds_i64 w0
  have b2 := bounds_i64 w2
  unfold maxLen at w1 w3 w4
  exact ⟨⟨a0, a1, a2, a3, a4⟩, ⟨b0.1, by simp only; omega, b2.1, by simp only; omega, by simp only; omega, by simp only; omega, by simp only; omega⟩, rfl⟩
theorem nine_of {α : Type} (l : List α) (h : l.length = 9) : ∃ a b c d e f g h i, l = [a, b, c, d, e, f, g, h, i] := by
  match l, h with
  | [a, b, c, d, e, f, g, h, i], _ => exact ⟨a, b, c, d, e, f, g, h, i, rfl⟩
/-- One command, read. -/
theorem cm_open {H : Type} {enc : TypeId × Value → H} {W : World} {n : Nat} {cs : List Value} {x : DataW H × List MemPlace} (h : DataW.trod enc Tryz.prog W 0 (fun _ => true) true n 23 cs = some x) :
    ∃ o : CM, o.ok ∧ cs = o.cells.toList := by
  obtain ⟨xs, m, _, _, hl, hlen, hf⟩ := DataW.trod_struct Tryz.underlying23 h
  rw [cellsCM] at hl
  obtain ⟨v0, v1, v2, v3, v4, v5, v6, v7, v8, rfl⟩ := nine_of cs hl
  obtain ⟨x0, x1, x2, x3, x4, x5, x6, x7, x8, rfl⟩ := nine_of xs hlen
  have h0 : DataW.trod enc Tryz.prog W 0 (fun _ => true) true m 3 [v0] = some x0 := by
    have h : DataW.trod enc Tryz.prog W 0 (fun _ => true) true m 3 (([v0, v1, v2, v3, v4, v5, v6, v7, v8].drop 0).take (Tryz.prog.cellsOf 3)) = some x0 := hf 0 _ rfl
    rw [cellsInt] at h
    exact h
  have h1 : DataW.trod enc Tryz.prog W 0 (fun _ => true) true m 9 [v1] = some x1 := by
    have h : DataW.trod enc Tryz.prog W 0 (fun _ => true) true m 9 (([v0, v1, v2, v3, v4, v5, v6, v7, v8].drop 1).take (Tryz.prog.cellsOf 9)) = some x1 := hf 1 _ rfl
    rw [cellsString] at h
    exact h
  have h2 : DataW.trod enc Tryz.prog W 0 (fun _ => true) true m 9 [v2] = some x2 := by
    have h : DataW.trod enc Tryz.prog W 0 (fun _ => true) true m 9 (([v0, v1, v2, v3, v4, v5, v6, v7, v8].drop 2).take (Tryz.prog.cellsOf 9)) = some x2 := hf 2 _ rfl
    rw [cellsString] at h
    exact h
  have h3 : DataW.trod enc Tryz.prog W 0 (fun _ => true) true m 3 [v3] = some x3 := by
    have h : DataW.trod enc Tryz.prog W 0 (fun _ => true) true m 3 (([v0, v1, v2, v3, v4, v5, v6, v7, v8].drop 3).take (Tryz.prog.cellsOf 3)) = some x3 := hf 3 _ rfl
    rw [cellsInt] at h
    exact h
  have h4 : DataW.trod enc Tryz.prog W 0 (fun _ => true) true m 9 [v4] = some x4 := by
    have h : DataW.trod enc Tryz.prog W 0 (fun _ => true) true m 9 (([v0, v1, v2, v3, v4, v5, v6, v7, v8].drop 4).take (Tryz.prog.cellsOf 9)) = some x4 := hf 4 _ rfl
    rw [cellsString] at h
    exact h
  have h5 : DataW.trod enc Tryz.prog W 0 (fun _ => true) true m 9 [v5] = some x5 := by
    have h : DataW.trod enc Tryz.prog W 0 (fun _ => true) true m 9 (([v0, v1, v2, v3, v4, v5, v6, v7, v8].drop 5).take (Tryz.prog.cellsOf 9)) = some x5 := hf 5 _ rfl
    rw [cellsString] at h
    exact h
  have h6 : DataW.trod enc Tryz.prog W 0 (fun _ => true) true m 3 [v6] = some x6 := by
    have h : DataW.trod enc Tryz.prog W 0 (fun _ => true) true m 3 (([v0, v1, v2, v3, v4, v5, v6, v7, v8].drop 6).take (Tryz.prog.cellsOf 3)) = some x6 := hf 6 _ rfl
    rw [cellsInt] at h
    exact h
  have h7 : DataW.trod enc Tryz.prog W 0 (fun _ => true) true m 3 [v7] = some x7 := by
    have h : DataW.trod enc Tryz.prog W 0 (fun _ => true) true m 3 (([v0, v1, v2, v3, v4, v5, v6, v7, v8].drop 7).take (Tryz.prog.cellsOf 3)) = some x7 := hf 7 _ rfl
    rw [cellsInt] at h
    exact h
  have h8 : DataW.trod enc Tryz.prog W 0 (fun _ => true) true m 3 [v8] = some x8 := by
    have h : DataW.trod enc Tryz.prog W 0 (fun _ => true) true m 3 (([v0, v1, v2, v3, v4, v5, v6, v7, v8].drop 8).take (Tryz.prog.cellsOf 3)) = some x8 := hf 8 _ rfl
    rw [cellsInt] at h
    exact h
  obtain ⟨a0, e0, _, w0⟩ := DataW.trod_int Tryz.underlying3 h0
  obtain ⟨a1, e1, _, w1⟩ := DataW.trod_string Tryz.underlying9 h1
  obtain ⟨a2, e2, _, w2⟩ := DataW.trod_string Tryz.underlying9 h2
  obtain ⟨a3, e3, _, w3⟩ := DataW.trod_int Tryz.underlying3 h3
  obtain ⟨a4, e4, _, w4⟩ := DataW.trod_string Tryz.underlying9 h4
  obtain ⟨a5, e5, _, w5⟩ := DataW.trod_string Tryz.underlying9 h5
  obtain ⟨a6, e6, _, w6⟩ := DataW.trod_int Tryz.underlying3 h6
  obtain ⟨a7, e7, _, w7⟩ := DataW.trod_int Tryz.underlying3 h7
  obtain ⟨a8, e8, _, w8⟩ := DataW.trod_int Tryz.underlying3 h8
  cases e0
  cases e1
  cases e2
  cases e3
  cases e4
  cases e5
  cases e6
  cases e7
  cases e8
  unfold maxLen at w1 w2 w4 w5
  exact ⟨⟨a0, a1, a2, a3, a4, a5, a6, a7, a8⟩, ⟨by simp only; omega, by simp only; omega, by simp only; omega, by simp only; omega⟩, rfl⟩
set_option maxRecDepth 100000 in
theorem cm_param {H : Type} {enc : TypeId × Value → H} {W : World} {r : Reach} {b0 : Nat} {v : Value} {d : DataW H} {p : List MemPlace} (hv : Value.okWide Tryz.prog W r b0 23 v) (h : DataW.Trod enc Tryz.prog W 0 (fun _ => true) true 23 v d p) :
    ∃ x : CM, v = x.v ∧ x.ok := by
  obtain ⟨cs, rfl, _⟩ := okWide_struct Tryz.underlying23 hv
  obtain ⟨fuel, hf⟩ := h
  obtain ⟨x, hx, e⟩ := cm_open hf
  refine ⟨x, ?_, hx⟩
  simp only [Value.cells] at e
  exact congrArg Value.agg (by cases cs; simp only [CM.cells] at e ⊢; simp_all)
theorem cellsRecs : Tryz.prog.cellsOf 35 = 1 := by kernel_rfl
theorem cellsRp : Tryz.prog.cellsOf 37 = 3 := by kernel_rfl
def In64 (a : Int) : Prop := -9223372036854775808 ≤ a ∧ a ≤ 9223372036854775807
theorem wf_in64 {a : Int} (h : (Lit.int .i64 a).wf = true) : In64 a := by
  simp [Lit.wf, IntKind.min, IntKind.max, IntKind.bits, IntKind.signed] at h
  unfold In64
  omega
theorem three_of {α : Type} (l : List α) (h : l.length = 3) : ∃ a b c, l = [a, b, c] := by
  match l, h with
  | [a, b, c], _ => exact ⟨a, b, c, rfl⟩
theorem recsC_open {H : Type} {enc : TypeId × Value → H} {W : World} {n : Nat} {cs : List Value} {x : DataW H × List MemPlace} (h : DataW.trod enc Tryz.prog W 0 (fun _ => true) true n 35 cs = some x) (hw : ∀ k ∈ x.1.weights Tryz.prog 35, k ≤ reachBytes) :
    ∃ ao L cap, cs = [.slice ao (L : List Rec).length cap] ∧ RecsC W ao L ∧ (∀ m ∈ L, m.ok) ∧ L.length ≤ 140737488351232 := by
  rcases open_slice Tryz.underlying35 h with ⟨hcs, hx⟩ | ⟨a, len, c', m, n, D, Pl, hcs, _, hl, hm, hmm, hx, hel⟩
  · exact ⟨none, [], 0, hcs, fun i hi => by simp at hi, fun u hu => by simp at hu, Nat.zero_le _⟩
  · simp only [if_true] at hmm
    subst hmm
    rw [cellsRec] at hel
    have hsl := hw (((List.range len).map D).length + ((List.range (m - len)).map fun j => D (len + j)).length |> (· * 64)) (by
      rw [hx]
      unfold DataW.weights
      rw [Tryz.underlying35]
      show _ ∈ _ * Tryz.prog.bytesOf 46 :: _
      rw [bytesRecP]
      exact List.mem_cons_self)
    simp only [List.length_map, List.length_range, reachBytes] at hsl
    have hch : ∀ i, i < len → ∃ y : Rec, y.ok ∧ W.cells? 0 (a.add (i * 5)) 5 = some y.cells := by
      intro i hi
      obtain ⟨cs', h1, h2⟩ := hel i (by omega)
      obtain ⟨o, ho, rfl⟩ := rec_open h2
      exact ⟨o, ho, h1⟩
    obtain ⟨f, hfy⟩ := @choose_lt Rec ⟨Rec.zero⟩ len (fun i y => y.ok ∧ W.cells? 0 (a.add (i * 5)) 5 = some y.cells) hch
    refine ⟨some a, (List.range len).map f, m, by simpa using hcs, ?_, ?_, ?_⟩
    · intro i hi
      have hi' : i < len := by simpa using hi
      obtain ⟨_, h1⟩ := hfy i hi'
      have hb := World.cells?_block h1 (by omega)
      obtain ⟨b, off, spot⟩ := a
      have hb' : b < W.heap.size := by
        have e : ((⟨b, off, spot⟩ : Addr).add (i * 5)).block = b := by unfold Addr.add; split <;> rfl
        rw [e] at hb; exact hb
      have hspot : spot = none := by
        obtain ⟨_, h0⟩ := hfy 0 (by omega)
        have h2 := (World.cells?_some h0).2.2 0 (by omega)
        have h3 : W.cell? (⟨b, off, spot⟩ : Addr) = some (.int .i64 (f 0).off) := h2
        exact World.cell?_spot h3
      subst hspot
      have h2 := (World.cells?_some h1).2.2
      rw [addr_add] at h2
      have e : ((List.range len).map f)[i] = f i := by simp
      have g0 := h2 0 (by omega)
      have g1 := h2 1 (by omega)
      have g2 := h2 2 (by omega)
      have g3 := h2 3 (by omega)
      have g4 := h2 4 (by omega)
      rw [addr_add] at g0 g1 g2 g3 g4
      refine ⟨b, off, rfl, hb', ?_, ?_, ?_, ?_, ?_⟩
      · rw [e]; simpa [Rec.cells] using g0
      · rw [e]; simpa [Rec.cells] using g1
      · rw [e]; simpa [Rec.cells] using g2
      · rw [e]; simpa [Rec.cells] using g3
      · rw [e]; simpa [Rec.cells] using g4
    · intro x hx
      obtain ⟨i, hi, rfl⟩ := List.mem_map.1 hx
      exact (hfy i (List.mem_range.1 hi)).1
    · rw [List.length_map, List.length_range]
      omega
theorem weights_of {H : Type} {d : DataW H} {t : TypeId} {ts : List TypeId} {ds : List (DataW H)} {j : Nat} (hsz : (DataW.weightsEach Tryz.prog ts ds).all (· ≤ reachBytes) = true) (ht : ts[j]? = some t) (hd : ds[j]? = some d) : ∀ k ∈ d.weights Tryz.prog t, k ≤ reachBytes :=
  fun k hk => of_decide_eq_true (List.all_eq_true.1 hsz k (DataW.weights_mem_each (P := Tryz.prog) ht hd k hk))
/-- A reply, read. -/
theorem rp_open {H : Type} {enc : TypeId × Value → H} {W : World} {n : Nat} {cs : List Value} {x : DataW H × List MemPlace} (h : DataW.trod enc Tryz.prog W 0 (fun _ => true) true n 37 cs = some x) (hw : ∀ k ∈ x.1.weights Tryz.prog 37, k ≤ reachBytes) :
    ∃ ao cap, ∃ o : RP, cs = [.int .i64 o.code, .int .i64 o.n, .slice ao o.recs.length cap] ∧ RecsC W ao o.recs ∧ (∀ m ∈ o.recs, m.ok) ∧ o.recs.length ≤ 140737488351232 := by
  obtain ⟨xs, m, _, hx, hl, hlen, hf⟩ := DataW.trod_struct Tryz.underlying37 h
  rw [cellsRp] at hl
  obtain ⟨v0, v1, v2, rfl⟩ := three_of cs hl
  obtain ⟨x0, x1, x2, rfl⟩ := three_of xs hlen
  have h0 : DataW.trod enc Tryz.prog W 0 (fun _ => true) true m 3 [v0] = some x0 := by
    have h : DataW.trod enc Tryz.prog W 0 (fun _ => true) true m 3 (([v0, v1, v2].drop 0).take (Tryz.prog.cellsOf 3)) = some x0 := hf 0 _ rfl
    rw [cellsInt] at h
    exact h
  have h1 : DataW.trod enc Tryz.prog W 0 (fun _ => true) true m 3 [v1] = some x1 := by
    have h : DataW.trod enc Tryz.prog W 0 (fun _ => true) true m 3 (([v0, v1, v2].drop 1).take (Tryz.prog.cellsOf 3)) = some x1 := hf 1 _ rfl
    rw [cellsInt] at h
    exact h
  have h2 : DataW.trod enc Tryz.prog W 0 (fun _ => true) true m 35 [v2] = some x2 := by
    have h : DataW.trod enc Tryz.prog W 0 (fun _ => true) true m 35 (([v0, v1, v2].drop 2).take (Tryz.prog.cellsOf 35)) = some x2 := hf 2 _ rfl
    rw [cellsRecs] at h
    exact h
  obtain ⟨a0, e0, _, w0⟩ := DataW.trod_int Tryz.underlying3 h0
  obtain ⟨a1, e1, _, w1⟩ := DataW.trod_int Tryz.underlying3 h1
  obtain ⟨ao, L, cap, e2, hM, hok, hL⟩ := recsC_open h2 (fun k hk => hw k (by
    rw [hx]
    show _ ∈ DataW.weights Tryz.prog 37 (.agg [x0.1, x1.1, x2.1])
    unfold DataW.weights
    rw [Tryz.underlying37]
    exact DataW.weights_mem_each (j := 2) (t := 35) (d := x2.1) rfl rfl k hk))
  cases e0
  cases e1
  cases e2
  exact ⟨ao, cap, ⟨a0, a1, L⟩, rfl, hM, hok, hL⟩
set_option maxRecDepth 100000 in
theorem rp_param {H : Type} {enc : TypeId × Value → H} {W : World} {r : Reach} {b0 : Nat} {v : Value} {d : DataW H} {p : List MemPlace} (hv : Value.okWide Tryz.prog W r b0 37 v) (h : DataW.Trod enc Tryz.prog W 0 (fun _ => true) true 37 v d p) {ts : List TypeId} {ds : List (DataW H)} {j : Nat} (hsz : (DataW.weightsEach Tryz.prog ts ds).all (· ≤ reachBytes) = true) (ht : ts[j]? = some 37) (hd : ds[j]? = some d) :
    ∃ ao cap, ∃ x : RP, v = x.v ao cap ∧ RecsC W ao x.recs ∧ (∀ m ∈ x.recs, m.ok) ∧ x.recs.length ≤ 140737488351232 := by
  obtain ⟨cs, rfl, _⟩ := okWide_struct Tryz.underlying37 hv
  obtain ⟨fuel, hf⟩ := h
  obtain ⟨ao, cap, x, e, hx⟩ := rp_open hf (weights_of hsz ht hd)
  refine ⟨ao, cap, x, ?_, hx⟩
  simp only [Value.cells] at e
  exact congrArg Value.agg (by cases cs; simp_all)
end Go.Proofs.YtoolbbibnegdnaaGreatDoor
