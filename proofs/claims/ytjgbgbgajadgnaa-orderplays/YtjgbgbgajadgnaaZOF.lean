/-
  makeSure, as it runs.
-/
import Derived.Test.YtjgbgbgajadgnaaZOE0
namespace Go.Proofs.Ytjgbgbgajadgnaa
open Go.RowKit Go.Shelf

attribute [local go_sem ↓] Go.wp_at_zero Go.wp_at_succ
set_option linter.unusedSimpArgs false
set_option linter.unusedVariables false
def arrC (l : List Int) : Array Value := (l.map (Value.int .i64) ++ List.replicate (7 - l.length) (Value.int .i64 0)).toArray
theorem arrC_size {l : List Int} (h : l.length ≤ 7) : (arrC l).size = 7 := by simp [arrC]; omega
theorem arrC_snoc (l : List Int) (x : Int) (h : l.length < 7) : (arrC l).setIfInBounds l.length (.int .i64 x) = arrC (l ++ [x]) := by
  unfold arrC
  rw [List.setIfInBounds_toArray]
  congr 1
  rw [List.set_append_right _ _ (by simp), List.length_map, Nat.sub_self, List.map_append, List.append_assoc]
  congr 1
  rw [show 7 - l.length = (7 - (l ++ [x]).length) + 1 by simp; omega, List.replicate_succ]
  rfl
theorem arrC_get {l : List Int} (i : Nat) (hi : i < l.length) : (arrC l)[i]? = some (.int .i64 l[i]) := by
  unfold arrC
  rw [List.getElem?_toArray, List.getElem?_append_left (by simpa using hi)]
  simp [hi]
/-- What Sort leaves. -/
theorem psort {w : World} {B g : Nat} {t : TypeId} (l : List Nat) (hl : l.length ≤ 7) (hg : w.heap[g]? = some (.cells (arrC (natI l)) t (0, 0))) (hB : B ≤ g) :
    Calls Try.prog 43 #[.slice (some ⟨g, 0, none⟩) l.length 7] w fun e w' => e = .returned (.tuple #[]) ∧ Below B w w' ∧ ∀ i (hi : i < (sortI l).length), w'.cell? ⟨g, i, none⟩ = some (.int .i64 (sortI l)[i]) := by
  have hlt := heap_lt hg
  have hH : Sort.Holds (Value.int .i64) w g 0 (natI l).toArray := by
    intro j hj
    have hj' : j < (natI l).length := by simpa using hj
    refine ⟨?_, box_free hg _⟩
    rw [Nat.zero_add]
    refine (box_cell hg j (arrC_get j hj')).trans ?_
    rw [getElem!_pos _ j hj]
    rfl
  have h := AnyM.slices_Sort_int Try.shSort g 0 7 (natI l) w hH hlt (by rw [natI_length]; omega)
  rw [natI_length] at h
  refine h.mono ?_
  rintro e w' ⟨rfl, n, os, rfl⟩
  have hS : (natI l).mergeSort (fun x y => decide (x ≤ y)) = sortI l := rfl
  rw [hS]
  have hs2 : (sortI l).toArray.size = (natI l).toArray.size := by simp [sortI_length, natI_length]
  refine ⟨rfl, ⟨rfl, rfl, rfl, by simp, fun k hk => ?_⟩, fun i hi => ?_⟩
  · by_cases hk2 : k < w.heap.size
    · rw [Sort.heap_grow_old _ _ (by simpa using hk2)]
      simp [Sort.putRow, Sort.mapBlock, Sort.ahead, Array.getElem?_modify, show g ≠ k by omega]
    · omega
  · rw [Sort.cell?_grow _ _ _ (by simpa using hlt)]
    have := Sort.cell?_putRow (Value.int .i64) (Sort.ahead w n) g 0 (natI l).toArray (sortI l).toArray (Sort.holds_ahead _ _ _ _ _ _ hH) hs2 i (by simpa using hi)
    rw [Nat.zero_add] at this
    rw [this, getElem!_pos _ i (by simpa using hi)]
    rfl
theorem set_sure (L : OL) (o : OS) (x : Nat) : (oBox L o).setIfInBounds 4 (.int .i64 (x : Int)) = oBox L { o with sure := x } := rfl
set_option maxHeartbeats 4000000 in
theorem pmake {w : World} {L : OL} {o : OS} (h : OAt w L o) (hk : o.Ok) :
    Calls Try.prog 35 #[L.at] w fun e w' => e = .returned (.tuple #[]) ∧ OAt w' L o.make ∧ OStep w w' L L := by
  have hn1 := hk.pos
  have hn7 := hk.len
  have HH := hide (fun w1 (b1 : Below w.heap.size w w1) => h.below b1)
  unfold OL.at
  obtain ⟨_, c1, _, _, _⟩ := h.cells
  have HG : Hid (∀ W k (hk : k < o.nodes.length), OAt W L o → ∃ g off, L.no = some ⟨g, off, none⟩ ∧ W.cell? ⟨g, off + k, none⟩ = some (.int .i64 (o.nodes[k] : Int)) ∧ W.cell? ⟨L.b, 5 + o.nodes[k], none⟩ = some (.int .i64 (o.had.getD o.nodes[k] 0 : Nat)) ∧ o.nodes[k] < 7) := fun W k hk2 hW => by
    have hlt := hk.lt _ (List.getElem_mem hk2)
    obtain ⟨g, off, e, _, hc⟩ := hW.ints k (by rw [natI_length]; exact hk2)
    refine ⟨g, off, e, ?_, hW.hadc _ hlt, hlt⟩
    rw [hc]
    simp [natI]
  have HN : Hid (∀ W, OAt W L o → W.cell? ⟨L.b, 1, none⟩ = some (.slice L.no o.nodes.length L.nc)) := fun W hW => hW.cells.c1
  clear h
  go_enter Try.func35, Try.ntmps35
  go_upto_region 1 with fail
  have BA : Below w.heap.size w (w.alloc (.cells #[.int .i64 0, .int .i64 0, .int .i64 0, .int .i64 0, .int .i64 0, .int .i64 0, .int .i64 0] 64)) := (Below.refl _ _).alloc (Nat.le_refl _) _
  have XA : (w.alloc (.cells #[.int .i64 0, .int .i64 0, .int .i64 0, .int .i64 0, .int .i64 0, .int .i64 0, .int .i64 0] 64)).heap[w.heap.size]? = some (.cells (arrC []) 64 (0, 0)) := heap_alloc_new w _
  have O1 := HH.out _ BA
  have c2 := HN.out _ O1
  generalize w.alloc _ = w1 at *
  have B1 := hide BA
  have X1 := hide XA
  clear BA XA O1 c1
  have i0 : (0 : Int) ≤ (o.nodes.length : Int) := by omega
  have i1 : (o.nodes.length : Int) ≤ 7 := by omega
  have HL : Hid (o.counts.length = o.nodes.length) := by show _ = _; simp [OS.counts]
  have HS : Hid (∀ k (hk : k < o.nodes.length), o.counts.take (k + 1) = o.counts.take k ++ [o.had.getD o.nodes[k] 0]) := fun k hk => by
    rw [List.take_succ_eq_append_getElem (by rw [HL.out]; exact hk)]
    simp [OS.counts]
  have HSZ := hide B1.out.size
  have X0 : Hid (w1.heap[w.heap.size]? = some (.cells (arrC (natI (o.counts.take 0))) 64 (0, 0))) := X1.out
  generalize hgs : w.heap.size = g at *
  clear c2
  have c2 := HN.out _ (HH.out _ B1.out)
  go_wp2
  go_loopw [4, 5, 17] (fun _ _ iv wv => ∃ k : Nat, k ≤ o.nodes.length ∧ iv = .int .i64 k ∧ Hid (wv.heap[g]? = some (.cells (arrC (natI (o.counts.take k))) 64 (0, 0))) ∧ Hid (Below g w wv)) (fun _ _ iv _ => o.nodes.length - (intOf iv).toNat)
  case atStart => exact ⟨0, Nat.zero_le _, rfl, X0, B1⟩
  case round =>
    obtain ⟨k, hk1, rfl, XV, BV⟩ := hrel
    by_cases hlt : k < o.nodes.length
    · obtain ⟨gn, off, hno, z1, z2, z3⟩ := HG.out wr k hlt (HH.out _ BV.out)
      rw [hno]
      have h0 : (0 : Int) ≤ (k : Int) := by omega
      have h1 : (k : Int) < (o.nodes.length : Int) := by omega
      have h7 : (k : Int) < 7 := by omega
      have y0 : (0 : Int) ≤ (o.nodes[k] : Int) := by omega
      have y1 : (o.nodes[k] : Int) < 7 := by omega
      have HE := hide (HS.out k hlt)
      have zl : (natI (o.counts.take k)).length = k := by rw [natI_length, List.length_take, HL.out]; omega
      have hz := box_free XV.out k
      obtain ⟨vk, hvk⟩ : ∃ vk, wr.cell? ⟨g, k, none⟩ = some vk := ⟨_, box_cell XV.out k (Array.getElem?_eq_getElem (by rw [arrC_size (by rw [zl]; omega)]; omega))⟩
      generalize o.nodes[k] = nk at *
      generalize o.had.getD nk 0 = hv at *
      go_wp2
      have XN := box_set XV.out k (.int .i64 (hv : Int))
      have e2 : (arrC (natI (o.counts.take k))).setIfInBounds k (.int .i64 (hv : Int)) = arrC (natI (o.counts.take (k + 1))) := by
        have := arrC_snoc (natI (o.counts.take k)) (hv : Int) (by rw [zl]; omega)
        rw [zl] at this
        rw [this, HE.out]
        simp [natI]
      rw [e2] at XN
      exact ⟨⟨k + 1, by omega, by go_num, XN, BV.out.setCell (Nat.le_refl _) _⟩, by simp [intOf]; omega⟩
    · have hi1 : ¬ (k : Int) < (o.nodes.length : Int) := by omega
      obtain rfl : k = o.nodes.length := by omega
      have XE : Hid (wr.heap[g]? = some (.cells (arrC (natI o.counts)) 64 (0, 0))) := by
        have := XV.out
        rw [List.take_of_length_le (by rw [HL.out]; exact Nat.le_refl _)] at this
        exact this
      clear XV HS HG
      have HP := hide (psort (B := g) o.counts (by rw [HL.out]; omega) XE.out (Nat.le_refl _))
      rw [HL.out] at HP
      have hmi : (o.counts.length - 1) / 2 < (sortI o.counts).length := by rw [sortI_length, HL.out]; omega
      have hmid : (sortI o.counts)[(o.counts.length - 1) / 2] = (midN o.counts : Int) := by
        obtain ⟨_, e⟩ := midI_get o.counts hk.cne
        rw [← e, mid_cast o.counts hk.cne]
      have HM : Hid (∀ wv : World, (∀ i (hi : i < (sortI o.counts).length), wv.cell? ⟨g, i, none⟩ = some (.int .i64 (sortI o.counts)[i])) → wv.cell? ⟨g, (o.nodes.length - 1) / 2, none⟩ = some (.int .i64 (midN o.counts : Int))) := fun wv h => by
        have := h _ hmi
        rw [hmid, HL.out] at this
        exact this
      have hq : Int.tdiv ((o.nodes.length : Int) - 1) 2 = (((o.nodes.length - 1) / 2 : Nat) : Int) := by
        rw [show (o.nodes.length : Int) - 1 = ((o.nodes.length - 1 : Nat) : Int) by omega]
        rfl
      have y0 : (0 : Int) ≤ (((o.nodes.length - 1) / 2 : Nat) : Int) := by omega
      have y1 : (((o.nodes.length - 1) / 2 : Nat) : Int) < (o.nodes.length : Int) := by omega
      have HD : Hid (∀ wv : World, OAt wv L o → wv.frozen? ⟨L.b, 4, none⟩ = false ∧ wv.cell? ⟨L.b, 4, none⟩ = some (.int .i64 o.sure)) := fun wv h => ⟨box_free h.box 4, h.cells.c4⟩
      clear hmid hmi
      go_wp2_with (go_at_call 43; refine HP.out.mono ?_; rintro e w5 ⟨rfl, b5, h5⟩; have B5 := hide (BV.out.trans b5); have c5 := HM.out _ h5; have A5 := hide (HH.out _ B5.out); obtain ⟨f5, d5⟩ := HD.out _ A5.out; clear b5 h5)
      go_end0
      have h9 := A5.out.boxed 4 (.int .i64 (midN o.counts : Int)) (set_sure L o (midN o.counts)) rfl rfl
      refine ⟨rfl, h9.1, (OStep.below ?_).trans h9.2⟩
      rw [hgs]
      exact B5.out
end Go.Proofs.Ytjgbgbgajadgnaa
