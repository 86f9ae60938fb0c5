/-
  What the laws share: the chapter's examples, two lists of texts, a slice of texts that came in.
-/
import Derived.Test.YtlalfehnkhenjabDoorD4
namespace Go.Proofs.YtlalfehnkhenjabDoor
open Go.RowKit

theorem ex_take : takeF ([97, 98, 99] : List UInt8) = ([], 0, 2) := by decide +kernel
theorem ex_all : allF 1 ([] : List UInt8) = ([], 0, 0) := rfl
theorem ex_sum : sumF [49, 50, 51, 52, 53, 54, 55, 56, 57] = 3808858755 := by decide +kernel

set_option maxHeartbeats 2000000 in
set_option maxRecDepth 100000 in
theorem examples_core (F G : ByteArray) (w : World) (hT : Tab w) (hF : F.size = 10) (hG : F ++ ⟨#[120]⟩ = G)
    (HF : Hid (∀ w, Tab w → Calls Tryd.prog 7 #[.string ⟨#[97, 98]⟩] w fun e w' => e = .returned (.tuple #[.string F, .int .i64 0]) ∧ Below w.heap.size w w'))
    (HG : Hid (∀ w, Tab w → Calls Tryd.prog 8 #[.string G] w fun e w' => e = .returned (.tuple #[.string ⟨#[97, 98]⟩, .int .i64 10, .int .i64 0]) ∧ Below w.heap.size w w'))
    (HK : Hid (∀ w, Tab w → Calls Tryd.prog 8 #[.string ⟨#[97, 98, 99]⟩] w fun e w' => e = .returned (.tuple #[.string ⟨#[]⟩, .int .i64 0, .int .i64 2]) ∧ Below w.heap.size w w'))
    (HA : Hid (∀ w, Tab w → Calls Tryd.prog 9 #[.string ⟨#[]⟩] w fun e w' => ∃ ao cap, e = .returned (.tuple #[.slice ao 0 cap, .int .i64 0, .int .i64 0]) ∧ Below w.heap.size w w'))
    (HS : Hid (∀ w, Tab w → Calls Tryd.prog 10 #[.string ⟨#[49, 50, 51, 52, 53, 54, 55, 56, 57]⟩] w fun e w' => e = .returned (.int .u32 3808858755) ∧ w' = w)) :
    Calls Tryd.prog 6 #[] w fun e w' => e = .returned (.bool true) ∧ Below w.heap.size w w' := by
  have HT := hide hT
  clear hT
  go_enter Tryd.func6, Tryd.ntmps6
  go_wp2_with fail
  refine (HF.out _ HT.out).mono ?_
  rintro e w1 ⟨rfl, b1⟩
  have B1 := hide b1
  have T1 := hide (HT.out.below B1.out)
  clear b1
  go_wp2_with fail
  refine (HG.out _ T1.out).mono ?_
  rintro e w2 ⟨rfl, b2⟩
  have B2 := hide (B1.out.trans (b2.mono B1.out.size))
  have T2 := hide (HT.out.below B2.out)
  clear b2
  go_wp2_with fail
  refine (HK.out _ T2.out).mono ?_
  rintro e w3 ⟨rfl, b3⟩
  have B3 := hide (B2.out.trans (b3.mono B2.out.size))
  have T3 := hide (HT.out.below B3.out)
  clear b3
  go_wp2_with fail
  refine (HA.out _ T3.out).mono ?_
  rintro e w4 ⟨ao, cap, rfl, b4⟩
  have B4 := hide (B3.out.trans (b4.mono B3.out.size))
  have T4 := hide (HT.out.below B4.out)
  clear b4
  go_wp2_with fail
  refine (HS.out _ T4.out).mono ?_
  rintro e w5 ⟨rfl, rfl⟩
  go_wp2
  go_ret
  exact ⟨rfl, B4.out⟩

theorem examples_any (w : World) (hT : Tab w) : Calls Tryd.prog 6 #[] w fun e w' => e = .returned (.bool true) ∧ Below w.heap.size w w' := by
  have hfr : frameF [97, 98] = (frameB [97, 98], 0) := rfl
  refine examples_core ⟨(frameB [97, 98]).toArray⟩ _ w hT (by rw [mk_size, frameB_length]; rfl) rfl ?_ ?_ ?_ ?_ ?_
  · intro w hT
    have h := frame_any ⟨#[97, 98]⟩ w hT (by decide)
    exact h
  · intro w hT
    have h := take_any (⟨(frameB [97, 98]).toArray⟩ ++ ⟨#[120]⟩) w hT (by rw [ByteArray.size_append, mk_size, frameB_length]; decide)
    rw [list_append, mk_data, show (⟨#[120]⟩ : ByteArray).data.toList = [120] from rfl, take_frame _ _ (by decide)] at h
    exact h
  · intro w hT
    have h := take_any ⟨#[97, 98, 99]⟩ w hT (by decide)
    rw [show (⟨#[97, 98, 99]⟩ : ByteArray).data.toList = [97, 98, 99] from rfl, ex_take] at h
    exact h
  · intro w hT
    refine (all_any ⟨#[]⟩ w hT (by decide) _ (AI.init _) (by decide)).mono ?_
    rintro e w' ⟨v, rfl, hown, hb⟩
    obtain ⟨ao, cap, rfl⟩ := own_shape hown
    exact ⟨ao, cap, rfl, hb⟩
  · intro w hT
    have h := sum_any ⟨#[49, 50, 51, 52, 53, 54, 55, 56, 57]⟩ w (by decide) hT
    rw [show (⟨#[49, 50, 51, 52, 53, 54, 55, 56, 57]⟩ : ByteArray).data.toList = [49, 50, 51, 52, 53, 54, 55, 56, 57] from rfl, ex_sum] at h
    exact h

/-- A slice of texts. -/
def StrsAt (w : World) (ao : Option Addr) (l : List (List UInt8)) : Prop :=
  ∀ (i : Nat) (h : i < l.length), ∃ b off, ao = some ⟨b, off, none⟩ ∧ b < w.heap.size ∧ w.cell? ⟨b, off + i, none⟩ = some (.string ⟨l[i].toArray⟩)
theorem StrsAt.below {w w' : World} {ao : Option Addr} {l : List (List UInt8)} (h : StrsAt w ao l) (hb : Below w.heap.size w w') : StrsAt w' ao l := by
  intro i hi
  obtain ⟨b, off, h1, h2, h3⟩ := h i hi
  exact ⟨b, off, h1, by have := hb.size; omega, (hb.cell (p := ⟨b, off + i, none⟩) h2).trans h3⟩
theorem StrsAt.take {w : World} {ao : Option Addr} {l : List (List UInt8)} (h : StrsAt w ao l) (n : Nat) : StrsAt w ao (l.take n) := by
  intro i hi
  rw [List.length_take] at hi
  obtain ⟨b, off, h1, h2, h3⟩ := h i (by omega)
  exact ⟨b, off, h1, h2, by simpa using h3⟩
theorem strs_of_own {w : World} {B : Nat} {v : Value} {l : List (List UInt8)} (h : w.ownsRow B 9 1 v l.length (strCells l)) : ∃ ao cap, v = .slice ao l.length cap ∧ StrsAt w ao l := by
  rcases h.2 with ⟨h1, h2⟩ | ⟨g, cap, cur, hv, hg, hh, hn, _, hs, ht⟩
  · exact ⟨none, 0, by rw [h1, h2], fun i hi => by omega⟩
  · refine ⟨_, _, hv, fun i hi => ⟨g, 0, rfl, (Array.getElem?_eq_some_iff.1 hh).1, ?_⟩⟩
    have e : (strCells l)[i]? = some (.string ⟨l[i].toArray⟩) := by simp [strCells, hi]
    rw [Lib.cell_of_heap hh, ← e, ← ht, List.getElem?_take, if_pos (by omega)]
    simp


end Go.Proofs.YtlalfehnkhenjabDoor
