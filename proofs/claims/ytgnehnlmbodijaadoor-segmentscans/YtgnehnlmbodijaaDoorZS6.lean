/-
  readerOf, Scan, within, as they run; a list of records in memory.
-/
import Derived.Test.YtgnehnlmbodijaaDoorZS5
namespace Go.Proofs.YtgnehnlmbodijaaDoor
open Go.RowKit

def readerV (s : ByteArray) (base : Int) : Value := .agg #[.slice none 0 0, .slice none 0 0, .int .i64 0, .int .i64 0, .string s, .int .i64 base, .int .i64 0, .int .i64 s.size]
set_option maxHeartbeats 1000000 in
theorem readerOf_any (base : Int) (s : ByteArray) (_h63 : s.size ≤ 9223372036854775807) (w : World) :
    Calls Tryd.prog 32 #[.int .i64 base, .string s] w fun e w' => e = .returned (readerV s base) ∧ Below w.heap.size w w' := by
  go_enter Tryd.func32, Tryd.ntmps32
  go_wp2
  refine bodyPost_ret (v := readerV s base) (by simp [results, Tryd.results32, go_sem, readerV]) rfl ⟨rfl, ?_⟩
  exact (Below.refl _ _).alloc (Nat.le_refl _) _

/-- A list of records that is there from an address on. -/
def RecsAt (w : World) (v : Value) (l : List Rec) : Prop := ∃ ao cap, v = .slice ao l.length cap ∧ (cap : Int) ≤ 9223372036854775807 ∧ ∀ i (h : i < l.length), ∃ b off, ao = some ⟨b, off, none⟩ ∧ b < w.heap.size ∧ ∀ j, j < 5 → w.cell? ⟨b, off + i * 5 + j, none⟩ = l[i].cells[j]?
theorem recCells_get (out : List (Rec × Nat)) (i j : Nat) (hi : i < out.length) (hj : j < 5) : (recCells out)[i * 5 + j]? = (out[i].1.cells)[j]? := by
  induction out generalizing i with
  | nil => simp at hi
  | cons x l ih =>
    have e : recCells (x :: l) = x.1.cells ++ recCells l := by simp [recCells]
    have h3 : x.1.cells.length = 5 := rfl
    rw [e]
    cases i with
    | zero => rw [List.getElem?_append_left (by omega)]; simp
    | succ i =>
      rw [List.getElem?_append_right (by omega), h3]
      have := ih i (by simpa using hi)
      rw [show (i + 1) * 5 + j - 5 = i * 5 + j by omega, this]
      simp
theorem recs_of_own {w : World} {B : Nat} {v : Value} {out : List (Rec × Nat)} (h : w.ownsRow B 23 5 v out.length (recCells out)) : RecsAt w v (out.map (·.1)) := by
  rcases h.2 with ⟨h1, h2⟩ | ⟨g, cap, cur, hv, hg, hh, hn, hc, hs, ht⟩
  · exact ⟨none, 0, by rw [h1, List.length_map, h2], by omega, fun i hi => by rw [List.length_map] at hi; omega⟩
  · refine ⟨some ⟨g, 0, none⟩, cap, by rw [List.length_map]; exact hv, ?_, fun i hi => ⟨g, 0, rfl, (Array.getElem?_eq_some_iff.1 hh).1, ?_⟩⟩
    · unfold maxLen at hc
      omega
    · intro j hj
      rw [List.length_map] at hi
      rw [Lib.cell_of_heap hh, List.getElem_map, ← recCells_get out i j hi hj, ← ht, List.getElem?_take, if_pos (by omega)]
      simp
theorem RecsAt.below {w w' : World} {v : Value} {l : List Rec} (h : RecsAt w v l) (hb : Below w.heap.size w w') : RecsAt w' v l := by
  obtain ⟨ao, cap, hv, hc, ha⟩ := h
  refine ⟨ao, cap, hv, hc, fun i hi => ?_⟩
  obtain ⟨b, off, h1, h2, h3⟩ := ha i hi
  exact ⟨b, off, h1, by have := hb.size; omega, fun j hj => (hb.cell (p := ⟨b, off + i * 5 + j, none⟩) h2).trans (h3 j hj)⟩
theorem own_base {w : World} {B B' : Nat} {e : TypeId} {z : Nat} {v : Value} {n : Nat} {xs : List Value} (h : w.ownsRow B e z v n xs) (hB : B' ≤ B) : w.ownsRow B' e z v n xs := by
  refine ⟨h.1, ?_⟩
  rcases h.2 with h2 | ⟨g, cap, cur, hv, hg, r⟩
  · exact .inl h2
  · exact .inr ⟨g, cap, cur, hv, Nat.le_trans hB hg, r⟩
abbrev readerO (s : ByteArray) (base low most : Int) (pos : Nat) : Obj := .cells #[.slice none 0 0, .slice none 0 0, .int .i64 pos, .int .i64 0, .string s, .int .i64 base, .int .i64 low, .int .i64 most] 73
theorem gone_all {w W w2 : World} {g : Nat} {s : ByteArray} {low most : Int} {R : List (Rec × Nat) × Nat × Int} (h : GoneOn W g s low most R w2) (hw : Below w.heap.size w W) (hg : w.heap.size ≤ g) : Below w.heap.size w w2 := by
  obtain ⟨_, _, _, _, _, _, ht⟩ := h
  exact hw.trans (ht.toBelow hw.size fun k hk e => by omega)
set_option maxHeartbeats 1000000 in
theorem scan_any (base : Int) (s : ByteArray) (w : World) (hT : Tab w) (h63 : s.size ≤ 9223372036854775807) (hR : (scanF base s.data.toList).1.length ≤ 1099511627776) :
    Calls Tryd.prog 15 #[.int .i64 base, .string s] w fun e w' => ∃ v, e = .returned (.tuple #[v, .int .i64 (scanF base s.data.toList).2.1, .int .i64 (scanF base s.data.toList).2.2]) ∧ w'.ownsRow w.heap.size 23 5 v (scanF base s.data.toList).1.length (recCells (scanF base s.data.toList).1) ∧ Below w.heap.size w w' := by
  have HA := hide (readerOf_any base s h63 w)
  have HT := hide hT
  have hsz : s.data.toList.length = s.size := by simp
  have e0 : fromF base 0 (s.size : Int) 0 s.data.toList = scanF base s.data.toList := by rw [← hsz]; exact fromF_scan base _
  have HG : Hid (∀ g W, Tab W → W.heap[g]? = some (readerO s base 0 s.size 0) → Calls Tryd.prog 33 #[.pointer (some ⟨g, 0, none⟩)] W fun e w' => e = .returned (.tuple #[]) ∧ GoneOn W g s 0 s.size (scanF base s.data.toList) w') := fun g W hTW hb => by
    have := goOn_any g s base 0 s.size 0 W hTW h63 (Nat.zero_le _) hb (by rw [e0]; exact hR)
    rw [e0] at this
    exact this
  generalize scanF base s.data.toList = R at *
  clear hT e0 hsz
  simp only [readerV] at HA
  go_enter Tryd.func15, Tryd.ntmps15
  go_wp2_with fail
  refine HA.out.mono ?_
  rintro e w1 ⟨rfl, b1⟩
  have B1 : Hid (Below w.heap.size w (w1.alloc (readerO s base 0 s.size 0))) := b1.alloc b1.size _
  have hz := b1.size
  have T1 := hide (HT.out.below B1.out)
  clear b1 HA
  go_wp2_with fail
  refine (HG.out w1.heap.size _ T1.out (heap_alloc_new w1 _)).mono ?_
  rintro e w2 ⟨rfl, hgo⟩
  have B2 := hide (gone_all hgo B1.out hz)
  obtain ⟨lst, ro, bo, hbox, hrow, _, _⟩ := hgo
  obtain ⟨⟨c0, c1, c2, c3, c4, c5, c6, c7⟩, _⟩ := box8 hbox
  have HO := hide (own_base hrow (B' := w.heap.size) (by simp; omega))
  clear hrow hbox HG
  go_upto_region 3 with fail
  go_quiet (fail)
  go_wp2
  refine bodyPost_ret (v := .tuple #[ro, .int .i64 R.2.1, .int .i64 R.2.2]) (by simp [results, Tryd.results15, go_sem]) rfl ?_
  exact ⟨ro, rfl, K.own_below HO.out (below_drewN (Below.refl _ w2) nq) (Nat.le_refl _), below_drewN B2.out nq⟩
end Go.Proofs.YtgnehnlmbodijaaDoor
