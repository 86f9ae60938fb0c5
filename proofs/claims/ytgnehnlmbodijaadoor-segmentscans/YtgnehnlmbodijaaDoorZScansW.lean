/-
  SegmentScans, as it runs (texts of at most 1048576 bytes).
-/
import Derived.Test.YtgnehnlmbodijaaDoorZFindsW
namespace Go.Proofs.YtgnehnlmbodijaaDoor
open Go.RowKit

/-- The row that is emptied: a block of its own, behind what was there. -/
structure Emp (w0 W : World) (g cap : Nat) : Prop where
  below : Below w0.heap.size w0 W
  new : w0.heap.size ≤ g
  row : ∃ cur, W.heap[g]? = some (.cells cur 23 (0, 0)) ∧ cur.size = cap * 5
theorem Emp.at {w0 W : World} {g cap : Nat} (h : Emp w0 W g cap) (i : Nat) (hi : i < cap * 5) : (∃ v, W.cell? ⟨g, i, none⟩ = some v) ∧ W.frozen? ⟨g, i, none⟩ = false := by
  obtain ⟨cur, hc, hs⟩ := h.row
  exact ⟨⟨cur[i]'(by omega), by rw [Lib.cell_of_heap hc]; exact Array.getElem?_eq_getElem (by omega)⟩, Lib.frozen_of_heap hc i⟩
theorem Emp.set {w0 W : World} {g cap : Nat} (h : Emp w0 W g cap) (i : Nat) (v : Value) : Emp w0 (W.setCell ⟨g, i, none⟩ v) g cap := by
  obtain ⟨cur, hc, hs⟩ := h.row
  refine ⟨h.below.setCell (p := ⟨g, i, none⟩) h.new _, h.new, cur.set! i v, ?_, by simpa using hs⟩
  simp [World.setCell, Array.getElem?_modify, hc]
theorem emp_of {w0 W : World} {n cap : Nat} {ao : Option Addr} {xs : List Value} (h : W.ownsRow w0.heap.size 23 5 (.slice ao n cap) n xs) (hb : Below w0.heap.size w0 W) (hn : 0 < n) : ∃ g, ao = some ⟨g, 0, none⟩ ∧ n ≤ cap ∧ Emp w0 W g cap := by
  rcases h.2 with ⟨_, h0⟩ | ⟨g, c, cur, hv, hg, hh, hle, _, hs, _⟩
  · omega
  · injection hv with h1 h2 h3
    subst h3
    exact ⟨g, h1, hle, hb, hg, cur, hh, hs⟩
set_option maxHeartbeats 4000000 in
set_option maxRecDepth 20000 in
theorem scans_core (base : Int) (s : ByteArray) (w : World) (hT : Tab w) (L : List (Rec × Nat)) (N : Nat) (er : Int) (hol : L.length ≤ 131072)
    (HW : Hid (∀ W, Calls Tryd.prog 14 #[.int .i64 base, .string s] W fun e w' => ∃ v, e = .returned (.tuple #[v, .int .i64 N, .int .i64 er]) ∧ w'.ownsRow W.heap.size 23 5 v L.length (recCells L) ∧ Below W.heap.size W w'))
    (HS : Hid (∀ W, Tab W → Calls Tryd.prog 15 #[.int .i64 base, .string s] W fun e w' => ∃ v, e = .returned (.tuple #[v, .int .i64 N, .int .i64 er]) ∧ w'.ownsRow W.heap.size 23 5 v L.length (recCells L) ∧ Below W.heap.size W w')) :
    Calls Tryd.prog 4 #[.int .i64 base, .string s] w fun e w' => e = .returned (.bool true) ∧ Below w.heap.size w w' := by
  have HE := hide (examples_any w hT)
  have HT := hide hT
  clear hT
  go_enter Tryd.func4, Tryd.ntmps4
  go_wp2_with fail
  refine HE.out.mono ?_
  rintro e w1 ⟨rfl, b1⟩
  have B1 := hide b1
  clear b1 HE
  go_wp2_with fail
  refine (HW.out _).mono ?_
  rintro e w2 ⟨v2, rfl, o2, b2⟩
  have B2 := hide (B1.out.trans (b2.mono B1.out.size))
  have R2 := hide (recs_of_own o2)
  obtain ⟨xo, xc, rfl⟩ := own_slice o2
  clear o2 b2 B1 HW
  go_wp2
  go_loopw [9] (fun iv wv => ∃ k : Nat, k ≤ 2 ∧ iv = .int .i64 k ∧ Hid (Below w2.heap.size w2 wv)) (fun iv _ => 2 - (intOf iv).toNat)
  case atStart => exact ⟨0, by omega, rfl, Below.refl _ _⟩
  case round =>
    obtain ⟨k, hk, rfl, BV⟩ := hrel
    by_cases hk2 : k < 2
    · have B3 := hide (B2.out.trans (BV.out.mono B2.out.size))
      have R3 := hide (R2.out.below BV.out)
      generalize wr = wa at *
      go_wp2_with fail
      refine (HS.out _ (HT.out.below B3.out)).mono ?_
      rintro e w4 ⟨v4, rfl, o4, b4⟩
      have B4 := hide (BV.out.trans (b4.mono BV.out.size))
      have HRE := hide (records_same _ _ _ w4 (by rw [List.length_map]; omega) (recs_of_own o4) (R3.out.below b4))
      obtain ⟨yo, yc, rfl⟩ := own_slice o4
      have O4 := hide o4
      have C4 := hide b4
      clear o4 b4 R3
      go_wp2_with fail
      refine HRE.out.mono ?_
      rintro e w5 ⟨rfl, nq, rfl⟩
      have hbn : Below w4.heap.size w4 (w4.drewN nq) := below_drewN (Below.refl _ w4) nq
      have O5 := hide (K.own_below O4.out hbn (Nat.le_refl _))
      have C5 := hide (C4.out.trans (hbn.mono C4.out.size))
      generalize w4.drewN nq = w5 at *
      clear hbn O4 C4 B4 HRE
      have hEM : 0 < L.length → ∃ g, yo = some ⟨g, 0, none⟩ ∧ L.length ≤ yc ∧ Emp wa w5 g yc := fun h => emp_of O5.out C5.out h
      have HEM := hide hEM
      clear hEM
      go_wp2
      go_loopw [14] (fun iv wv => ∃ j : Nat, j ≤ L.length ∧ iv = .int .i64 j ∧ Hid (Below wa.heap.size wa wv) ∧ Hid (0 < L.length → ∃ g, yo = some ⟨g, 0, none⟩ ∧ L.length ≤ yc ∧ Emp wa wv g yc)) (fun iv _ => L.length - (intOf iv).toNat)
      case atStart => exact ⟨0, Nat.zero_le _, rfl, C5.out, HEM.out⟩
      case round =>
        obtain ⟨j, hj, rfl, CV, HEV⟩ := hrel
        by_cases hjl : j < L.length
        · obtain ⟨g, rfl, hcap, hemp⟩ := HEV.out (by omega)
          obtain ⟨⟨q0, c0⟩, f0⟩ := hemp.at (j * 5) (by omega)
          obtain ⟨⟨q1, c1⟩, f1⟩ := hemp.at (j * 5 + 1) (by omega)
          obtain ⟨⟨q2, c2⟩, f2⟩ := hemp.at (j * 5 + 2) (by omega)
          obtain ⟨⟨q3, c3⟩, f3⟩ := hemp.at (j * 5 + 3) (by omega)
          obtain ⟨⟨q4, c4⟩, f4⟩ := hemp.at (j * 5 + 4) (by omega)
          have HM := hide hemp
          have hi0 : (0 : Int) ≤ (j : Int) := by omega
          have hi1 : (j : Int) < (L.length : Int) := by omega
          clear hemp HEV HEM
          go_wp2
          go_roundw
          case rel =>
            have h5 := ((((HM.out.set (j * 5) (.int .i64 0)).set (j * 5 + 1) (.string ⟨#[]⟩)).set (j * 5 + 2) (.int .i64 0)).set (j * 5 + 3) (.string ⟨#[]⟩)).set (j * 5 + 4) (.string ⟨#[]⟩)
            exact ⟨j + 1, by omega, by go_num, h5.below, fun _ => ⟨g, rfl, hcap, h5⟩⟩
          case measure => simp [intOf]; omega
        · have hi1 : ¬ (j : Int) < (L.length : Int) := by omega
          have BW := hide (BV.out.trans (CV.out.mono BV.out.size))
          go_wp2
          go_roundw
          case rel => exact ⟨k + 1, by omega, by go_num, BW.out⟩
          case measure => simp [intOf]; omega
    · have hk2' : ¬ (k : Int) < 2 := by omega
      go_wp2
      go_ret
      exact ⟨rfl, B2.out.trans (BV.out.mono B2.out.size)⟩
theorem scans_walk (base : Int) (s : ByteArray) (w : World) (hT : Tab w) (hs : s.size ≤ 1048576) :
    Calls Tryd.prog 4 #[.int .i64 base, .string s] w fun e w' => e = .returned (.bool true) ∧ Below w.heap.size w w' := by
  have hm := scan_many base s
  exact scans_core base s w hT (scanF base s.data.toList).1 (scanF base s.data.toList).2.1 (scanF base s.data.toList).2.2 (by omega) (fun W => rScan_any base s W hs _ rfl) (fun W hTW => scan_any base s W hTW (by omega) (by omega))
end Go.Proofs.YtgnehnlmbodijaaDoor
