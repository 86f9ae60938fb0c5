/-
  Index, as it runs.
-/
import Derived.Test.YtgnehnlmbodijaaDoorZI9
namespace Go.Proofs.YtgnehnlmbodijaaDoor
open Go.RowKit

def pkF (e n : Nat) : List Nat := (List.range n).filter fun i => decide (i % e = 0)
theorem pk_one (e i : Nat) : pkF e (i + 1) = if i % e = 0 then pkF e i ++ [i] else pkF e i := by
  unfold pkF
  rw [List.range_succ, List.filter_append]
  split
  · rename_i h; simp [h]
  · rename_i h; simp [h]
theorem pk_far (e i : Nat) (h0 : i % e = 0) (j : Nat) (hj : j < e) : pkF e (i + 1 + j) = pkF e i ++ [i] := by
  induction j with
  | zero => rw [pk_one, if_pos h0]
  | succ j ih =>
    rw [show i + 1 + (j + 1) = (i + 1 + j) + 1 by omega, pk_one, if_neg, ih (by omega)]
    intro h
    have e1 : (i + 1 + j) % e = (1 + j) % e := by rw [Nat.add_assoc, Nat.add_mod, h0, Nat.zero_add, Nat.mod_mod]
    rw [e1, Nat.mod_eq_of_lt (by omega)] at h
    omega
theorem pk_step (e i n : Nat) (he : 1 ≤ e) (h0 : i % e = 0) (hi : i < n) : pkF e (min (i + e) n) = pkF e i ++ [i] := by
  have : min (i + e) n = i + 1 + (min (i + e) n - (i + 1)) := by omega
  rw [this, pk_far e i h0 _ (by omega)]
theorem pk_le (e n : Nat) : (pkF e n).length ≤ n := by
  unfold pkF
  exact Nat.le_trans (List.length_filter_le _ _) (by simp)
theorem pk_lt {e n i : Nat} (h : i ∈ pkF e n) : i < n := by
  unfold pkF at h
  rw [List.mem_filter, List.mem_range] at h
  exact h.1
/-- The entry of the record at a place. -/
def entF (l : List (Rec × Nat)) (i : Nat) : Int × Int := match l[i]? with
  | some p => (p.1.off, (p.2 : Int))
  | none => (0, 0)
def idxF (e : Nat) (l : List (Rec × Nat)) : List (Int × Int) := (pkF e l.length).map (entF l)
theorem entF_at {l : List (Rec × Nat)} {i : Nat} (h : i < l.length) : entF l i = (l[i].1.off, (l[i].2 : Int)) := by
  unfold entF
  rw [List.getElem?_eq_getElem h]
theorem entCells_snoc (l : List (Int × Int)) (p : Int × Int) : entCells (l ++ [p]) = entCells l ++ [.int .i64 p.1, .int .i64 p.2] := by simp [entCells]
theorem row_at {w : World} {B : Nat} {e : TypeId} {z : Nat} {ao : Option Addr} {n c : Nat} {xs : List Value} (h : w.ownsRow B e z (.slice ao n c) n xs) (hn : 0 < n) : ∃ g, ao = some ⟨g, 0, none⟩ ∧ g < w.heap.size ∧ ∀ k, k < n * z → w.cell? ⟨g, k, none⟩ = xs[k]? := by
  rcases h.2 with ⟨h1, h2⟩ | ⟨g, cap, cur, hv, hg, hh, hn2, hc, hs, ht⟩
  · omega
  · injection hv with e1 e2 e3
    refine ⟨g, e1, (Array.getElem?_eq_some_iff.1 hh).1, fun k hk => ?_⟩
    rw [Lib.cell_of_heap hh, ← ht, List.getElem?_take, if_pos hk]
    simp
set_option maxHeartbeats 1000000 in
theorem index_bad (base : Int) (s : ByteArray) (every : Int) (w : World) (he : every < 1) :
    Calls Tryd.prog 17 #[.int .i64 base, .string s, .int .i64 every] w fun e w' => e = .returned (.tuple #[.slice none 0 0, .int .i64 1]) ∧ w' = w := by
  go_enter Tryd.func17, Tryd.ntmps17
  go_wp2
  go_ret2
  exact ⟨rfl, rfl⟩
set_option maxHeartbeats 4000000 in
theorem index_any (base : Int) (s : ByteArray) (e : Nat) (w : World) (hT : Tab w) (h63 : s.size ≤ 9223372036854775807) (he : 1 ≤ e) (he2 : e ≤ 9223372036854775807) (hR : (scanF base s.data.toList).1.length ≤ 1099511627776) :
    Calls Tryd.prog 17 #[.int .i64 base, .string s, .int .i64 e] w fun e' w' => ∃ v, e' = .returned (.tuple #[v, .int .i64 0]) ∧ w'.ownsRow w.heap.size 44 2 v (idxF e (scanF base s.data.toList).1).length (entCells (idxF e (scanF base s.data.toList).1)) ∧ Below w.heap.size w w' := by
  have HA := hide (readerOf_any base s h63 w)
  have HT := hide hT
  have hsz : s.data.toList.length = s.size := by simp
  have e0 : fromF base 0 (s.size : Int) 0 s.data.toList = scanF base s.data.toList := by rw [← hsz]; exact fromF_scan base _
  have HG : Hid (∀ g W, Tab W → W.heap[g]? = some (readerO s base 0 s.size 0) → Calls Tryd.prog 33 #[.pointer (some ⟨g, 0, none⟩)] W fun e w' => e = .returned (.tuple #[]) ∧ GoneOn W g s 0 s.size (scanF base s.data.toList) w') := fun g W hTW hb => by
    have := goOn_any g s base 0 s.size 0 W hTW h63 (Nat.zero_le _) hb (by rw [e0]; exact hR)
    rw [e0] at this
    exact this
  generalize scanF base s.data.toList = R at *
  have he3 : ¬ (e : Int) < 1 := by omega
  clear hT e0 hsz
  simp only [readerV] at HA
  go_enter Tryd.func17, Tryd.ntmps17
  go_wp2_with fail
  refine HA.out.mono ?_
  rintro e9 w1 ⟨rfl, b1⟩
  have B1 : Hid (Below w.heap.size w (w1.alloc (readerO s base 0 s.size 0))) := b1.alloc b1.size _
  have hz := b1.size
  have T1 := hide (HT.out.below B1.out)
  clear b1 HA
  go_wp2_with fail
  refine (HG.out w1.heap.size _ T1.out (heap_alloc_new w1 _)).mono ?_
  rintro e9 w2 ⟨rfl, hgo⟩
  have B2 := hide (gone_all hgo B1.out hz)
  obtain ⟨lst, ro, bo, hbox, hrow, hbeg, _⟩ := hgo
  obtain ⟨ra, rc, rfl⟩ := own_slice hrow
  obtain ⟨ba, bc, rfl⟩ := own_slice hbeg
  have hgl : w1.heap.size < w2.heap.size := (Array.getElem?_eq_some_iff.1 hbox).1
  have HB := hide hbox
  have HO := hide hrow
  have HP := hide hbeg
  generalize w1.heap.size = g at *
  clear hrow hbox hbeg HG T1 B1
  go_wp2
  go_loopw [9, 10] (fun xv iv wv => ∃ (q : Nat) (va : Option Addr) (vc : Nat), iv = .int .i64 q ∧ q % e = 0 ∧ q ≤ R.1.length + e ∧ xv = .slice va (pkF e (min q R.1.length)).length vc ∧ Hid (Below w2.heap.size w2 wv) ∧ Hid (wv.ownsRow w2.heap.size 44 2 (.slice va (pkF e (min q R.1.length)).length vc) (pkF e (min q R.1.length)).length (entCells ((pkF e (min q R.1.length)).map (entF R.1))))) (fun _ iv _ => R.1.length + e - (intOf iv).toNat)
  case atStart => exact ⟨0, none, 0, rfl, by simp, by omega, by simp [pkF], Below.refl _ _, by simp [pkF, entCells]; exact nil_own _ _ _ _⟩
  case round =>
    obtain ⟨q, va, vc, rfl, hq0, hq1, rfl, BV, OV⟩ := hrel
    obtain ⟨⟨c0, c1, c2, c3, c4, c5, c6, c7⟩, _⟩ := box8 ((BV.out.block g hgl).trans HB.out)
    by_cases hlt : q < R.1.length
    · have hmin : min q R.1.length = q := by omega
      rw [hmin] at OV ⊢
      have hq2 : q = 0 ∨ e ≤ q := by
        by_cases h : e ≤ q
        · exact .inr h
        · rw [Nat.mod_eq_of_lt (by omega)] at hq0; exact .inl hq0
      have hpk := pk_le e q
      obtain ⟨rg, hrg, hrl, hrc⟩ := row_at HO.out (by omega)
      obtain ⟨bg, hbg, hbl, hbc⟩ := row_at HP.out (by omega)
      subst hrg hbg
      have d0 : _ = some (Value.int .i64 R.1[q].1.off) := ((BV.out.cell (p := ⟨rg, q * 5, none⟩) hrl).trans (hrc (q * 5) (by omega))).trans (by have := recCells_get R.1 q 0 hlt (by omega); rw [Nat.add_zero] at this; rw [this]; rfl)
      have d1 : _ = some (Value.int .i64 (R.1[q].2 : Int)) := ((BV.out.cell (p := ⟨bg, q, none⟩) hbl).trans (hbc q (by omega))).trans (by simp [posCells, List.getElem?_eq_getElem hlt])
      have hi0 : (0 : Int) ≤ (q : Int) := by omega
      have hi1 : (q : Int) < (R.1.length : Int) := by omega
      have k0 : w2.cell? ⟨g, 0, none⟩ = some (.slice (some ⟨rg, 0, none⟩) R.1.length rc) := (box8 HB.out).1.1
      have k1 : w2.cell? ⟨g, 1, none⟩ = some (.slice (some ⟨bg, 0, none⟩) R.1.length bc) := (box8 HB.out).1.2.1
      have k2 : w2.cell? ⟨rg, q * 5, none⟩ = some (.int .i64 R.1[q].1.off) := (BV.out.cell (p := ⟨rg, q * 5, none⟩) hrl).symm.trans d0
      have k3 : w2.cell? ⟨bg, q, none⟩ = some (.int .i64 (R.1[q].2 : Int)) := (BV.out.cell (p := ⟨bg, q, none⟩) hbl).symm.trans d1
      clear hrc hbc
      go_upto_region 9 with fail
      refine reg_all (ireg9_any (by kernel_rfl) hlt (by omega) BV OV hgl hrl hbl k0 k1 k2 k3 ?_)
      intro v26 v27 v28 v29 v30 v31 v32 v33 v34 v35 v36 v37 v38 v39 v40 v41 v42 g3 cap3 w3 bw hown3
      have BW := hide bw
      have OW : Hid (w3.ownsRow w2.heap.size 44 2 (.slice (some ⟨g3, 0, none⟩) (pkF e (min (q + e) R.1.length)).length cap3) (pkF e (min (q + e) R.1.length)).length (entCells ((pkF e (min (q + e) R.1.length)).map (entF R.1)))) := by
        rw [pk_step e q R.1.length he hq0 hlt, List.map_append, List.map_singleton, entCells_snoc, entF_at hlt, List.length_append, List.length_singleton]
        exact hown3
      have hw1 : wrap64 ((q : Int) + (e : Int)) = ((q + e : Nat) : Int) := by rw [in64 _ (by omega) (by omega)]; omega
      have hlen : (pkF e (min (q + e) R.1.length)).length = (pkF e q).length + 1 := by rw [pk_step e q R.1.length he hq0 hlt]; simp
      clear hown3 bw
      go_wp2
      go_roundw
      case rel => exact ⟨q + e, some ⟨g3, 0, none⟩, cap3, by rw [hw1], by rw [Nat.add_mod_right]; exact hq0, by omega, by rw [hlen], BW.out, OW.out⟩
      case measure =>
        rw [hw1]
        show R.1.length + e - ((q + e : Nat) : Int).toNat < R.1.length + e - (q : Int).toNat
        clear hw1 hlen
        omega
    · have hmin : min q R.1.length = R.1.length := by omega
      rw [hmin] at OV ⊢
      have hi1 : ¬ (q : Int) < (R.1.length : Int) := by omega
      have OZ : Hid (wr.ownsRow w.heap.size 44 2 (.slice va (pkF e R.1.length).length vc) (idxF e R.1).length (entCells (idxF e R.1))) := by
        have := own_base OV.out (B' := w.heap.size) B2.out.size
        unfold idxF
        rw [List.length_map]
        exact this
      go_wp2
      go_ret2
      exact ⟨_, rfl, OZ.out, B2.out.trans (BV.out.mono B2.out.size)⟩
end Go.Proofs.YtgnehnlmbodijaaDoor
