/-
  carillonref06's Index, as it runs.
-/
import Derived.Test.YtgnehnlmbodijaaDoorZR9
namespace Go.Proofs.YtgnehnlmbodijaaDoor
open Go.RowKit

theorem rindex_bad (base : Int) (s : ByteArray) (every : Int) (w : World) (he : every < 1) :
    Calls Tryd.prog 18 #[.int .i64 base, .string s, .int .i64 every] w fun e w' => e = .returned (.tuple #[.slice none 0 0, .bool false]) ∧ w' = w := by
  go_enter Tryd.func18, Tryd.ntmps18
  go_wp2
  go_ret2
  exact ⟨rfl, rfl⟩
set_option maxHeartbeats 4000000 in
set_option maxRecDepth 20000 in
theorem rindex_any (base : Int) (s : ByteArray) (e : Nat) (w : World) (hs : s.size ≤ 1048576) (he : 1 ≤ e) (he2 : e ≤ 9223372036854775807) (L : List (Rec × Nat)) (hR : (scanF base s.data.toList).1 = L) (hol : L.length ≤ 131072) :
    Calls Tryd.prog 18 #[.int .i64 base, .string s, .int .i64 e] w fun e' w' => ∃ v, e' = .returned (.tuple #[v, .bool true]) ∧ w'.ownsRow w.heap.size 44 2 v (idxF e L).length (entCells (idxF e L)) ∧ Below w.heap.size w w' := by
  have HC := hide (rscan_any base s w hs _ rfl)
  rw [hR] at HC
  clear hR
  generalize (scanF base s.data.toList).2.1 = n1 at *
  generalize (scanF base s.data.toList).2.2 = n2 at *
  go_enter Tryd.func18, Tryd.ntmps18
  go_wp2_with fail
  refine HC.out.mono ?_
  rintro e' w7 ⟨v, a, rfl, ho, ha, hb⟩
  obtain ⟨oo, oc, rfl⟩ := own_slice ho
  obtain ⟨ao, ac, rfl⟩ := own_slice ha
  have O7 := hide ho
  have A7 := hide ha
  have B7 := hide hb
  clear ho ha hb HC
  go_wp2
  go_loopw [12, 13] (fun xv iv wv => ∃ (k : Nat) (qo : Option Addr) (qc : Nat), k ≤ L.length ∧ xv = .slice qo (pkF e k).length qc ∧ iv = .int .i64 k ∧ Hid (Below w7.heap.size w7 wv) ∧ Hid (wv.ownsRow w7.heap.size 44 2 (.slice qo (pkF e k).length qc) (pkF e k).length (entCells ((pkF e k).map (entF L))))) (fun _ iv _ => L.length - (intOf iv).toNat)
  case atStart => exact ⟨0, none, 0, Nat.zero_le _, rfl, rfl, Below.refl _ _, nil_own _ _ _ _⟩
  case round =>
    obtain ⟨k, qo, qc, hk, rfl, rfl, BV, OV⟩ := hrel
    by_cases hlt : k < L.length
    · have hi0 : (0 : Int) ≤ (k : Int) := by omega
      have hi1 : (k : Int) < (L.length : Int) := by omega
      have hpl := pk_le e k
      by_cases hm : k % e = 0
      · have hmI : (k : Int) % (e : Int) = 0 := by rw [← Int.natCast_emod, hm]; rfl
        have HPK : Hid (pkF e (k + 1) = pkF e k ++ [k]) := by rw [pk_one, if_pos hm]; exact rfl
        obtain ⟨g1, rfl, hg1, hc1⟩ := row_at O7.out (by omega)
        obtain ⟨g2, rfl, hg2, hc2⟩ := row_at A7.out (by omega)
        have d1 : w7.cell? ⟨g1, k * 5, none⟩ = some (.int .i64 L[k].1.off) := by
          rw [hc1 (k * 5) (by omega)]
          exact recCells_get L k 0 hlt (by omega)
        have d2 : w7.cell? ⟨g2, k, none⟩ = some (.int .i64 (L[k].2 : Nat)) := by
          rw [hc2 k (by omega)]
          simp [posCells, hlt]
        have HEN := hide (entF_at hlt)
        clear hc1 hc2 hm
        go_wp2
        refine reg_all (rreg9_any (by kernel_rfl) hlt (by omega) BV OV hg1 hg2 d1 d2 ?_)
        intro v34 v35 v36 v37 v38 v39 v40 v41 v42 v43 v44 v45 v46 g3 cap3 w3 bw hown3
        have BW := hide bw
        have OW : Hid (w3.ownsRow w7.heap.size 44 2 (.slice (some ⟨g3, 0, none⟩) (pkF e (k + 1)).length cap3) (pkF e (k + 1)).length (entCells ((pkF e (k + 1)).map (entF L)))) := by
          rw [HPK.out, List.map_append, List.map_singleton, entCells_snoc, HEN.out, List.length_append, List.length_singleton]
          exact hown3
        have HLE : Hid ((pkF e (k + 1)).length = (pkF e k).length + 1) := by rw [HPK.out, List.length_append, List.length_singleton]; exact rfl
        clear hown3 bw BV OV d1 d2
        go_wp2
        go_roundw
        case rel => exact ⟨k + 1, some ⟨g3, 0, none⟩, cap3, by omega, by rw [HLE.out], by go_num, BW.out, OW.out⟩
        case measure => simp [intOf]; omega
      · have hmI : ((k : Int) % (e : Int) == 0) = false := by rw [beq_eq_false_iff_ne, ← Int.natCast_emod]; omega
        have HPK : Hid (pkF e (k + 1) = pkF e k) := by rw [pk_one, if_neg hm]; exact rfl
        clear hm
        go_wp2
        go_roundw
        case rel => exact ⟨k + 1, qo, qc, by omega, by rw [HPK.out], by go_num, BV.out, by rw [HPK.out]; exact OV.out⟩
        case measure => simp [intOf]; omega
    · obtain rfl : k = L.length := by omega
      have hi1 : ¬ (L.length : Int) < (L.length : Int) := by omega
      go_wp2
      go_ret2
      refine ⟨_, rfl, ?_, B7.out.trans (BV.out.mono B7.out.size)⟩
      have h := own_base OV.out B7.out.size
      unfold idxF
      rw [List.length_map]
      exact h
end Go.Proofs.YtgnehnlmbodijaaDoor
