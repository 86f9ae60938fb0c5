/-
  carillonref06's Scan, Find, From, as they run.
-/
import Derived.Test.YtgnehnlmbodijaaDoorZRS
namespace Go.Proofs.YtgnehnlmbodijaaDoor
open Go.RowKit

set_option maxHeartbeats 1000000 in
theorem rScan_any (base : Int) (s : ByteArray) (w : World) (hs : s.size ≤ 1048576) (R : List (Rec × Nat) × Nat × Int) (hR : scanF base s.data.toList = R) :
    Calls Tryd.prog 14 #[.int .i64 base, .string s] w fun e w' => ∃ v, e = .returned (.tuple #[v, .int .i64 R.2.1, .int .i64 R.2.2]) ∧ w'.ownsRow w.heap.size 23 5 v R.1.length (recCells R.1) ∧ Below w.heap.size w w' := by
  have HC := hide (rscan_any base s w hs R hR)
  obtain ⟨L, n, er⟩ := R
  simp only at HC ⊢
  clear hR
  go_enter Tryd.func14, Tryd.ntmps14
  go_wp2_with fail
  refine HC.out.mono ?_
  rintro e w1 ⟨v, a, rfl, ho, ha, hb⟩
  obtain ⟨vo, vc, rfl⟩ := own_slice ho
  obtain ⟨ao, ac, rfl⟩ := own_slice ha
  have HO := hide ho
  have HB := hide hb
  clear ho hb ha HC
  go_wp2
  refine bodyPost_ret (v := .tuple #[.slice vo L.length vc, .int .i64 n, .int .i64 er]) (by simp [results, Tryd.results14, go_sem]) rfl ?_
  exact ⟨_, rfl, HO.out, HB.out⟩
theorem findF_step (l : List (Int × Int)) (off : Int) (k : Nat) (h : k < l.length) : findF (l.take (k + 1)) off = if l[k].1 ≤ off then l[k].2 else findF (l.take k) off := by
  unfold findF
  rw [List.take_succ_eq_append_getElem h, List.reverse_append, List.reverse_singleton, List.singleton_append, List.find?_cons]
  by_cases h1 : l[k].1 ≤ off
  · rw [if_pos h1, decide_eq_true h1]
  · rw [if_neg h1, decide_eq_false h1]
set_option maxHeartbeats 1000000 in
theorem rfind_any (v : Value) (l : List (Int × Int)) (off : Int) (w : World) (hat : EntsAt w v l) :
    Calls Tryd.prog 20 #[v, .int .i64 off] w fun e w' => e = .returned (.int .i64 (findF l off)) ∧ w' = w := by
  obtain ⟨ao, cap, rfl, hlen, ha⟩ := hat
  have HA := hide ha
  clear ha
  go_enter Tryd.func20, Tryd.ntmps20
  go_wp2
  go_loopw [5, 6] (fun pv iv wv => ∃ (k : Nat) (p : Int), k ≤ l.length ∧ iv = .int .i64 k ∧ pv = .int .i64 p ∧ Hid (findF (l.take k) off = p) ∧ wv = w) (fun _ iv _ => l.length - (intOf iv).toNat)
  case atStart => exact ⟨0, 0, Nat.zero_le _, rfl, rfl, rfl, rfl⟩
  case round =>
    obtain ⟨k, p, hk, rfl, rfl, HP, rfl⟩ := hrel
    by_cases hlt : k < l.length
    · obtain ⟨b, of2, rfl, hb, c0, c1⟩ := HA.out k hlt
      have hi0 : (0 : Int) ≤ (k : Int) := by omega
      have hi1 : (k : Int) < (l.length : Int) := by omega
      have hst := findF_step l off k hlt
      generalize l[k] = x at *
      obtain ⟨xo, xp⟩ := x
      simp only at c0 c1 hst
      by_cases hle : xo ≤ off
      · rw [if_pos hle] at hst
        have HS := hide hst
        clear hst
        go_wp2
        go_roundw
        case rel => exact ⟨k + 1, xp, by omega, by go_num, rfl, HS.out, by first | rfl | trivial⟩
        case measure => simp [intOf]; omega
      · rw [if_neg hle, HP.out] at hst
        have HS := hide hst
        clear hst
        go_wp2
        go_roundw
        case rel => exact ⟨k + 1, p, by omega, by go_num, rfl, HS.out, by first | rfl | trivial⟩
        case measure => simp [intOf]; omega
    · have e : findF l off = p := by have := HP.out; rw [List.take_of_length_le (by omega)] at this; exact this
      have HE := hide e
      clear e
      go_wp2
      go_ret
      exact ⟨congrArg Ending.returned (congrArg (Value.int .i64) HE.out.symm), rfl⟩
set_option maxHeartbeats 4000000 in
set_option maxRecDepth 20000 in
theorem rfrom_any (base : Int) (s : ByteArray) (off most : Int) (w : World) (hs : s.size ≤ 1048576) (out : List Rec) (hR : (scanF base s.data.toList).1.map (·.1) = out) (hol : out.length ≤ 131072) :
    Calls Tryd.prog 22 #[.int .i64 base, .string s, .int .i64 off, .int .i64 most] w fun e w' => ∃ v, e = .returned v ∧ RecsAt w' v ((wantR out off).take most.toNat) ∧ Below w.heap.size w w' := by
  have HC := hide (rscan_any base s w hs _ rfl)
  have HR := hide hR
  clear hR
  go_enter Tryd.func22, Tryd.ntmps22
  go_wp2_with fail
  refine HC.out.mono ?_
  rintro e w7 ⟨v, a, rfl, ho, ha, hb⟩
  have R7 : Hid (RecsAt w7 v out) := by have := recs_of_own ho; rw [HR.out] at this; exact this
  obtain ⟨oo, oc, rfl⟩ := recs_shape R7.out
  obtain ⟨ao, ac, rfl⟩ := own_slice ha
  have B7 := hide hb
  clear ho ha hb HC
  generalize (scanF base s.data.toList).2.1 = n1
  generalize (scanF base s.data.toList).2.2 = n2
  generalize (scanF base s.data.toList).1.length = n3
  go_wp2
  go_loopw [13, 14] (fun xv iv wv => ∃ (k : Nat) (qo : Option Addr) (qc : Nat), k ≤ out.length ∧ (wantR (out.take k) off).length ≤ most.toNat ∧ xv = .slice qo (wantR (out.take k) off).length qc ∧ iv = .int .i64 k ∧ Hid (Below w7.heap.size w7 wv) ∧ Hid (wv.ownsRow w7.heap.size 23 5 (.slice qo (wantR (out.take k) off).length qc) (wantR (out.take k) off).length (recRow (wantR (out.take k) off)))) (fun _ iv _ => out.length - (intOf iv).toNat)
  case atStart => exact ⟨0, none, 0, Nat.zero_le _, by simp [wantR], by simp [wantR], rfl, Below.refl _ _, by simp [wantR, recRow]; exact nil_own _ _ _ _⟩
  case round =>
    obtain ⟨k, qo, qc, hk, hm, rfl, rfl, BV, OV⟩ := hrel
    by_cases hk1 : k < out.length
    · by_cases hk2 : ((wantR (out.take k) off).length : Int) < most
      · obtain ⟨_, b, off', rfl, hb, a0, a1, a2, a3, a4⟩ := (R7.out.below BV.out).five k hk1
        have HS := hide (wantR_succ out off k hk1)
        have hi0 : (0 : Int) ≤ (k : Int) := by omega
        have hi1 : (k : Int) < (out.length : Int) := by omega
        have hql := wantR_le out off k
        generalize out[k] = x at *
        generalize hQ : wantR (out.take k) off = Q at *
        clear hQ
        obtain ⟨xo, xp, xs, xk, xv⟩ := x
        simp only at a0 a1 a2 a3 a4
        by_cases hof : off ≤ xo
        · have HS2 : Hid (wantR (out.take (k + 1)) off = Q ++ [⟨xo, xp, xs, xk, xv⟩]) := by have := HS.out; simp only at this; rw [if_pos hof] at this; exact this
          clear HS
          go_wp2_with (at_builtin; refine wpList_append_own _ rfl _ _ 31 rfl w7.heap.size 23 Tryd.t23 Rec.zero.v 5 64 Tryd.underlying31 ?hi ?hz ?hs ?hby rfl (by decide) _ _ _ rfl (OV.out.alloc _) ⟨_, 0, none⟩ 1 1 (Rec.cells ⟨xo, xp, xs, xk, xv⟩) rfl rfl ?hnews ?h1 ?h63 ?hb47 ?hbase ?_)
          case hi => exact Tryd.infoRec
          case hz => exact Tryd.zeroRec
          case hs => exact Tryd.sizeRec
          case hby => exact Tryd.bytesRec
          case hnews => exact fun j u h => h
          case h1 => exact Rec.ones _
          case h63 => unfold maxLen; omega
          case hb47 => omega
          case hbase => have := BV.out.size; simp; omega
          intro v' w8 hown hgrow _
          obtain ⟨no, nc, rfl⟩ := own_slice hown
          have B8 : Hid (Below w7.heap.size w7 w8) := (BV.out.alloc BV.out.size _).grown hgrow (by have := BV.out.size; simp; omega) (fun k hk => (OV.out.lt k hk).1)
          have O8 : Hid (w8.ownsRow w7.heap.size 23 5 (.slice no (Q ++ [(⟨xo, xp, xs, xk, xv⟩ : Rec)]).length nc) (Q ++ [(⟨xo, xp, xs, xk, xv⟩ : Rec)]).length (recRow (Q ++ [(⟨xo, xp, xs, xk, xv⟩ : Rec)]))) := by
            rw [recRow_snoc, List.length_append, List.length_singleton]
            exact hown
          clear hown hgrow
          go_wp2
          go_roundw
          case rel => exact ⟨k + 1, no, nc, by omega, by rw [HS2.out, List.length_append, List.length_singleton]; omega, by rw [HS2.out, List.length_append, List.length_singleton], by go_num, B8.out, by rw [HS2.out]; exact O8.out⟩
          case measure => simp [intOf]; omega
        · have HS2 : Hid (wantR (out.take (k + 1)) off = Q) := by have := HS.out; simp only at this; rw [if_neg hof] at this; exact this
          clear HS
          go_wp2
          go_roundw
          case rel => exact ⟨k + 1, qo, qc, by omega, by rw [HS2.out]; exact hm, by rw [HS2.out], by go_num, BV.out, by rw [HS2.out]; exact OV.out⟩
          case measure => simp [intOf]; omega
      · have hd := wantR_done out off most k hm (.inr (by omega))
        have HD := hide hd
        clear hd
        have hi1 : (k : Int) < (out.length : Int) := by omega
        go_wp2
        go_ret
        exact ⟨_, rfl, by rw [← HD.out]; exact recs_of_row OV.out, B7.out.trans (BV.out.mono B7.out.size)⟩
    · have hd := wantR_done out off most k hm (.inl (by omega))
      have HD := hide hd
      clear hd
      have hi1 : ¬ (k : Int) < (out.length : Int) := by omega
      go_wp2
      go_ret
      exact ⟨_, rfl, by rw [← HD.out]; exact recs_of_row OV.out, B7.out.trans (BV.out.mono B7.out.size)⟩
end Go.Proofs.YtgnehnlmbodijaaDoor
/-
  carillonref06.Index's region with append, as it runs.
-/
namespace Go.Proofs.YtgnehnlmbodijaaDoor
open Go.RowKit

set_option maxHeartbeats 8000000 in
set_option maxRecDepth 100000 in
theorem rreg9_any {K : Act → World → Prop} {c : Code} (hc : regOf (Tryd.f18.body.getD .skip) 9 = some c) {u0 u1 u2 u3 u4 u5 u6 u7 u10 u11 u14 u15 u16 u17 u18 u19 u20 u21 u22 u23 u24 u25 u26 u27 u28 u29 u30 u31 u32 u33 u34 u35 u36 u37 u38 u39 u40 u41 u42 u43 u44 u45 u46 u47 : Value} {q n vc N g1 g2 oc ac : Nat} {va : Option Addr} {xs : List Value} {off ps : Int} {w2 wr : World}
    (hq : q < N) (hn : n ≤ 1099511627776) (BV : Hid (Below w2.heap.size w2 wr)) (OV : Hid (wr.ownsRow w2.heap.size 44 2 (.slice va n vc) n xs)) (hgl : g1 < w2.heap.size) (hrl : g2 < w2.heap.size)
    (k2 : w2.cell? ⟨g1, q * 5, none⟩ = some (.int .i64 off)) (k3 : w2.cell? ⟨g2, q, none⟩ = some (.int .i64 ps))
    (hQ : ∀ (v34 v35 v36 v37 v38 v39 v40 v41 v42 v43 v44 v45 v46 : Value) (g3 cap3 : Nat) (w3 : World), Below w2.heap.size w2 w3 → w3.ownsRow w2.heap.size 44 2 (.slice (some ⟨g3, 0, none⟩) (n + 1) cap3) (n + 1) (xs ++ [.int .i64 off, .int .i64 ps]) → K { tmps := #[u0, u1, u2, u3, u4, u5, u6, u7, .slice (some ⟨g1, 0, none⟩) N oc, .slice (some ⟨g2, 0, none⟩) N ac, u10, u11, .slice (some ⟨g3, 0, none⟩) (n + 1) cap3, .int .i64 q, u14, u15, u16, u17, u18, u19, u20, u21, u22, u23, u24, u25, u26, u27, u28, u29, u30, u31, u32, u33, v34, v35, v36, v37, v38, v39, v40, v41, v42, v43, v44, v45, v46, u47], defers := [] } w3) :
    Code.wp Tryd.prog c (Exit.then K fun _ _ _ => False) { tmps := #[u0, u1, u2, u3, u4, u5, u6, u7, .slice (some ⟨g1, 0, none⟩) N oc, .slice (some ⟨g2, 0, none⟩) N ac, u10, u11, .slice va n vc, .int .i64 q, u14, u15, u16, u17, u18, u19, u20, u21, u22, u23, u24, u25, u26, u27, u28, u29, u30, u31, u32, u33, u34, u35, u36, u37, u38, u39, u40, u41, u42, u43, u44, u45, u46, u47], defers := [] } wr := by
  have HQ := hide hQ
  clear hQ
  simp only [Tryd.f18, Option.getD_some, regOf] at hc
  injection hc with hc
  subst hc
  have d2 := (BV.out.cell (p := ⟨g1, q * 5, none⟩) hgl).trans k2
  have d3 := (BV.out.cell (p := ⟨g2, q, none⟩) hrl).trans k3
  have hi0 : (0 : Int) ≤ (q : Int) := by omega
  have hi1 : (q : Int) < (N : Int) := by omega
  go_region_held_law (fun w' => w'.cell? ⟨g1, q * 5, none⟩ = some (.int .i64 off) ∧ w'.cell? ⟨g2, q, none⟩ = some (.int .i64 ps)) (first | go_keep | exact ⟨e2, e3⟩) (first | (refine step_append_lies _ (by rfl) _ _ _ (by rfl) w2.heap.size 44 Tryd.t44 _ 2 16 Tryd.underlying38 Tryd.infoEnt Tryd.zeroEnt Tryd.sizeEnt Tryd.bytesEnt rfl (by omega) (.slice va n vc) n xs (by rfl) (by first | exact OV.out.alloc _ | exact OV.out.drew.alloc _) ⟨wr.heap.size, 0, none⟩ 1 1 [.int .i64 off, .int .i64 ps] (by rfl) (by rfl) (World.news_of_block (cs := #[.int .i64 off, .int .i64 ps]) (t := 44) (fr := (0, 0)) (by first | exact heap_alloc_new wr _ | exact heap_alloc_new wr.drew _)) (ent_ones _ _) (by omega) (by unfold maxLen; omega) (by omega) (by have := BV.out.size; simp; omega) (wr.heap.size + 1) (by simp) ?_; intro g3 cap3 w3 hown3 hgrow3 hat3 hlt3; have BW : Hid (Below w2.heap.size w2 w3) := (BV.out.drew.alloc BV.out.size _).grown hgrow3 (by have := BV.out.size; simp; omega) (fun k hk => (OV.out.lt k hk).1); have e2 := (BW.out.cell (p := ⟨g1, q * 5, none⟩) hgl).trans k2; have e3 := (BW.out.cell (p := ⟨g2, q, none⟩) hrl).trans k3))
  all_goals exact HQ.out _ _ _ _ _ _ _ _ _ _ _ _ _ _ _ _ BW.out hown3
end Go.Proofs.YtgnehnlmbodijaaDoor
/-
  carillonref06's Index, as it runs.
-/
namespace Go.Proofs.YtgnehnlmbodijaaDoor
open Go.RowKit

theorem rindex_bad (base : Int) (s : ByteArray) (every : Int) (w : World) (he : every < 1) :
    Calls Tryd.prog 18 #[.int .i64 base, .string s, .int .i64 every] w fun e w' => e = .returned (.tuple #[.slice none 0 0, .bool false]) ∧ w' = w := by
  go_enter Tryd.func18, Tryd.ntmps18
  go_wp2
  go_ret2
  exact ⟨rfl, rfl⟩
set_option maxHeartbeats 4000000 in
set_option maxRecDepth 20000 in
theorem rindex_any (base : Int) (s : ByteArray) (e : Nat) (w : World) (hs : s.size ≤ 1048576) (he : 1 ≤ e) (he2 : e ≤ 9223372036854775807) (L : List (Rec × Nat)) (hR : (scanF base s.data.toList).1 = L) (hol : L.length ≤ 131072) :
    Calls Tryd.prog 18 #[.int .i64 base, .string s, .int .i64 e] w fun e' w' => ∃ v, e' = .returned (.tuple #[v, .bool true]) ∧ w'.ownsRow w.heap.size 44 2 v (idxF e L).length (entCells (idxF e L)) ∧ Below w.heap.size w w' := by
  have HC := hide (rscan_any base s w hs _ rfl)
  rw [hR] at HC
  clear hR
  generalize (scanF base s.data.toList).2.1 = n1 at *
  generalize (scanF base s.data.toList).2.2 = n2 at *
  go_enter Tryd.func18, Tryd.ntmps18
  go_wp2_with fail
  refine HC.out.mono ?_
  rintro e' w7 ⟨v, a, rfl, ho, ha, hb⟩
  obtain ⟨oo, oc, rfl⟩ := own_slice ho
  obtain ⟨ao, ac, rfl⟩ := own_slice ha
  have O7 := hide ho
  have A7 := hide ha
  have B7 := hide hb
  clear ho ha hb HC
  go_wp2
  go_loopw [12, 13] (fun xv iv wv => ∃ (k : Nat) (qo : Option Addr) (qc : Nat), k ≤ L.length ∧ xv = .slice qo (pkF e k).length qc ∧ iv = .int .i64 k ∧ Hid (Below w7.heap.size w7 wv) ∧ Hid (wv.ownsRow w7.heap.size 44 2 (.slice qo (pkF e k).length qc) (pkF e k).length (entCells ((pkF e k).map (entF L))))) (fun _ iv _ => L.length - (intOf iv).toNat)
  case atStart => exact ⟨0, none, 0, Nat.zero_le _, rfl, rfl, Below.refl _ _, nil_own _ _ _ _⟩
  case round =>
    obtain ⟨k, qo, qc, hk, rfl, rfl, BV, OV⟩ := hrel
    by_cases hlt : k < L.length
    · have hi0 : (0 : Int) ≤ (k : Int) := by omega
      have hi1 : (k : Int) < (L.length : Int) := by omega
      have hpl := pk_le e k
      by_cases hm : k % e = 0
      · have hmI : (k : Int) % (e : Int) = 0 := by rw [← Int.natCast_emod, hm]; rfl
        have HPK : Hid (pkF e (k + 1) = pkF e k ++ [k]) := by rw [pk_one, if_pos hm]; exact rfl
        obtain ⟨g1, rfl, hg1, hc1⟩ := row_at O7.out (by omega)
        obtain ⟨g2, rfl, hg2, hc2⟩ := row_at A7.out (by omega)
        have d1 : w7.cell? ⟨g1, k * 5, none⟩ = some (.int .i64 L[k].1.off) := by
          rw [hc1 (k * 5) (by omega)]
          exact recCells_get L k 0 hlt (by omega)
        have d2 : w7.cell? ⟨g2, k, none⟩ = some (.int .i64 (L[k].2 : Nat)) := by
          rw [hc2 k (by omega)]
          simp [posCells, hlt]
        have HEN := hide (entF_at hlt)
        clear hc1 hc2 hm
        go_wp2
        refine reg_all (rreg9_any (by kernel_rfl) hlt (by omega) BV OV hg1 hg2 d1 d2 ?_)
        intro v34 v35 v36 v37 v38 v39 v40 v41 v42 v43 v44 v45 v46 g3 cap3 w3 bw hown3
        have BW := hide bw
        have OW : Hid (w3.ownsRow w7.heap.size 44 2 (.slice (some ⟨g3, 0, none⟩) (pkF e (k + 1)).length cap3) (pkF e (k + 1)).length (entCells ((pkF e (k + 1)).map (entF L)))) := by
          rw [HPK.out, List.map_append, List.map_singleton, entCells_snoc, HEN.out, List.length_append, List.length_singleton]
          exact hown3
        have HLE : Hid ((pkF e (k + 1)).length = (pkF e k).length + 1) := by rw [HPK.out, List.length_append, List.length_singleton]; exact rfl
        clear hown3 bw BV OV d1 d2
        go_wp2
        go_roundw
        case rel => exact ⟨k + 1, some ⟨g3, 0, none⟩, cap3, by omega, by rw [HLE.out], by go_num, BW.out, OW.out⟩
        case measure => simp [intOf]; omega
      · have hmI : ((k : Int) % (e : Int) == 0) = false := by rw [beq_eq_false_iff_ne, ← Int.natCast_emod]; omega
        have HPK : Hid (pkF e (k + 1) = pkF e k) := by rw [pk_one, if_neg hm]; exact rfl
        clear hm
        go_wp2
        go_roundw
        case rel => exact ⟨k + 1, qo, qc, by omega, by rw [HPK.out], by go_num, BV.out, by rw [HPK.out]; exact OV.out⟩
        case measure => simp [intOf]; omega
    · obtain rfl : k = L.length := by omega
      have hi1 : ¬ (L.length : Int) < (L.length : Int) := by omega
      go_wp2
      go_ret2
      refine ⟨_, rfl, ?_, B7.out.trans (BV.out.mono B7.out.size)⟩
      have h := own_base OV.out B7.out.size
      unfold idxF
      rw [List.length_map]
      exact h
end Go.Proofs.YtgnehnlmbodijaaDoor
