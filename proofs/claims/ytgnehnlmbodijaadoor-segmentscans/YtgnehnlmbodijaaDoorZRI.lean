/-
  carillonref06's Scan, Find, From, as they run.
-/
import Derived.Test.YtgnehnlmbodijaaDoorZRS
namespace Go.Proofs.YtgnehnlmbodijaaDoor
open Go.RowKit

set_option maxHeartbeats 1000000 in
theorem rScan_any (base : Int) (s : ByteArray) (w : World) (hs : s.size ≤ 1048576) (R : List (Rec × Nat) × Nat × Int) (hR : scanF base s.data.toList = R) :
    Calls Tryd.prog 14 #[.int .i64 base, .string s] w fun e w' => ∃ v, e = .returned (.tuple #[v, .int .i64 R.2.1, .int .i64 R.2.2]) ∧ w'.ownsRow w.heap.size 23 5 v R.1.length (recCells R.1) ∧ Below w.heap.size w w' := by
  have HC := hide (rscan_any base s w hs R hR)
  obtain ⟨L, n, er⟩ := R
  simp only at HC ⊢
  clear hR
  go_enter Tryd.func14, Tryd.ntmps14
  go_wp2_with fail
  refine HC.out.mono ?_
  rintro e w1 ⟨v, a, rfl, ho, ha, hb⟩
  obtain ⟨vo, vc, rfl⟩ := own_slice ho
  obtain ⟨ao, ac, rfl⟩ := own_slice ha
  have HO := hide ho
  have HB := hide hb
  clear ho hb ha HC
  go_wp2
  refine bodyPost_ret (v := .tuple #[.slice vo L.length vc, .int .i64 n, .int .i64 er]) (by simp [results, Tryd.results14, go_sem]) rfl ?_
  exact ⟨_, rfl, HO.out, HB.out⟩
theorem findF_step (l : List (Int × Int)) (off : Int) (k : Nat) (h : k < l.length) : findF (l.take (k + 1)) off = if l[k].1 ≤ off then l[k].2 else findF (l.take k) off := by
  unfold findF
  rw [List.take_succ_eq_append_getElem h, List.reverse_append, List.reverse_singleton, List.singleton_append, List.find?_cons]
  by_cases h1 : l[k].1 ≤ off
  · rw [if_pos h1, decide_eq_true h1]
  · rw [if_neg h1, decide_eq_false h1]
set_option maxHeartbeats 1000000 in
theorem rfind_any (v : Value) (l : List (Int × Int)) (off : Int) (w : World) (hat : EntsAt w v l) :
    Calls Tryd.prog 20 #[v, .int .i64 off] w fun e w' => e = .returned (.int .i64 (findF l off)) ∧ w' = w := by
  obtain ⟨ao, cap, rfl, hlen, ha⟩ := hat
  have HA := hide ha
  clear ha
  go_enter Tryd.func20, Tryd.ntmps20
  go_wp2
  go_loopw [5, 6] (fun pv iv wv => ∃ (k : Nat) (p : Int), k ≤ l.length ∧ iv = .int .i64 k ∧ pv = .int .i64 p ∧ Hid (findF (l.take k) off = p) ∧ wv = w) (fun _ iv _ => l.length - (intOf iv).toNat)
  case atStart => exact ⟨0, 0, Nat.zero_le _, rfl, rfl, rfl, rfl⟩
  case round =>
    obtain ⟨k, p, hk, rfl, rfl, HP, rfl⟩ := hrel
    by_cases hlt : k < l.length
    · obtain ⟨b, of2, rfl, hb, c0, c1⟩ := HA.out k hlt
      have hi0 : (0 : Int) ≤ (k : Int) := by omega
      have hi1 : (k : Int) < (l.length : Int) := by omega
      have hst := findF_step l off k hlt
      generalize l[k] = x at *
      obtain ⟨xo, xp⟩ := x
      simp only at c0 c1 hst
      by_cases hle : xo ≤ off
      · rw [if_pos hle] at hst
        have HS := hide hst
        clear hst
        go_wp2
        go_roundw
        case rel => exact ⟨k + 1, xp, by omega, by go_num, rfl, HS.out, by first | rfl | trivial⟩
        case measure => simp [intOf]; omega
      · rw [if_neg hle, HP.out] at hst
        have HS := hide hst
        clear hst
        go_wp2
        go_roundw
        case rel => exact ⟨k + 1, p, by omega, by go_num, rfl, HS.out, by first | rfl | trivial⟩
        case measure => simp [intOf]; omega
    · have e : findF l off = p := by have := HP.out; rw [List.take_of_length_le (by omega)] at this; exact this
      have HE := hide e
      clear e
      go_wp2
      go_ret
      exact ⟨congrArg Ending.returned (congrArg (Value.int .i64) HE.out.symm), rfl⟩
set_option maxHeartbeats 4000000 in
set_option maxRecDepth 20000 in
theorem rfrom_any (base : Int) (s : ByteArray) (off most : Int) (w : World) (hs : s.size ≤ 1048576) (out : List Rec) (hR : (scanF base s.data.toList).1.map (·.1) = out) (hol : out.length ≤ 131072) :
    Calls Tryd.prog 22 #[.int .i64 base, .string s, .int .i64 off, .int .i64 most] w fun e w' => ∃ v, e = .returned v ∧ RecsAt w' v ((wantR out off).take most.toNat) ∧ Below w.heap.size w w' := by
  have HC := hide (rscan_any base s w hs _ rfl)
  have HR := hide hR
  clear hR
  go_enter Tryd.func22, Tryd.ntmps22
  go_wp2_with fail
  refine HC.out.mono ?_
  rintro e w7 ⟨v, a, rfl, ho, ha, hb⟩
  have R7 : Hid (RecsAt w7 v out) := by have := recs_of_own ho; rw [HR.out] at this; exact this
  obtain ⟨oo, oc, rfl⟩ := recs_shape R7.out
  obtain ⟨ao, ac, rfl⟩ := own_slice ha
  have B7 := hide hb
  clear ho ha hb HC
  generalize (scanF base s.data.toList).2.1 = n1
  generalize (scanF base s.data.toList).2.2 = n2
  generalize (scanF base s.data.toList).1.length = n3
  go_wp2
  go_loopw [13, 14] (fun xv iv wv => ∃ (k : Nat) (qo : Option Addr) (qc : Nat), k ≤ out.length ∧ (wantR (out.take k) off).length ≤ most.toNat ∧ xv = .slice qo (wantR (out.take k) off).length qc ∧ iv = .int .i64 k ∧ Hid (Below w7.heap.size w7 wv) ∧ Hid (wv.ownsRow w7.heap.size 23 5 (.slice qo (wantR (out.take k) off).length qc) (wantR (out.take k) off).length (recRow (wantR (out.take k) off)))) (fun _ iv _ => out.length - (intOf iv).toNat)
  case atStart => exact ⟨0, none, 0, Nat.zero_le _, by simp [wantR], by simp [wantR], rfl, Below.refl _ _, by simp [wantR, recRow]; exact nil_own _ _ _ _⟩
  case round =>
    obtain ⟨k, qo, qc, hk, hm, rfl, rfl, BV, OV⟩ := hrel
    by_cases hk1 : k < out.length
    · by_cases hk2 : ((wantR (out.take k) off).length : Int) < most
      · obtain ⟨_, b, off', rfl, hb, a0, a1, a2, a3, a4⟩ := (R7.out.below BV.out).five k hk1
        have HS := hide (wantR_succ out off k hk1)
        have hi0 : (0 : Int) ≤ (k : Int) := by omega
        have hi1 : (k : Int) < (out.length : Int) := by omega
        have hql := wantR_le out off k
        generalize out[k] = x at *
        generalize hQ : wantR (out.take k) off = Q at *
        clear hQ
        obtain ⟨xo, xp, xs, xk, xv⟩ := x
        simp only at a0 a1 a2 a3 a4
        by_cases hof : off ≤ xo
        · have HS2 : Hid (wantR (out.take (k + 1)) off = Q ++ [⟨xo, xp, xs, xk, xv⟩]) := by have := HS.out; simp only at this; rw [if_pos hof] at this; exact this
          clear HS
          go_wp2_with (at_builtin; refine wpList_append_own _ rfl _ _ 31 rfl w7.heap.size 23 Tryd.t23 Rec.zero.v 5 64 Tryd.underlying31 ?hi ?hz ?hs ?hby rfl (by decide) _ _ _ rfl (OV.out.alloc _) ⟨_, 0, none⟩ 1 1 (Rec.cells ⟨xo, xp, xs, xk, xv⟩) rfl rfl ?hnews ?h1 ?h63 ?hb47 ?hbase ?_)
          case hi => exact Tryd.infoRec
          case hz => exact Tryd.zeroRec
          case hs => exact Tryd.sizeRec
          case hby => exact Tryd.bytesRec
          case hnews => exact fun j u h => h
          case h1 => exact Rec.ones _
          case h63 => unfold maxLen; omega
          case hb47 => omega
          case hbase => have := BV.out.size; simp; omega
          intro v' w8 hown hgrow _
          obtain ⟨no, nc, rfl⟩ := own_slice hown
          have B8 : Hid (Below w7.heap.size w7 w8) := (BV.out.alloc BV.out.size _).grown hgrow (by have := BV.out.size; simp; omega) (fun k hk => (OV.out.lt k hk).1)
          have O8 : Hid (w8.ownsRow w7.heap.size 23 5 (.slice no (Q ++ [(⟨xo, xp, xs, xk, xv⟩ : Rec)]).length nc) (Q ++ [(⟨xo, xp, xs, xk, xv⟩ : Rec)]).length (recRow (Q ++ [(⟨xo, xp, xs, xk, xv⟩ : Rec)]))) := by
            rw [recRow_snoc, List.length_append, List.length_singleton]
            exact hown
          clear hown hgrow
          go_wp2
          go_roundw
          case rel => exact ⟨k + 1, no, nc, by omega, by rw [HS2.out, List.length_append, List.length_singleton]; omega, by rw [HS2.out, List.length_append, List.length_singleton], by go_num, B8.out, by rw [HS2.out]; exact O8.out⟩
          case measure => simp [intOf]; omega
        · have HS2 : Hid (wantR (out.take (k + 1)) off = Q) := by have := HS.out; simp only at this; rw [if_neg hof] at this; exact this
          clear HS
          go_wp2
          go_roundw
          case rel => exact ⟨k + 1, qo, qc, by omega, by rw [HS2.out]; exact hm, by rw [HS2.out], by go_num, BV.out, by rw [HS2.out]; exact OV.out⟩
          case measure => simp [intOf]; omega
      · have hd := wantR_done out off most k hm (.inr (by omega))
        have HD := hide hd
        clear hd
        have hi1 : (k : Int) < (out.length : Int) := by omega
        go_wp2
        go_ret
        exact ⟨_, rfl, by rw [← HD.out]; exact recs_of_row OV.out, B7.out.trans (BV.out.mono B7.out.size)⟩
    · have hd := wantR_done out off most k hm (.inl (by omega))
      have HD := hide hd
      clear hd
      have hi1 : ¬ (k : Int) < (out.length : Int) := by omega
      go_wp2
      go_ret
      exact ⟨_, rfl, by rw [← HD.out]; exact recs_of_row OV.out, B7.out.trans (BV.out.mono B7.out.size)⟩
end Go.Proofs.YtgnehnlmbodijaaDoor
