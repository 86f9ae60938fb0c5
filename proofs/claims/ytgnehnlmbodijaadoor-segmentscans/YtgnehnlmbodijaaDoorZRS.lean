/-
  carillonref06's scan, as it runs.
-/
import Derived.Test.YtgnehnlmbodijaaDoorZRR
import Derived.Test.YtgnehnlmbodijaaDoorZLaw0
import Derived.Lib.QuietBelow
namespace Go.Proofs.YtgnehnlmbodijaaDoor
open Go.RowKit

theorem own_apart {w : World} {B1 B2 : Nat} {e1 e2 : TypeId} {z1 z2 : Nat} {v1 v2 : Value} {n1 n2 : Nat} {xs1 xs2 : List Value} (h1 : w.ownsRow B1 e1 z1 v1 n1 xs1) (h2 : w.ownsRow B2 e2 z2 v2 n2 xs2) (hne : e1 ≠ e2) : v1.ownBlock = none ∨ v1.ownBlock ≠ v2.ownBlock := by
  rcases h1.2 with ⟨rfl, _⟩ | ⟨g1, c1, cur1, rfl, _, hh1, _⟩
  · exact .inl rfl
  · refine .inr fun e => ?_
    rcases h2.2 with ⟨rfl, _⟩ | ⟨g2, c2, cur2, rfl, _, hh2, _⟩
    · cases e
    · have e' : g1 = g2 := Option.some.inj e
      subst e'
      rw [hh1] at hh2
      injection hh2 with hh2
      injection hh2 with _ h3 _
      exact hne h3
/-- What the next record's Offset may not be below. -/
def LeastI (base : Int) (out : List (Rec × Nat)) (least : Int) : Prop := (out.length = 0 ∧ least = base) ∨ ∃ k, ∃ h : k < out.length, out.length = k + 1 ∧ least = out[k].1.off + 1 ∧ base ≤ out[k].1.off
theorem LeastI.snoc (base : Int) (out : List (Rec × Nat)) (r : Rec) (p : Nat) (h : base ≤ r.off) : LeastI base (out ++ [(r, p)]) (r.off + 1) := by
  refine .inr ⟨out.length, by simp, by simp, ?_⟩
  rw [List.getElem_append_right (Nat.le_refl _)]
  simp [h]
theorem LeastI.le {base : Int} {out : List (Rec × Nat)} {least : Int} (h : LeastI base out least) : base ≤ least := by
  rcases h with ⟨_, h⟩ | ⟨k, _, _, h1, h2⟩ <;> omega
theorem drop_data (s : ByteArray) (pos : Nat) : (s.extract pos s.size).data.toList = s.data.toList.drop pos := by
  rw [ext_data, List.take_of_length_le]
  rw [List.length_drop, size_list]
  omega
theorem rread_out (s : ByteArray) (h : s.size ≤ 400000) : (readR s.data.toList = none ∧ ∀ w, Calls Tryd.prog 46 #[.string s] w fun e w' => (∃ x : Rec, e = .returned (.tuple #[x.v, .bool false])) ∧ Below w.heap.size w w') ∨
    ∃ r, readR s.data.toList = some r ∧ ∀ w, Calls Tryd.prog 46 #[.string s] w fun e w' => e = .returned (.tuple #[r.v, .bool true]) ∧ Below w.heap.size w w' := by
  have H := rread_any s h
  cases hr : readR s.data.toList with
  | none =>
    refine .inl ⟨rfl, fun w => (H w).mono ?_⟩
    rw [hr]
    rintro e w' ⟨⟨x, rfl, _⟩, hb⟩
    exact ⟨⟨x, rfl⟩, hb⟩
  | some r =>
    refine .inr ⟨r, rfl, fun w => (H w).mono ?_⟩
    rw [hr]
    rintro e w' ⟨⟨x, rfl, hx⟩, hb⟩
    rw [hx r rfl]
    exact ⟨rfl, hb⟩
set_option maxHeartbeats 4000000 in
set_option maxRecDepth 20000 in
theorem rscan_any (base : Int) (s : ByteArray) (w : World) (hs : s.size ≤ 1048576) (R : List (Rec × Nat) × Nat × Int) (hR : scanF base s.data.toList = R) :
    Calls Tryd.prog 31 #[.int .i64 base, .string s] w fun e w' => ∃ v a, e = .returned (.tuple #[v, a, .int .i64 R.2.1, .int .i64 R.2.2]) ∧ w'.ownsRow w.heap.size 23 5 v R.1.length (recCells R.1) ∧ w'.ownsRow w.heap.size 3 1 a R.1.length (posCells R.1) ∧ Below w.heap.size w w' := by
  have HI : Hid (GI s.data.toList 0 s.data.toList.length [] base 0 R) := by
    have := GI.init base 0 s.data.toList.length 0 s.data.toList (Nat.zero_le _)
    rw [fromF_scan, hR] at this
    exact this
  clear hR
  have HRT := hide (fun pos W => rtake_any (s.extract pos s.size) W (by rw [ByteArray.size_extract]; omega))
  simp only [drop_data] at HRT
  go_enter Tryd.func31, Tryd.ntmps31
  go_wp2
  go_loopw [8, 9, 10] (fun lv av uv wv => ∃ (out : List (Rec × Nat)) (least : Int) (pos : Nat) (lo : Option Addr) (lc : Nat) (ao : Option Addr) (ac : Nat), lv = .slice lo out.length lc ∧ av = .slice ao out.length ac ∧ uv = .int .i64 pos ∧ pos ≤ s.size ∧ out.length ≤ 131072 ∧ Hid (GI s.data.toList 0 s.data.toList.length out least pos R) ∧ Hid (LeastI base out least) ∧ Hid (Below w.heap.size w wv) ∧ Hid (wv.ownsRow w.heap.size 23 5 (.slice lo out.length lc) out.length (recCells out)) ∧ Hid (wv.ownsRow w.heap.size 3 1 (.slice ao out.length ac) out.length (posCells out))) (fun _ _ uv _ => s.size - (intOf uv).toNat)
  case atStart => exact ⟨[], base, 0, none, 0, none, 0, rfl, rfl, rfl, Nat.zero_le _, Nat.zero_le _, HI.out, .inl ⟨rfl, rfl⟩, Below.refl _ _, nil_own _ _ _ _, nil_own _ _ _ _⟩
  case round =>
    obtain ⟨out, least, pos, lo, lc, ao, ac, rfl, rfl, rfl, hps, hol, GV, LV, BV, OL, OA⟩ := hrel
    by_cases hlt : pos < s.size
    · have HT2 := hide (HRT.out pos)
      have hpl : pos < s.data.toList.length := by rw [size_list]; exact hlt
      have hm8 : (out.length : Int) < (s.data.toList.length : Int) := by have := GV.out.many; omega
      have hsm := takeF_small (s.data.toList.drop pos)
      have hn := takeF_ok (s.data.toList.drop pos)
      have h1 := @headR_none least (s.data.toList.drop pos)
      have h2 := @headR_some least (s.data.toList.drop pos)
      have h3 := @headR_fault least (s.data.toList.drop pos)
      have HGF := hide (GV.out.fault hpl hm8)
      have HGK := hide (GV.out.keep hpl hm8)
      rw [List.length_drop, size_list] at hn
      generalize takeF (s.data.toList.drop pos) = T at *
      obtain ⟨b, n, er⟩ := T
      simp only at HT2 hsm hn h1 h2 h3
      clear hpl hm8 HRT HI
      by_cases he : er = 0
      · subst he
        have hn := hn rfl
        obtain ⟨n8, nle⟩ := hn
        have hsz : (⟨b.toArray⟩ : ByteArray).size ≤ 400000 := by rw [mk_size]; exact hsm
        have hrd := rread_out ⟨b.toArray⟩ hsz
        rw [mk_data] at hrd
        generalize (⟨b.toArray⟩ : ByteArray) = ba at *
        rcases hrd with ⟨hnone, hcall⟩ | ⟨r, hsome, hcall⟩
        · have HC := hide hcall
          have hhd := h1 rfl hnone
          have HEQ : Hid (R = (out, pos, 10)) := by have := HGF.out; rw [hhd] at this; exact this (by decide)
          clear hcall hhd h1 h2 h3 HGF HGK hnone
          go_wp2_with fail
          refine (HT2.out _).mono ?_
          rintro e w2 ⟨rfl, b2⟩
          have B2 := hide (BV.out.trans (b2.mono BV.out.size))
          have OL2 := hide (K.own_below OL.out b2 (Nat.le_refl _))
          have OA2 := hide (K.own_below OA.out b2 (Nat.le_refl _))
          clear b2 BV OL OA HT2
          go_wp2_with fail
          refine (HC.out _).mono ?_
          rintro e w3 ⟨⟨x, rfl⟩, b3⟩
          have B3 := hide (B2.out.trans (b3.mono B2.out.size))
          have OL3 := hide (K.own_below OL2.out b3 (Nat.le_refl _))
          have OA3 := hide (K.own_below OA2.out b3 (Nat.le_refl _))
          clear b3 B2 OL2 OA2 HC
          obtain ⟨xo, xp, xs, xk, xv⟩ := x
          simp only [Rec.v]
          go_wp2
          refine bodyPost_ret (v := .tuple #[.slice lo out.length lc, .slice ao out.length ac, .int .i64 pos, .int .i64 10]) (by simp [results, Tryd.results31, go_sem]) rfl ?_
          rw [HEQ.out]
          exact ⟨_, _, rfl, OL3.out.alloc _, OA3.out.alloc _, B3.out.alloc B3.out.size _⟩
        · have HC := hide hcall
          have hhd := h2 rfl hsome
          have HRT := hide (readR_right hsome)
          have hle := LV.out.le
          clear hcall h1 h2 h3 hsome
          obtain ⟨xo, xp, xs, xk, xv⟩ := r
          simp only [Rec.v] at HC
          simp only at hhd
          by_cases hb1 : xo < base
          · have HEQ : Hid (R = (out, pos, 11)) := by have := HGF.out; rw [hhd, if_pos (by omega)] at this; exact this (by decide)
            clear hhd HGF HGK
            go_wp2_with fail
            refine (HT2.out _).mono ?_
            rintro e w2 ⟨rfl, b2⟩
            have B2 := hide (BV.out.trans (b2.mono BV.out.size))
            have OL2 := hide (K.own_below OL.out b2 (Nat.le_refl _))
            have OA2 := hide (K.own_below OA.out b2 (Nat.le_refl _))
            clear b2 BV OL OA HT2
            go_wp2_with fail
            refine (HC.out _).mono ?_
            rintro e w3 ⟨rfl, b3⟩
            have B3 := hide (B2.out.trans (b3.mono B2.out.size))
            have OL3 := hide (K.own_below OL2.out b3 (Nat.le_refl _))
            have OA3 := hide (K.own_below OA2.out b3 (Nat.le_refl _))
            clear b3 B2 OL2 OA2 HC
            go_wp2_with fail
            have x3 := heap_alloc_new w3 (Obj.cells #[.int .i64 xo, .string xp, .int .i64 xs, .string xk, .string xv] 23)
            have BW := hide (B3.out.alloc B3.out.size (Obj.cells #[.int .i64 xo, .string xp, .int .i64 xs, .string xk, .string xv] 23))
            have OLW := hide (OL3.out.alloc (Obj.cells #[.int .i64 xo, .string xp, .int .i64 xs, .string xk, .string xv] 23))
            have OAW := hide (OA3.out.alloc (Obj.cells #[.int .i64 xo, .string xp, .int .i64 xs, .string xk, .string xv] 23))
            generalize w3.alloc (Obj.cells #[.int .i64 xo, .string xp, .int .i64 xs, .string xk, .string xv] 23) = W at *
            generalize w3.heap.size = rb at *
            have hrb : rb < W.heap.size := (Array.getElem?_eq_some_iff.1 x3).1
            have X3 := hide x3
            obtain ⟨⟨c0, c1, c2, c3, c4⟩, _⟩ := box5 x3
            clear x3 B3 OL3 OA3
            have d0 := cell_regrown c0
            refine wp_region_quiet_below (by kernel_rfl) (by kernel_rfl) ?_
            repeat (go_big_quiet_step (first | fail))
            refine wpQuiet_nil ?_
            intro _ hw'
            obtain ⟨⟨dq, osq⟩, hw''⟩ := hw'
            subst hw''
            have hbn := below_regrown W dq osq
            clear d0
            have B4 := hide (BW.out.trans (hbn.mono BW.out.size))
            have OL4 := hide (K.own_below OLW.out hbn (Nat.le_refl _))
            have OA4 := hide (K.own_below OAW.out hbn (Nat.le_refl _))
            have x4 := (hbn.block rb hrb).trans X3.out
            generalize Go.Sort.grow (redrawn W dq) osq = W4 at *
            clear c0 c1 c2 c3 c4 X3 BW OLW OAW hbn hrb
            go_wp2
            refine bodyPost_ret (v := .tuple #[.slice lo out.length lc, .slice ao out.length ac, .int .i64 pos, .int .i64 11]) (by simp [results, Tryd.results31, go_sem]) rfl ?_
            rw [HEQ.out]
            exact ⟨_, _, rfl, OL4.out, OA4.out, B4.out⟩
          · have hb1d : decide (xo < base) = false := decide_eq_false hb1
            have hb1e : base ≤ xo := by omega
            rcases id LV.out with ⟨hz, hlb⟩ | ⟨k, hk, hk1, hlk, hbk⟩
            · skip
              have HK : Hid (GI s.data.toList 0 s.data.toList.length (out ++ [(⟨xo, xp, xs, xk, xv⟩, pos)]) (xo + 1) (pos + n) R) := by have := HGK.out; rw [hhd, if_neg (by omega)] at this; exact this rfl (HRT.out.1)
              have HL : Hid (LeastI base (out ++ [(⟨xo, xp, xs, xk, xv⟩, pos)]) (xo + 1)) := LeastI.snoc base out ⟨xo, xp, xs, xk, xv⟩ pos (by simp only; omega)
              clear hhd HGF HGK hlb hle
              go_wp2_with fail
              refine (HT2.out _).mono ?_
              rintro e w2 ⟨rfl, b2⟩
              have B2 := hide (BV.out.trans (b2.mono BV.out.size))
              have OL2 := hide (K.own_below OL.out b2 (Nat.le_refl _))
              have OA2 := hide (K.own_below OA.out b2 (Nat.le_refl _))
              clear b2 BV OL OA HT2
              go_wp2_with fail
              refine (HC.out _).mono ?_
              rintro e w3 ⟨rfl, b3⟩
              have B3 := hide (B2.out.trans (b3.mono B2.out.size))
              have OL3 := hide (K.own_below OL2.out b3 (Nat.le_refl _))
              have OA3 := hide (K.own_below OA2.out b3 (Nat.le_refl _))
              clear b3 B2 OL2 OA2 HC
              go_wp2_with fail
              have x3 := heap_alloc_new w3 (Obj.cells #[.int .i64 xo, .string xp, .int .i64 xs, .string xk, .string xv] 23)
              have BW := hide (B3.out.alloc B3.out.size (Obj.cells #[.int .i64 xo, .string xp, .int .i64 xs, .string xk, .string xv] 23))
              have OLW := hide (OL3.out.alloc (Obj.cells #[.int .i64 xo, .string xp, .int .i64 xs, .string xk, .string xv] 23))
              have OAW := hide (OA3.out.alloc (Obj.cells #[.int .i64 xo, .string xp, .int .i64 xs, .string xk, .string xv] 23))
              generalize w3.alloc (Obj.cells #[.int .i64 xo, .string xp, .int .i64 xs, .string xk, .string xv] 23) = W at *
              generalize w3.heap.size = rb at *
              have hrb : rb < W.heap.size := (Array.getElem?_eq_some_iff.1 x3).1
              have X3 := hide x3
              obtain ⟨⟨c0, c1, c2, c3, c4⟩, _⟩ := box5 x3
              clear x3 B3 OL3 OA3
              generalize hL : out.length = L at *
              subst hz
              have HLen := hide hL
              clear hL
              have d0 := cell_regrown c0
              refine wp_region_quiet_below (by kernel_rfl) (by kernel_rfl) ?_
              repeat (go_big_quiet_step (first | fail))
              refine wpQuiet_nil ?_
              intro _ hw'
              obtain ⟨⟨dq, osq⟩, hw''⟩ := hw'
              subst hw''
              have hbn := below_regrown W dq osq
              clear d0
              have B4 := hide (BW.out.trans (hbn.mono BW.out.size))
              have OL4 := hide (K.own_below OLW.out hbn (Nat.le_refl _))
              have OA4 := hide (K.own_below OAW.out hbn (Nat.le_refl _))
              have x4 := (hbn.block rb hrb).trans X3.out
              generalize Go.Sort.grow (redrawn W dq) osq = W4 at *
              clear c0 c1 c2 c3 c4 X3 BW OLW OAW hbn hrb
              have hrb4 : rb < W4.heap.size := (Array.getElem?_eq_some_iff.1 x4).1
              obtain ⟨⟨c0, c1, c2, c3, c4⟩, _⟩ := box5 x4
              clear x4
              go_wp2_with (at_builtin; refine wpList_append_own _ rfl _ _ 31 rfl w.heap.size 23 Tryd.t23 Rec.zero.v 5 64 Tryd.underlying31 ?hi ?hz ?hs ?hby rfl (by decide) _ _ _ rfl (OL4.out.alloc _) ⟨_, 0, none⟩ 1 1 (Rec.cells ⟨xo, xp, xs, xk, xv⟩) rfl rfl ?hnews ?h1 ?h63 ?hb47 ?hbase ?_)
              case hi => exact Tryd.infoRec
              case hz => exact Tryd.zeroRec
              case hs => exact Tryd.sizeRec
              case hby => exact Tryd.bytesRec
              case hnews => first | exact fun j u h => h | exact World.news_of_block (cs := #[.int .i64 xo, .string xp, .int .i64 xs, .string xk, .string xv]) (t := 23) (fr := (0, 0)) (heap_alloc_new W4 _)
              case h1 => exact Rec.ones _
              case h63 => unfold maxLen; omega
              case hb47 => omega
              case hbase => have := B4.out.size; simp; omega
              intro v' w5 hown hgrow _
              obtain ⟨no, nc, rfl⟩ := own_slice hown
              have B5 : Hid (Below w.heap.size w w5) := (B4.out.alloc B4.out.size _).grown hgrow (by have := B4.out.size; simp; omega) (fun k hk => (OL4.out.lt k hk).1)
              have OA5 := hide ((OA4.out.alloc _).kept hgrow (own_apart OA4.out OL4.out (by decide)))
              have OL5 : Hid (w5.ownsRow w.heap.size 23 5 (.slice no (0 + 1) nc) (0 + 1) (recCells (out ++ [((⟨xo, xp, xs, xk, xv⟩ : Rec), pos)]))) := by
                rw [recCells_snoc]
                exact hown
              clear hown hgrow B4 OA4 OL4 c0 c1 c2 c3 c4 hrb4
              go_wp2_with (at_builtin; refine wpList_append_own _ rfl _ _ 50 rfl w.heap.size 3 Tryd.t3 (.int .i64 0) 1 8 Tryd.underlying50 ?hi ?hz ?hs ?hby rfl (by decide) _ _ _ rfl (OA5.out.alloc _) ⟨_, 0, none⟩ 1 1 [.int .i64 pos] rfl rfl ?hnews ?h1 ?h63 ?hb47 ?hbase ?_)
              case hi => exact Tryd.infoInt
              case hz => exact Tryd.zeroInt
              case hs => exact Tryd.sizeInt
              case hby => exact Tryd.bytesInt
              case hnews => first | exact fun j u h => h | exact World.news_of_block (cs := #[.int .i64 pos]) (t := 3) (fr := (0, 0)) (heap_alloc_new w5 _)
              case h1 =>
                intro u hu
                simp at hu
                subst hu
                rfl
              case h63 => unfold maxLen; omega
              case hb47 => omega
              case hbase => have := B5.out.size; simp; omega
              intro v' w6 hown hgrow _
              obtain ⟨no2, nc2, rfl⟩ := own_slice hown
              have B6 : Hid (Below w.heap.size w w6) := (B5.out.alloc B5.out.size _).grown hgrow (by have := B5.out.size; simp; omega) (fun k hk => (OA5.out.lt k hk).1)
              have OL6 := hide ((OL5.out.alloc _).kept hgrow (own_apart OL5.out OA5.out (by decide)))
              have OA6 : Hid (w6.ownsRow w.heap.size 3 1 (.slice no2 (0 + 1) nc2) (0 + 1) (posCells (out ++ [((⟨xo, xp, xs, xk, xv⟩ : Rec), pos)]))) := by
                rw [posCells_snoc]
                exact hown
              clear hown hgrow B5 OA5 OL5
              have hLN : (out ++ [((⟨xo, xp, xs, xk, xv⟩ : Rec), pos)]).length = 0 + 1 := by rw [List.length_append, List.length_singleton, HLen.out]
              have hmany := HK.out.many
              rw [hLN] at hmany
              have HLN := hide hLN
              clear hLN
              go_wp2
              go_roundw
              case rel => exact ⟨out ++ [((⟨xo, xp, xs, xk, xv⟩ : Rec), pos)], xo + 1, pos + n, no, nc, no2, nc2, by rw [HLN.out], by rw [HLN.out], by go_num, by omega, by rw [HLN.out]; omega, HK.out, HL.out, B6.out, by rw [HLN.out]; exact OL6.out, by rw [HLN.out]; exact OA6.out⟩
              case measure => simp [intOf]; omega
            · have hk0 : (0 : Int) ≤ (k : Int) := by omega
              by_cases hb2 : xo ≤ out[k].1.off
              · have HEQ : Hid (R = (out, pos, 11)) := by have := HGF.out; rw [hhd, if_pos (by omega)] at this; exact this (by decide)
                clear hhd HGF HGK hlk hle
                go_wp2_with fail
                refine (HT2.out _).mono ?_
                rintro e w2 ⟨rfl, b2⟩
                have B2 := hide (BV.out.trans (b2.mono BV.out.size))
                have OL2 := hide (K.own_below OL.out b2 (Nat.le_refl _))
                have OA2 := hide (K.own_below OA.out b2 (Nat.le_refl _))
                clear b2 BV OL OA HT2
                go_wp2_with fail
                refine (HC.out _).mono ?_
                rintro e w3 ⟨rfl, b3⟩
                have B3 := hide (B2.out.trans (b3.mono B2.out.size))
                have OL3 := hide (K.own_below OL2.out b3 (Nat.le_refl _))
                have OA3 := hide (K.own_below OA2.out b3 (Nat.le_refl _))
                clear b3 B2 OL2 OA2 HC
                go_wp2_with fail
                have x3 := heap_alloc_new w3 (Obj.cells #[.int .i64 xo, .string xp, .int .i64 xs, .string xk, .string xv] 23)
                have BW := hide (B3.out.alloc B3.out.size (Obj.cells #[.int .i64 xo, .string xp, .int .i64 xs, .string xk, .string xv] 23))
                have OLW := hide (OL3.out.alloc (Obj.cells #[.int .i64 xo, .string xp, .int .i64 xs, .string xk, .string xv] 23))
                have OAW := hide (OA3.out.alloc (Obj.cells #[.int .i64 xo, .string xp, .int .i64 xs, .string xk, .string xv] 23))
                generalize w3.alloc (Obj.cells #[.int .i64 xo, .string xp, .int .i64 xs, .string xk, .string xv] 23) = W at *
                generalize w3.heap.size = rb at *
                have hrb : rb < W.heap.size := (Array.getElem?_eq_some_iff.1 x3).1
                have X3 := hide x3
                obtain ⟨⟨c0, c1, c2, c3, c4⟩, _⟩ := box5 x3
                clear x3 B3 OL3 OA3
                obtain ⟨z0, bb, off', rfl, hbb, a0, z1, z2, z3, z4⟩ := (recs_of_own OLW.out).five k (by simpa using hk)
                have a9 : W.cell? ⟨bb, off' + k * 5, none⟩ = some (.int .i64 out[k].1.off) := by simpa using a0
                clear a0 hbb z0 z1 z2 z3 z4
                generalize out[k].1.off = last at *
                have e9 := cell_regrown a9
                clear hk
                generalize hL : out.length = L at *
                subst hk1
                have HLen := hide hL
                clear hL
                have d0 := cell_regrown c0
                refine wp_region_quiet_below (by kernel_rfl) (by kernel_rfl) ?_
                repeat (go_big_quiet_step (first | fail))
                refine wpQuiet_nil ?_
                intro _ hw'
                obtain ⟨⟨dq, osq⟩, hw''⟩ := hw'
                subst hw''
                have hbn := below_regrown W dq osq
                clear d0 a9 e9
                have B4 := hide (BW.out.trans (hbn.mono BW.out.size))
                have OL4 := hide (K.own_below OLW.out hbn (Nat.le_refl _))
                have OA4 := hide (K.own_below OAW.out hbn (Nat.le_refl _))
                have x4 := (hbn.block rb hrb).trans X3.out
                generalize Go.Sort.grow (redrawn W dq) osq = W4 at *
                clear c0 c1 c2 c3 c4 X3 BW OLW OAW hbn hrb
                go_wp2
                refine bodyPost_ret (v := .tuple #[.slice (some ⟨bb, off', none⟩) (k + 1) lc, .slice ao (k + 1) ac, .int .i64 pos, .int .i64 11]) (by simp [results, Tryd.results31, go_sem]) rfl ?_
                rw [HEQ.out, ← HLen.out]
                exact ⟨_, _, rfl, by rw [HLen.out]; exact OL4.out, by rw [HLen.out]; exact OA4.out, B4.out⟩
              · have HK : Hid (GI s.data.toList 0 s.data.toList.length (out ++ [(⟨xo, xp, xs, xk, xv⟩, pos)]) (xo + 1) (pos + n) R) := by have := HGK.out; rw [hhd, if_neg (by omega)] at this; exact this rfl (HRT.out.1)
                have HL : Hid (LeastI base (out ++ [(⟨xo, xp, xs, xk, xv⟩, pos)]) (xo + 1)) := LeastI.snoc base out ⟨xo, xp, xs, xk, xv⟩ pos (by simp only; omega)
                clear hhd HGF HGK hlk hle
                go_wp2_with fail
                refine (HT2.out _).mono ?_
                rintro e w2 ⟨rfl, b2⟩
                have B2 := hide (BV.out.trans (b2.mono BV.out.size))
                have OL2 := hide (K.own_below OL.out b2 (Nat.le_refl _))
                have OA2 := hide (K.own_below OA.out b2 (Nat.le_refl _))
                clear b2 BV OL OA HT2
                go_wp2_with fail
                refine (HC.out _).mono ?_
                rintro e w3 ⟨rfl, b3⟩
                have B3 := hide (B2.out.trans (b3.mono B2.out.size))
                have OL3 := hide (K.own_below OL2.out b3 (Nat.le_refl _))
                have OA3 := hide (K.own_below OA2.out b3 (Nat.le_refl _))
                clear b3 B2 OL2 OA2 HC
                go_wp2_with fail
                have x3 := heap_alloc_new w3 (Obj.cells #[.int .i64 xo, .string xp, .int .i64 xs, .string xk, .string xv] 23)
                have BW := hide (B3.out.alloc B3.out.size (Obj.cells #[.int .i64 xo, .string xp, .int .i64 xs, .string xk, .string xv] 23))
                have OLW := hide (OL3.out.alloc (Obj.cells #[.int .i64 xo, .string xp, .int .i64 xs, .string xk, .string xv] 23))
                have OAW := hide (OA3.out.alloc (Obj.cells #[.int .i64 xo, .string xp, .int .i64 xs, .string xk, .string xv] 23))
                generalize w3.alloc (Obj.cells #[.int .i64 xo, .string xp, .int .i64 xs, .string xk, .string xv] 23) = W at *
                generalize w3.heap.size = rb at *
                have hrb : rb < W.heap.size := (Array.getElem?_eq_some_iff.1 x3).1
                have X3 := hide x3
                obtain ⟨⟨c0, c1, c2, c3, c4⟩, _⟩ := box5 x3
                clear x3 B3 OL3 OA3
                obtain ⟨z0, bb, off', rfl, hbb, a0, z1, z2, z3, z4⟩ := (recs_of_own OLW.out).five k (by simpa using hk)
                have a9 : W.cell? ⟨bb, off' + k * 5, none⟩ = some (.int .i64 out[k].1.off) := by simpa using a0
                clear a0 hbb z0 z1 z2 z3 z4
                generalize out[k].1.off = last at *
                have e9 := cell_regrown a9
                clear hk
                generalize hL : out.length = L at *
                subst hk1
                have HLen := hide hL
                clear hL
                have d0 := cell_regrown c0
                refine wp_region_quiet_below (by kernel_rfl) (by kernel_rfl) ?_
                repeat (go_big_quiet_step (first | fail))
                refine wpQuiet_nil ?_
                intro _ hw'
                obtain ⟨⟨dq, osq⟩, hw''⟩ := hw'
                subst hw''
                have hbn := below_regrown W dq osq
                clear d0 a9 e9
                have B4 := hide (BW.out.trans (hbn.mono BW.out.size))
                have OL4 := hide (K.own_below OLW.out hbn (Nat.le_refl _))
                have OA4 := hide (K.own_below OAW.out hbn (Nat.le_refl _))
                have x4 := (hbn.block rb hrb).trans X3.out
                generalize Go.Sort.grow (redrawn W dq) osq = W4 at *
                clear c0 c1 c2 c3 c4 X3 BW OLW OAW hbn hrb
                have hrb4 : rb < W4.heap.size := (Array.getElem?_eq_some_iff.1 x4).1
                obtain ⟨⟨c0, c1, c2, c3, c4⟩, _⟩ := box5 x4
                clear x4
                go_wp2_with (at_builtin; refine wpList_append_own _ rfl _ _ 31 rfl w.heap.size 23 Tryd.t23 Rec.zero.v 5 64 Tryd.underlying31 ?hi ?hz ?hs ?hby rfl (by decide) _ _ _ rfl (OL4.out.alloc _) ⟨_, 0, none⟩ 1 1 (Rec.cells ⟨xo, xp, xs, xk, xv⟩) rfl rfl ?hnews ?h1 ?h63 ?hb47 ?hbase ?_)
                case hi => exact Tryd.infoRec
                case hz => exact Tryd.zeroRec
                case hs => exact Tryd.sizeRec
                case hby => exact Tryd.bytesRec
                case hnews => first | exact fun j u h => h | exact World.news_of_block (cs := #[.int .i64 xo, .string xp, .int .i64 xs, .string xk, .string xv]) (t := 23) (fr := (0, 0)) (heap_alloc_new W4 _)
                case h1 => exact Rec.ones _
                case h63 => unfold maxLen; omega
                case hb47 => omega
                case hbase => have := B4.out.size; simp; omega
                intro v' w5 hown hgrow _
                obtain ⟨no, nc, rfl⟩ := own_slice hown
                have B5 : Hid (Below w.heap.size w w5) := (B4.out.alloc B4.out.size _).grown hgrow (by have := B4.out.size; simp; omega) (fun k hk => (OL4.out.lt k hk).1)
                have OA5 := hide ((OA4.out.alloc _).kept hgrow (own_apart OA4.out OL4.out (by decide)))
                have OL5 : Hid (w5.ownsRow w.heap.size 23 5 (.slice no ((k + 1) + 1) nc) ((k + 1) + 1) (recCells (out ++ [((⟨xo, xp, xs, xk, xv⟩ : Rec), pos)]))) := by
                  rw [recCells_snoc]
                  exact hown
                clear hown hgrow B4 OA4 OL4 c0 c1 c2 c3 c4 hrb4
                go_wp2_with (at_builtin; refine wpList_append_own _ rfl _ _ 50 rfl w.heap.size 3 Tryd.t3 (.int .i64 0) 1 8 Tryd.underlying50 ?hi ?hz ?hs ?hby rfl (by decide) _ _ _ rfl (OA5.out.alloc _) ⟨_, 0, none⟩ 1 1 [.int .i64 pos] rfl rfl ?hnews ?h1 ?h63 ?hb47 ?hbase ?_)
                case hi => exact Tryd.infoInt
                case hz => exact Tryd.zeroInt
                case hs => exact Tryd.sizeInt
                case hby => exact Tryd.bytesInt
                case hnews => first | exact fun j u h => h | exact World.news_of_block (cs := #[.int .i64 pos]) (t := 3) (fr := (0, 0)) (heap_alloc_new w5 _)
                case h1 =>
                  intro u hu
                  simp at hu
                  subst hu
                  rfl
                case h63 => unfold maxLen; omega
                case hb47 => omega
                case hbase => have := B5.out.size; simp; omega
                intro v' w6 hown hgrow _
                obtain ⟨no2, nc2, rfl⟩ := own_slice hown
                have B6 : Hid (Below w.heap.size w w6) := (B5.out.alloc B5.out.size _).grown hgrow (by have := B5.out.size; simp; omega) (fun k hk => (OA5.out.lt k hk).1)
                have OL6 := hide ((OL5.out.alloc _).kept hgrow (own_apart OL5.out OA5.out (by decide)))
                have OA6 : Hid (w6.ownsRow w.heap.size 3 1 (.slice no2 ((k + 1) + 1) nc2) ((k + 1) + 1) (posCells (out ++ [((⟨xo, xp, xs, xk, xv⟩ : Rec), pos)]))) := by
                  rw [posCells_snoc]
                  exact hown
                clear hown hgrow B5 OA5 OL5
                have hLN : (out ++ [((⟨xo, xp, xs, xk, xv⟩ : Rec), pos)]).length = (k + 1) + 1 := by rw [List.length_append, List.length_singleton, HLen.out]
                have hmany := HK.out.many
                rw [hLN] at hmany
                have HLN := hide hLN
                clear hLN
                go_wp2
                go_roundw
                case rel => exact ⟨out ++ [((⟨xo, xp, xs, xk, xv⟩ : Rec), pos)], xo + 1, pos + n, no, nc, no2, nc2, by rw [HLN.out], by rw [HLN.out], by go_num, by omega, by rw [HLN.out]; omega, HK.out, HL.out, B6.out, by rw [HLN.out]; exact OL6.out, by rw [HLN.out]; exact OA6.out⟩
                case measure => simp [intOf]; omega
      · have HEQ : Hid (R = (out, pos, er)) := by have := HGF.out; rw [h3 he] at this; exact this he
        have hne : (er != 0) = true := by rw [bne_iff_ne]; exact he
        clear h1 h2 h3 HGF HGK hn he
        go_wp2_with fail
        refine (HT2.out _).mono ?_
        rintro e w2 ⟨rfl, b2⟩
        have B2 := hide (BV.out.trans (b2.mono BV.out.size))
        have OL2 := hide (K.own_below OL.out b2 (Nat.le_refl _))
        have OA2 := hide (K.own_below OA.out b2 (Nat.le_refl _))
        clear b2 BV OL OA HT2
        go_wp2
        refine bodyPost_ret (v := .tuple #[.slice lo out.length lc, .slice ao out.length ac, .int .i64 pos, .int .i64 er]) (by simp [results, Tryd.results31, go_sem]) rfl ?_
        rw [HEQ.out]
        exact ⟨_, _, rfl, OL2.out, OA2.out, B2.out⟩
    · have e := GV.out.done (.inl (by rw [size_list]; omega))
      have HEQ := hide e
      clear e
      go_wp2
      refine bodyPost_ret (v := .tuple #[.slice lo out.length lc, .slice ao out.length ac, .int .i64 pos, .int .i64 0]) (by simp [results, Tryd.results31, go_sem]) rfl ?_
      rw [HEQ.out]
      exact ⟨_, _, rfl, OL.out, OA.out, BV.out⟩
end Go.Proofs.YtgnehnlmbodijaaDoor
