/-
  The laws' own rising: records with offsets that rise, made of any.
-/
import Derived.Test.YtgnehnlmbodijaaDoorZL2
namespace Go.Proofs.YtgnehnlmbodijaaDoor
open Go.RowKit

theorem rises_snoc (lo : Int) (out : List Rec) (r : Rec) (h : Rises lo out) (hr : RightP r) (hn : nextR lo out ≤ r.off) : Rises lo (out ++ [r]) ∧ nextR lo (out ++ [r]) = r.off + 1 := by
  induction out generalizing lo with
  | nil => exact ⟨⟨hr, hn, trivial⟩, rfl⟩
  | cons x l ih =>
    obtain ⟨h1, h2, h3⟩ := h
    obtain ⟨g1, g2⟩ := ih (x.off + 1) h3 hn
    exact ⟨⟨h1, h2, g1⟩, g2⟩
theorem rises_right (lo : Int) (out : List Rec) (h : Rises lo out) : ∀ r ∈ out, RightP r := by
  induction out generalizing lo with
  | nil => intro r hr; cases hr
  | cons x l ih =>
    obtain ⟨h1, h2, h3⟩ := h
    intro r hr
    rcases List.mem_cons.1 hr with rfl | hr
    · exact h1
    · exact ih _ h3 r hr
def stepF (off : Int) : Int := (if off < 0 then -(off + 1) else off) % 5
def withOff (r : Rec) (o : Int) : Rec := ⟨o, r.prod, r.seq, r.key, r.val⟩
/-- What rising has made so far. -/
structure RisI (k : Nat) (out : List Rec) (at' : Int) : Prop where
  rises : Rises 0 out
  next : nextR 0 out = at'
  len : out.length ≤ k
  lo : 0 ≤ at'
  hi : at' ≤ 9007199254740992
theorem RisI.init : RisI 0 [] 0 := ⟨trivial, rfl, Nat.le_refl _, Int.le_refl _, by omega⟩
theorem RisI.keep {k : Nat} {out : List Rec} {at' : Int} (h : RisI k out at') (r : Rec) (o : Int) (ho : at' ≤ o) (hr : RightP (withOff r o)) : RisI (k + 1) (out ++ [withOff r o]) (o + 1) := by
  obtain ⟨g1, g2⟩ := rises_snoc 0 out (withOff r o) h.rises hr (by rw [h.next]; exact ho)
  obtain ⟨r1, r2, _⟩ := hr
  have e : (withOff r o).off = o := rfl
  rw [e] at r1 r2 g2
  exact ⟨g1, g2, by rw [List.length_append, List.length_singleton]; have := h.len; omega, by omega, by omega⟩
theorem RisI.pass {k : Nat} {out : List Rec} {at' : Int} (h : RisI k out at') : RisI (k + 1) out at' := ⟨h.rises, h.next, by have := h.len; omega, h.lo, h.hi⟩
def recRow (out : List Rec) : List Value := out.flatMap Rec.cells
theorem recRow_snoc (out : List Rec) (r : Rec) : recRow (out ++ [r]) = recRow out ++ r.cells := by simp [recRow]
theorem tmod_neg5 (x : Int) (h : x ≤ 0) : -4 ≤ x.tmod 5 ∧ x.tmod 5 ≤ 0 := by
  have h1 := Int.tmod_eq_emod_of_nonneg (a := -x) (b := 5) (by omega)
  rw [Int.neg_tmod] at h1
  omega
set_option maxHeartbeats 1000000 in
theorem rising_any (l : List Rec) (v : Value) (w : World) (_hl : l.length ≤ 4611686018427387904) (hok : ∀ r ∈ l, r.ok) (ha : RecsAt w v l) :
    Calls Tryd.prog 23 #[v] w fun e w' => ∃ v' out, e = .returned v' ∧ Rises 0 out ∧ out.length ≤ 30 ∧ w'.ownsRow w.heap.size 23 5 v' out.length (recRow out) ∧ Below w.heap.size w w' := by
  obtain ⟨ao, ac, rfl, _, _⟩ := id ha
  have HA := hide ha
  have HOK := hide hok
  clear ha hok
  go_enter Tryd.func23, Tryd.ntmps23
  go_wp2
  go_loopw [3, 4, 5] (fun xv av iv wv => ∃ (k : Nat) (out : List Rec) (a : Int) (xo : Option Addr) (xc : Nat), k ≤ l.length ∧ k ≤ 30 ∧ xv = .slice xo out.length xc ∧ av = .int .i64 a ∧ iv = .int .i64 k ∧ Hid (RisI k out a) ∧ Hid (Below w.heap.size w wv) ∧ Hid (wv.ownsRow w.heap.size 23 5 (.slice xo out.length xc) out.length (recRow out))) (fun _ _ iv _ => 30 - (intOf iv).toNat)
  case atStart => exact ⟨0, [], 0, none, 0, Nat.zero_le _, by omega, rfl, rfl, rfl, RisI.init, Below.refl _ _, nil_own _ _ _ _⟩
  case round =>
    obtain ⟨k, out, a, xo, xc, hk, hk30, rfl, rfl, rfl, RI, BV, OV⟩ := hrel
    by_cases hlt : k < l.length ∧ k < 30
    · obtain ⟨hk1, hk2⟩ := hlt
      have hko := HOK.out l[k] (List.getElem_mem hk1)
      obtain ⟨_, b, off, rfl, hb, a0, a1, a2, a3, a4⟩ := (HA.out.below BV.out).five k hk1
      have hi0 : (0 : Int) ≤ (k : Int) := by omega
      have hi1 : (k : Int) < (l.length : Int) := by omega
      have hi2 : (k : Int) < 30 := by omega
      have hlo := RI.out.lo
      have hhi := RI.out.hi
      have hol := RI.out.len
      generalize l[k] = x at *
      obtain ⟨xof, xp, xs, xk, xv⟩ := x
      obtain ⟨o1, o2, o3, o4, o5, o6, o7⟩ := hko
      simp only at a0 a1 a2 a3 a4 o1 o2 o3 o4 o5 o6 o7
      by_cases hneg : xof < 0
      · have ht := tmod_neg5 (xof + 1) (by omega)
        obtain ⟨o, ho⟩ : ∃ o, wrap64 (a + -(xof + 1).tmod 5) = o := ⟨_, rfl⟩
        have hoo : a ≤ o ∧ o ≤ a + 4 := by
          rw [← ho, in64 _ (by omega) (by omega)]
          omega
        clear ht
        go_wp2_with fail
        obtain ⟨ho1, ho2⟩ := hoo
        have hro : Rec.ok ⟨o, xp, xs, xk, xv⟩ := ⟨by simp only; omega, by simp only; omega, o3, o4, o5, o6, o7⟩
        have HP := hide (right_any ⟨o, xp, xs, xk, xv⟩ hro)
        simp only [Rec.v] at HP
        refine (HP.out _).mono ?_
        rintro e w2 ⟨rfl, b2⟩
        have x2 := (b2.block wr.heap.size (by simp)).trans (heap_alloc_new wr _)
        have B2 : Hid (Below w.heap.size w w2) := (BV.out.alloc BV.out.size _).trans (b2.mono (BV.out.alloc BV.out.size _).size)
        have O2 : Hid (w2.ownsRow w.heap.size 23 5 (.slice xo out.length xc) out.length (recRow out)) := K.own_below (OV.out.alloc _) b2 (Nat.le_refl _)
        obtain ⟨⟨c0, c1, c2, c3, c4⟩, _⟩ := box5 x2
        have hg2 : wr.heap.size < w2.heap.size := (Array.getElem?_eq_some_iff.1 x2).1
        have hgn : wr.heap.size ≠ w2.heap.size := by omega
        have hrow : (Value.slice xo out.length xc).ownBlock ≠ some wr.heap.size := fun e => by have := (OV.out.lt _ e).2; omega
        have HROW := hide hrow
        clear hrow
        clear b2 x2 a0 a1 a2 a3 a4 hb HP BV OV
        by_cases hrt : RightP ⟨o, xp, xs, xk, xv⟩
        · have RK := hide (RI.out.keep ⟨xof, xp, xs, xk, xv⟩ o ho1 hrt)
          have hro2 := hrt.out
          simp only [decide_eq_true hrt]
          clear hrt RI
          go_wp2_with (at_builtin; refine wpList_append_own _ rfl _ _ 31 rfl w.heap.size 23 Tryd.t23 Rec.zero.v 5 64 Tryd.underlying31 ?hi ?hz ?hs ?hby rfl (by decide) _ _ _ rfl (O2.out.alloc _) ⟨_, 0, none⟩ 1 1 (Rec.cells ⟨o, xp, xs, xk, xv⟩) rfl rfl ?hnews ?h1 ?h63 ?hb47 ?hbase ?_)
          case hi => exact Tryd.infoRec
          case hz => exact Tryd.zeroRec
          case hs => exact Tryd.sizeRec
          case hby => exact Tryd.bytesRec
          case hnews => exact World.news_of_block (cs := #[.int .i64 o, .string xp, .int .i64 xs, .string xk, .string xv]) (t := 23) (fr := (0, 0)) (heap_alloc_new w2 _)
          case h1 => exact Rec.ones _
          case h63 => unfold maxLen; omega
          case hb47 => omega
          case hbase => have := B2.out.size; simp; omega
          intro v' w4 hown hgrow _
          obtain ⟨no, nc, rfl⟩ := own_slice hown
          have B4 : Hid (Below w.heap.size w w4) := (B2.out.alloc B2.out.size _).grown hgrow (by have := B2.out.size; simp; omega) (fun k hk => (O2.out.lt k hk).1)
          have O4 : Hid (w4.ownsRow w.heap.size 23 5 (.slice no (out ++ [withOff ⟨xof, xp, xs, xk, xv⟩ o]).length nc) (out ++ [withOff ⟨xof, xp, xs, xk, xv⟩ o]).length (recRow (out ++ [withOff ⟨xof, xp, xs, xk, xv⟩ o]))) := by
            rw [recRow_snoc, List.length_append, List.length_singleton]
            exact hown
          have x4 : w4.cell? ⟨wr.heap.size, 0, none⟩ = some (.int .i64 o) := by
            have t1 : Touch (fun k => (Value.slice xo out.length xc).ownBlock = some k) w2 w4 := ((Touch.refl _ w2).alloc _).grown hgrow fun k e _ => e
            exact t1.cell _ c0 fun e => HROW.out e
          clear hown hgrow
          go_wp2
          go_roundw
          case rel => exact ⟨k + 1, out ++ [withOff ⟨xof, xp, xs, xk, xv⟩ o], o + 1, no, nc, by omega, by omega, by simp, by go_num, by go_num, RK.out, B4.out, O4.out⟩
          case measure => simp [intOf]; omega
        · simp only [decide_eq_false hrt]
          have RP := hide RI.out.pass
          clear hrt RI
          go_wp2
          go_roundw
          case rel => exact ⟨k + 1, out, a, xo, xc, by omega, by omega, rfl, rfl, by go_num, RP.out, B2.out, O2.out⟩
          case measure => simp [intOf]; omega
      · obtain ⟨o, ho⟩ : ∃ o, a + xof % 5 = o := ⟨_, rfl⟩
        have hoo : a ≤ o ∧ o ≤ a + 4 := by omega
        go_wp2_with fail
        obtain ⟨ho1, ho2⟩ := hoo
        have hro : Rec.ok ⟨o, xp, xs, xk, xv⟩ := ⟨by simp only; omega, by simp only; omega, o3, o4, o5, o6, o7⟩
        have HP := hide (right_any ⟨o, xp, xs, xk, xv⟩ hro)
        simp only [Rec.v] at HP
        refine (HP.out _).mono ?_
        rintro e w2 ⟨rfl, b2⟩
        have x2 := (b2.block wr.heap.size (by simp)).trans (heap_alloc_new wr _)
        have B2 : Hid (Below w.heap.size w w2) := (BV.out.alloc BV.out.size _).trans (b2.mono (BV.out.alloc BV.out.size _).size)
        have O2 : Hid (w2.ownsRow w.heap.size 23 5 (.slice xo out.length xc) out.length (recRow out)) := K.own_below (OV.out.alloc _) b2 (Nat.le_refl _)
        obtain ⟨⟨c0, c1, c2, c3, c4⟩, _⟩ := box5 x2
        have hg2 : wr.heap.size < w2.heap.size := (Array.getElem?_eq_some_iff.1 x2).1
        have hgn : wr.heap.size ≠ w2.heap.size := by omega
        have hrow : (Value.slice xo out.length xc).ownBlock ≠ some wr.heap.size := fun e => by have := (OV.out.lt _ e).2; omega
        have HROW := hide hrow
        clear hrow
        clear b2 x2 a0 a1 a2 a3 a4 hb HP BV OV
        by_cases hrt : RightP ⟨o, xp, xs, xk, xv⟩
        · have RK := hide (RI.out.keep ⟨xof, xp, xs, xk, xv⟩ o ho1 hrt)
          have hro2 := hrt.out
          simp only [decide_eq_true hrt]
          clear hrt RI
          go_wp2_with (at_builtin; refine wpList_append_own _ rfl _ _ 31 rfl w.heap.size 23 Tryd.t23 Rec.zero.v 5 64 Tryd.underlying31 ?hi ?hz ?hs ?hby rfl (by decide) _ _ _ rfl (O2.out.alloc _) ⟨_, 0, none⟩ 1 1 (Rec.cells ⟨o, xp, xs, xk, xv⟩) rfl rfl ?hnews ?h1 ?h63 ?hb47 ?hbase ?_)
          case hi => exact Tryd.infoRec
          case hz => exact Tryd.zeroRec
          case hs => exact Tryd.sizeRec
          case hby => exact Tryd.bytesRec
          case hnews => exact World.news_of_block (cs := #[.int .i64 o, .string xp, .int .i64 xs, .string xk, .string xv]) (t := 23) (fr := (0, 0)) (heap_alloc_new w2 _)
          case h1 => exact Rec.ones _
          case h63 => unfold maxLen; omega
          case hb47 => omega
          case hbase => have := B2.out.size; simp; omega
          intro v' w4 hown hgrow _
          obtain ⟨no, nc, rfl⟩ := own_slice hown
          have B4 : Hid (Below w.heap.size w w4) := (B2.out.alloc B2.out.size _).grown hgrow (by have := B2.out.size; simp; omega) (fun k hk => (O2.out.lt k hk).1)
          have O4 : Hid (w4.ownsRow w.heap.size 23 5 (.slice no (out ++ [withOff ⟨xof, xp, xs, xk, xv⟩ o]).length nc) (out ++ [withOff ⟨xof, xp, xs, xk, xv⟩ o]).length (recRow (out ++ [withOff ⟨xof, xp, xs, xk, xv⟩ o]))) := by
            rw [recRow_snoc, List.length_append, List.length_singleton]
            exact hown
          have x4 : w4.cell? ⟨wr.heap.size, 0, none⟩ = some (.int .i64 o) := by
            have t1 : Touch (fun k => (Value.slice xo out.length xc).ownBlock = some k) w2 w4 := ((Touch.refl _ w2).alloc _).grown hgrow fun k e _ => e
            exact t1.cell _ c0 fun e => HROW.out e
          clear hown hgrow
          go_wp2
          go_roundw
          case rel => exact ⟨k + 1, out ++ [withOff ⟨xof, xp, xs, xk, xv⟩ o], o + 1, no, nc, by omega, by omega, by simp, by go_num, by go_num, RK.out, B4.out, O4.out⟩
          case measure => simp [intOf]; omega
        · simp only [decide_eq_false hrt]
          have RP := hide RI.out.pass
          clear hrt RI
          go_wp2
          go_roundw
          case rel => exact ⟨k + 1, out, a, xo, xc, by omega, by omega, rfl, rfl, by go_num, RP.out, B2.out, O2.out⟩
          case measure => simp [intOf]; omega
    · have hend : ¬ ((k : Int) < (l.length : Int) ∧ (k : Int) < 30) := by omega
      by_cases h1 : (k : Int) < (l.length : Int)
      · have h2 : ¬ (k : Int) < 30 := by omega
        go_wp2
        go_ret
        exact ⟨_, rfl, out, RI.out.rises, by have := RI.out.len; omega, OV.out, BV.out⟩
      · go_wp2
        go_ret
        exact ⟨_, rfl, out, RI.out.rises, by have := RI.out.len; omega, OV.out, BV.out⟩
end Go.Proofs.YtgnehnlmbodijaaDoor
