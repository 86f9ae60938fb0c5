/-
  The document's own Decode, as it runs (mkp5.py).
-/
import Derived.Test.YtpopamechapmmaaZP4
import Derived.Test.YtpopamechapmmaaZR1
import Derived.Deep.DeepCutAuto
import Derived.BigRegion
namespace Go.Proofs.Ytpopamechapmmaa
open Go.RowKit

theorem xdec_call (s : ByteArray) (h : s.size ≤ 9223372036854775807) (w : World) : Calls Try.prog 22 #[.string ⟨#[108, 98, 108, 98, 116]⟩, .string s] w fun e w' => ∃ v, e = .returned (.tuple #[v, .int .i64 (K.decF shapeA s.data.toList).2]) ∧ w'.ownsRow w.heap.size 54 3 v (K.decF shapeA s.data.toList).1.length (K.itemCells (K.decF shapeA s.data.toList).1) ∧ Below w.heap.size w w' :=
  K.rdecode_any ⟨#[108, 98, 108, 98, 116]⟩ s w (by decide) h _ rfl
set_option maxHeartbeats 4000000 in
set_option linter.unusedSimpArgs false in
theorem xdec_any (s : ByteArray) (h63 : s.size ≤ 9223372036854775807) (w : World) :
    Calls Try.prog 10 #[.string s] w fun e w' => e = .returned (.tuple #[(decA s.data.toList).1.d, .int .i64 (decA s.data.toList).2]) ∧ Below w.heap.size w w' := by
  have HD := hide (xdec_call s h63)
  clear h63
  by_cases hd : (K.decF shapeA s.data.toList).2 = 0
  · obtain ⟨a, b, c, d, e, h5⟩ := dec_five _ hd
    have e5 : K.decF shapeA s.data.toList = ([a, b, c, d, e], 0) := Prod.ext h5 hd
    obtain ⟨⟨a1, a2⟩, ⟨b1, b2⟩, ⟨c1, c2⟩, ⟨d1, d2⟩, es⟩ := dec_bounds e5
    rw [e5] at HD
    have AR := hide (fun W => rrightA ⟨⟨a.n, b.n⟩, ⟨c.n, d.n⟩, e.s⟩ (by simp only; omega) W)
    have NR : Hid (9007199254740991 < a.n ∨ 9007199254740991 < c.n → ¬ AC.right ⟨⟨a.n, b.n⟩, ⟨c.n, d.n⟩, e.s⟩ = true) := fun h hr => by
      obtain ⟨⟨_, h2, _⟩, ⟨_, h6, _⟩, _⟩ := right_bounds hr
      simp only at h2 h6
      omega
    have HF : Hid (∀ {W : World} {B : Nat} {v : Value}, W.ownsRow B 54 3 v [a, b, c, d, e].length (K.itemCells [a, b, c, d, e]) → ∃ g off cap, v = .slice (some ⟨g, off, none⟩) 5 cap ∧ g < W.heap.size ∧ W.cell? ⟨g, off + 1, none⟩ = some (.int .u64 a.n) ∧ W.cell? ⟨g, off + 4, none⟩ = some (.int .u64 b.n) ∧ W.cell? ⟨g, off + 7, none⟩ = some (.int .u64 c.n) ∧ W.cell? ⟨g, off + 10, none⟩ = some (.int .u64 d.n) ∧ W.cell? ⟨g, off + 14, none⟩ = some (.string e.s)) := fun ho => by
      obtain ⟨g, off, cap, hv, hg, _, f1, _, _, f4, _, _, f7, _, _, f10, _, f14⟩ := five_at ho
      exact ⟨g, off, cap, hv, hg, f1, f4, f7, f10, f14⟩
    have DG := hide (@decA_good s.data.toList a b c d e e5)
    have DN := hide (@decA_none s.data.toList a b c d e e5)
    generalize decA s.data.toList = DD at *
    obtain ⟨an, hn1⟩ : ∃ x, a.n = x := ⟨_, rfl⟩
    obtain ⟨bn, hn2⟩ : ∃ x, b.n = x := ⟨_, rfl⟩
    obtain ⟨cn, hn3⟩ : ∃ x, c.n = x := ⟨_, rfl⟩
    obtain ⟨dn, hn4⟩ : ∃ x, d.n = x := ⟨_, rfl⟩
    obtain ⟨es, hn5⟩ : ∃ x, e.s = x := ⟨_, rfl⟩
    rw [hn1, hn2, hn3, hn4, hn5] at AR HF NR DG DN
    rw [hn1] at a1 a2
    rw [hn2] at b1 b2
    rw [hn3] at c1 c2
    rw [hn4] at d1 d2
    clear hn1 hn2 hn3 hn4 hn5 h5 e5 hd
    by_cases g1 : 9007199254740991 < an
    · have hD := DN.out (NR.out (.inl g1))
      subst hD
      simp only [AC.d, AC.zero] at *
      clear DG DN NR AR
      go_enter Try.func10, Try.ntmps10
      go_wp2_with fail
      refine (HD.out _).mono ?_
      rintro e w1 ⟨v, rfl, ho, bb⟩
      have X : Hid (w1.heap[w.heap.size]? = some (.cells #[.int .i64 0, .int .i64 0, .int .i64 0, .int .i64 0, .string ⟨#[]⟩] 25)) := hide (Below.at bb (heap_alloc_new w (.cells #[.int .i64 0, .int .i64 0, .int .i64 0, .int .i64 0, .string ⟨#[]⟩] 25)))
      have B := hide (bthen (below_new (Below.refl _ w) (.cells #[.int .i64 0, .int .i64 0, .int .i64 0, .int .i64 0, .string ⟨#[]⟩] 25)) bb)
      clear bb
      obtain ⟨g, off, cap, rfl, hg, f1, f4, f7, f10, f14⟩ := HF.out ho
      clear ho HF HD
      have cX0 := box_cell X.out 0 rfl
      have fX0 := box_free X.out 0
      have cX1 := box_cell X.out 1 rfl
      have fX1 := box_free X.out 1
      have cX2 := box_cell X.out 2 rfl
      have fX2 := box_free X.out 2
      have cX3 := box_cell X.out 3 rfl
      have fX3 := box_free X.out 3
      have cX4 := box_cell X.out 4 rfl
      have fX4 := box_free X.out 4
      go_wp2
      have K := box5 (set5_box (.int .i64 0) (.int .i64 0) (.int .i64 0) (.int .i64 0) (.string ⟨#[]⟩) X.out)
      simp only [set5] at K
      obtain ⟨⟨k0, k1, k2, k3, k4⟩, _⟩ := K
      refine bodyPost_ret (v := .tuple #[.agg #[.int .i64 0, .int .i64 0, .int .i64 0, .int .i64 0, .string ⟨#[]⟩], .int .i64 10]) (by simp [results, Try.results10, go_sem, k0, k1, k2, k3, k4]) rfl ⟨rfl, ?_⟩
      exact set5_below _ _ _ _ _ B.out (Nat.le_refl _)
    · by_cases g2 : 9007199254740991 < cn
      · have hD := DN.out (NR.out (.inr g2))
        subst hD
        simp only [AC.d, AC.zero] at *
        clear DG DN NR AR
        go_enter Try.func10, Try.ntmps10
        go_wp2_with fail
        refine (HD.out _).mono ?_
        rintro e w1 ⟨v, rfl, ho, bb⟩
        have X : Hid (w1.heap[w.heap.size]? = some (.cells #[.int .i64 0, .int .i64 0, .int .i64 0, .int .i64 0, .string ⟨#[]⟩] 25)) := hide (Below.at bb (heap_alloc_new w (.cells #[.int .i64 0, .int .i64 0, .int .i64 0, .int .i64 0, .string ⟨#[]⟩] 25)))
        have B := hide (bthen (below_new (Below.refl _ w) (.cells #[.int .i64 0, .int .i64 0, .int .i64 0, .int .i64 0, .string ⟨#[]⟩] 25)) bb)
        clear bb
        obtain ⟨g, off, cap, rfl, hg, f1, f4, f7, f10, f14⟩ := HF.out ho
        clear ho HF HD
        have cX0 := box_cell X.out 0 rfl
        have fX0 := box_free X.out 0
        have cX1 := box_cell X.out 1 rfl
        have fX1 := box_free X.out 1
        have cX2 := box_cell X.out 2 rfl
        have fX2 := box_free X.out 2
        have cX3 := box_cell X.out 3 rfl
        have fX3 := box_free X.out 3
        have cX4 := box_cell X.out 4 rfl
        have fX4 := box_free X.out 4
        go_wp2
        have K := box5 (set5_box (.int .i64 0) (.int .i64 0) (.int .i64 0) (.int .i64 0) (.string ⟨#[]⟩) X.out)
        simp only [set5] at K
        obtain ⟨⟨k0, k1, k2, k3, k4⟩, _⟩ := K
        refine bodyPost_ret (v := .tuple #[.agg #[.int .i64 0, .int .i64 0, .int .i64 0, .int .i64 0, .string ⟨#[]⟩], .int .i64 10]) (by simp [results, Try.results10, go_sem, k0, k1, k2, k3, k4]) rfl ⟨rfl, ?_⟩
        exact set5_below _ _ _ _ _ B.out (Nat.le_refl _)
      · have q1 : wrap64 an = an := by unfold wrap64; omega
        have q2 : wrap64 bn = bn := by unfold wrap64; omega
        have q3 : wrap64 cn = cn := by unfold wrap64; omega
        have q4 : wrap64 dn = dn := by unfold wrap64; omega
        clear NR
        simp only [AC.d] at AR
        go_enter Try.func10, Try.ntmps10
        go_wp2_with fail
        refine (HD.out _).mono ?_
        rintro e w1 ⟨v, rfl, ho, bb⟩
        have X : Hid (w1.heap[w.heap.size]? = some (.cells #[.int .i64 0, .int .i64 0, .int .i64 0, .int .i64 0, .string ⟨#[]⟩] 25)) := hide (Below.at bb (heap_alloc_new w (.cells #[.int .i64 0, .int .i64 0, .int .i64 0, .int .i64 0, .string ⟨#[]⟩] 25)))
        have B := hide (bthen (below_new (Below.refl _ w) (.cells #[.int .i64 0, .int .i64 0, .int .i64 0, .int .i64 0, .string ⟨#[]⟩] 25)) bb)
        clear bb
        obtain ⟨g, off, cap, rfl, hg, f1, f4, f7, f10, f14⟩ := HF.out ho
        clear ho HF HD
        have hlw := heap_lt X.out
        go_upto_region 6 with fail
        go_cut [6] (fun p wx => ∃ b6, p = .pointer (some ⟨b6, 0, none⟩) ∧ Hid (wx.heap[b6]? = some (Obj.cells #[.int .i64 an, .int .i64 bn, .int .i64 cn, .int .i64 dn, .string es] 25)) ∧ Hid (wx.heap[w.heap.size]? = some (Obj.cells #[.int .i64 0, .int .i64 0, .int .i64 0, .int .i64 0, .string ⟨#[]⟩] 25)) ∧ Hid (Below w.heap.size w wx))
        case first =>
          go_region
          go_wp2
          go_meet
          case rel => exact ⟨w1.heap.size, rfl, heap_alloc_new w1 _, (heap_alloc_old w1 _ hlw).trans X.out, (B.out.alloc B.out.size _).drew⟩
        case rest =>
          obtain ⟨b6, rfl, A, X, B⟩ := hcut
          obtain ⟨⟨y0, y1, y2, y3, y4⟩, _⟩ := box5 A.out
          go_wp2_with fail
          refine (AR.out _).mono ?_
          rintro e' w2 ⟨rfl, bb⟩
          clear y0 y1 y2 y3 y4
          replace A := hide (Below.at bb A.out)
          replace X := hide (Below.at bb X.out)
          replace B := hide (bthen B.out bb)
          clear bb f1 f4 f7 f10 f14
          by_cases hr : AC.right ⟨⟨an, bn⟩, ⟨cn, dn⟩, es⟩ = true
          · rw [hr]
            have hD := DG.out hr
            clear DG DN AR hr
            have cX0 := box_cell X.out 0 rfl
            have fX0 := box_free X.out 0
            have cX1 := box_cell X.out 1 rfl
            have fX1 := box_free X.out 1
            have cX2 := box_cell X.out 2 rfl
            have fX2 := box_free X.out 2
            have cX3 := box_cell X.out 3 rfl
            have fX3 := box_free X.out 3
            have cX4 := box_cell X.out 4 rfl
            have fX4 := box_free X.out 4
            have cA0 := box_cell A.out 0 rfl
            have cA1 := box_cell A.out 1 rfl
            have cA2 := box_cell A.out 2 rfl
            have cA3 := box_cell A.out 3 rfl
            have cA4 := box_cell A.out 4 rfl
            go_wp2
            rw [hD]
            have K := box5 (set5_box (.int .i64 an) (.int .i64 bn) (.int .i64 cn) (.int .i64 dn) (.string es) X.out)
            simp only [set5] at K
            obtain ⟨⟨k0, k1, k2, k3, k4⟩, _⟩ := K
            refine bodyPost_ret (v := .tuple #[.agg #[.int .i64 an, .int .i64 bn, .int .i64 cn, .int .i64 dn, .string es], .int .i64 0]) (by simp [results, Try.results10, go_sem, k0, k1, k2, k3, k4]) rfl ⟨rfl, ?_⟩
            exact set5_below _ _ _ _ _ B.out (Nat.le_refl _)
          · rw [Bool.eq_false_iff.2 hr]
            have hD := DN.out hr
            clear DG DN AR hr
            have cX0 := box_cell X.out 0 rfl
            have fX0 := box_free X.out 0
            have cX1 := box_cell X.out 1 rfl
            have fX1 := box_free X.out 1
            have cX2 := box_cell X.out 2 rfl
            have fX2 := box_free X.out 2
            have cX3 := box_cell X.out 3 rfl
            have fX3 := box_free X.out 3
            have cX4 := box_cell X.out 4 rfl
            have fX4 := box_free X.out 4
            have cA0 := box_cell A.out 0 rfl
            have cA1 := box_cell A.out 1 rfl
            have cA2 := box_cell A.out 2 rfl
            have cA3 := box_cell A.out 3 rfl
            have cA4 := box_cell A.out 4 rfl
            go_wp2
            rw [hD]
            have K := box5 (set5_box (.int .i64 0) (.int .i64 0) (.int .i64 0) (.int .i64 0) (.string ⟨#[]⟩) X.out)
            simp only [set5] at K
            obtain ⟨⟨k0, k1, k2, k3, k4⟩, _⟩ := K
            refine bodyPost_ret (v := .tuple #[.agg #[.int .i64 0, .int .i64 0, .int .i64 0, .int .i64 0, .string ⟨#[]⟩], .int .i64 10]) (by simp [results, Try.results10, go_sem, k0, k1, k2, k3, k4]) rfl ⟨rfl, ?_⟩
            exact set5_below _ _ _ _ _ B.out (Nat.le_refl _)
  · rw [decA_fault hd]
    have hne : ((K.decF shapeA s.data.toList).2 != 0) = true := by rw [bne_iff_ne]; exact hd
    generalize K.decF shapeA s.data.toList = R at *
    obtain ⟨l, er⟩ := R
    simp only [AC.zero, AC.d] at *
    clear hd
    go_enter Try.func10, Try.ntmps10
    go_wp2_with fail
    refine (HD.out _).mono ?_
    rintro e w1 ⟨v, rfl, _, bb⟩
    have X : Hid (w1.heap[w.heap.size]? = some (.cells #[.int .i64 0, .int .i64 0, .int .i64 0, .int .i64 0, .string ⟨#[]⟩] 25)) := hide (Below.at bb (heap_alloc_new w (.cells #[.int .i64 0, .int .i64 0, .int .i64 0, .int .i64 0, .string ⟨#[]⟩] 25)))
    have B := hide (bthen (below_new (Below.refl _ w) (.cells #[.int .i64 0, .int .i64 0, .int .i64 0, .int .i64 0, .string ⟨#[]⟩] 25)) bb)
    clear bb
    have cX0 := box_cell X.out 0 rfl
    have fX0 := box_free X.out 0
    have cX1 := box_cell X.out 1 rfl
    have fX1 := box_free X.out 1
    have cX2 := box_cell X.out 2 rfl
    have fX2 := box_free X.out 2
    have cX3 := box_cell X.out 3 rfl
    have fX3 := box_free X.out 3
    have cX4 := box_cell X.out 4 rfl
    have fX4 := box_free X.out 4
    go_wp2
    have K := box5 (set5_box (.int .i64 0) (.int .i64 0) (.int .i64 0) (.int .i64 0) (.string ⟨#[]⟩) X.out)
    simp only [set5] at K
    obtain ⟨⟨k0, k1, k2, k3, k4⟩, _⟩ := K
    refine bodyPost_ret (v := .tuple #[.agg #[.int .i64 0, .int .i64 0, .int .i64 0, .int .i64 0, .string ⟨#[]⟩], .int .i64 er]) (by simp [results, Try.results10, go_sem, k0, k1, k2, k3, k4]) rfl ⟨rfl, ?_⟩
    exact set5_below _ _ _ _ _ B.out (Nat.le_refl _)

end Go.Proofs.Ytpopamechapmmaa
