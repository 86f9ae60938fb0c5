/-
  carillonref09's Decode, as it runs: five items.
-/
import Derived.Test.YtodfdblgkpjchaaDoorZB6
namespace Go.Proofs.YtodfdblgkpjchaaDoor
open Go.RowKit

set_option maxHeartbeats 8000000 in
theorem xdec_five (s : ByteArray) (h63 : s.size ≤ 9223372036854775807) (w : World) (he : (takeF s.data.toList).2.2 = 0) (hn : (takeF s.data.toList).2.1 = s.size) (a b c d e : K.It) (hd : K.decF shapeL (takeF s.data.toList).1 = ([a, b, c, d, e], 0)) (x : FR) (hx : x = ⟨a.n, b.n, c.n, d.n, e.s⟩) (hxo : x.ok) (ha : 0 ≤ a.n) (hb : 0 ≤ b.n) (hc : 0 ≤ c.n) (hdd : 0 ≤ d.n) (rv : Value) (rf : Int) (hgood : x.rightP → rv = x.v ∧ rf = 0) (hbadR : ¬ x.rightP → rv = FR.zero.v ∧ rf = 10) :
    Calls Tryd.prog 9 #[.string s] w fun e w' => e = .returned (.tuple #[rv, .int .i64 rf]) ∧ Below w.heap.size w w' := by
  have HG := hide hgood
  have HBD := hide hbadR
  clear hgood hbadR
  have HC := hide (fun W => rtake_any s W h63)
  have hsm := takeF_small s.data.toList
  generalize takeF s.data.toList = T at *
  obtain ⟨bb, n, er⟩ := T
  simp only at *
  subst he
  have HD := hide (xdec_call ⟨bb.toArray⟩ (by show bb.toArray.size ≤ _; simpa using hsm))
  rw [show ((⟨bb.toArray⟩ : ByteArray).data.toList) = bb by simp, hd] at HD
  generalize bb.toArray = ba at *
  have hnn : ((n : Int) == (s.size : Int)) = true := by rw [beq_iff_eq]; omega
  have hnm : ((n : Int) != (s.size : Int)) = false := by rw [bne_eq_false_iff_eq]; omega
  have hnm2 : (n != s.size) = false := by rw [bne_eq_false_iff_eq]; omega
  have HN := hide hn
  have HR := hide (xright x hxo)
  have HL : Hid (∀ k (h : k < [a, b, c, d, e].length), k < 4 → 9007199254740991 < ([a, b, c, d, e][k]'h).n → ¬ x.rightP) := by
    intro k h h4 hgt hr
    rw [hx] at hr
    obtain ⟨_, p2, _, p4, _, p6, _, p8, _⟩ := hr
    simp only at p2 p4 p6 p8
    have : k = 0 ∨ k = 1 ∨ k = 2 ∨ k = 3 := by omega
    rcases this with rfl | rfl | rfl | rfl <;> simp at hgt <;> omega
  clear hsm hd hn
  go_enter Tryd.func9, Tryd.ntmps9
  go_wp2_with fail
  refine (HC.out _).mono ?_
  rintro e w1 ⟨rfl, b1⟩
  have x1 := (b1.block w.heap.size (by simp)).trans (heap_alloc_new _ _)
  have B1 : Hid (Below w.heap.size w w1) := ((Below.refl _ _).alloc (Nat.le_refl _) _).trans (b1.mono (by simp))
  clear b1 HC
  go_wp2_with fail
  refine (HD.out _).mono ?_
  rintro e w2 ⟨v, rfl, ho, b2⟩
  have x2 := (b2.block w.heap.size (Array.getElem?_eq_some_iff.1 x1).1).trans x1
  have B2 : Hid (Below w.heap.size w w2) := B1.out.trans (b2.mono B1.out.size)
  have X2 := hide x2
  obtain ⟨ao, cap, rfl, hat⟩ := K.items_of_own ho
  have HA := hide hat
  clear b2 x1 x2 HD B1 ho hat
  have hl5 : [a, b, c, d, e].length = 5 := rfl
  rw [hl5]
  go_wp2
  go_loopw [9] (fun iv wv => ∃ k : Nat, k ≤ 4 ∧ iv = .int .i64 k ∧ wv = w2 ∧ Hid (∀ j (h : j < [a, b, c, d, e].length), j < k → ([a, b, c, d, e][j]'h).n ≤ 9007199254740991)) (fun iv _ => 4 - (intOf iv).toNat)
  case atStart => exact ⟨0, Nat.zero_le _, rfl, rfl, fun j h hj => absurd hj (Nat.not_lt_zero _)⟩
  case round =>
    obtain ⟨k, hk, rfl, rfl, HJ⟩ := hrel
    by_cases hlt : k < 4
    · have h5 : k < [a, b, c, d, e].length := by rw [hl5]; omega
      obtain ⟨g, off, rfl, gl, _, hcell, _⟩ := HA.out k h5
      have hbad := HL.out k h5 hlt
      have hnext : ([a, b, c, d, e][k]'h5).n ≤ 9007199254740991 → ∀ j (h : j < [a, b, c, d, e].length), j < k + 1 → ([a, b, c, d, e][j]'h).n ≤ 9007199254740991 := fun hle j h hj => by
        rcases Nat.lt_or_ge j k with hj2 | hj2
        · exact HJ.out j h hj2
        · obtain rfl : j = k := by omega
          exact hle
      obtain ⟨nn, hin⟩ : ∃ nn, ([a, b, c, d, e][k]'h5).n = nn := ⟨_, rfl⟩
      rw [hin] at hcell hbad hnext
      clear hin
      have hj0 : (0 : Int) ≤ (k : Int) := by omega
      have hj4 : (k : Int) < 4 := by omega
      have hj5 : (k : Int) < 5 := by omega
      by_cases hgt : 9007199254740991 < nn
      · have hnr := hbad hgt
        obtain ⟨⟨c0, c1, c2, c3, c4⟩, f0, f1, f2, f3, f4⟩ := box5 X2.out
        have HNR := hide hnr
        clear hbad hnext HL hnr HR HJ
        go_wp2
        obtain ⟨rfl, rfl⟩ := HBD.out HNR.out
        refine bodyPost_ret (v := .tuple #[FR.zero.v, .int .i64 10]) (by simp [results, Tryd.results9, go_sem, FR.zero, FR.v, c0, c1, c2, c3, c4]) rfl ⟨rfl, ?_⟩
        exact set5_below B2.out (Nat.le_refl _)
      · have HX := hide (hnext (by omega))
        clear hbad hnext HL HR HJ
        go_wp2
        exact ⟨⟨k + 1, by omega, by go_num, trivial, HX⟩, by simp [intOf]; omega⟩
    · have hj4 : ¬ (k : Int) < 4 := by omega
      obtain rfl : k = 4 := by omega
      obtain ⟨g, off, rfl, gl, _, e0, _⟩ := HA.out 0 (by simp)
      obtain ⟨_, _, q, _, _, e1, _⟩ := HA.out 1 (by simp)
      cases q
      obtain ⟨_, _, q, _, _, e2, _⟩ := HA.out 2 (by simp)
      cases q
      obtain ⟨_, _, q, _, _, e3, _⟩ := HA.out 3 (by simp)
      cases q
      obtain ⟨_, _, q, _, _, _, e4⟩ := HA.out 4 (by simp)
      cases q
      simp at e0 e1 e2 e3 e4
      have m0 := HJ.out 0 (by simp) (by omega)
      have m1 := HJ.out 1 (by simp) (by omega)
      have m2 := HJ.out 2 (by simp) (by omega)
      have m3 := HJ.out 3 (by simp) (by omega)
      simp at m0 m1 m2 m3
      obtain ⟨an, aas⟩ : ∃ an, a.n = an := ⟨_, rfl⟩
      obtain ⟨bn, bs⟩ : ∃ bn, b.n = bn := ⟨_, rfl⟩
      obtain ⟨cn, cs⟩ : ∃ cn, c.n = cn := ⟨_, rfl⟩
      obtain ⟨dn, ds⟩ : ∃ dn, d.n = dn := ⟨_, rfl⟩
      obtain ⟨es, ess⟩ : ∃ es, e.s = es := ⟨_, rfl⟩
      have HX : Hid (x = ⟨an, bn, cn, dn, es⟩) := by show _ = _; rw [hx, aas, bs, cs, ds, ess]
      rw [aas] at e0 m0 ha
      rw [bs] at e1 m1 hb
      rw [cs] at e2 m2 hc
      rw [ds] at e3 m3 hdd
      rw [ess] at e4
      have w0 : wrap64 an = an := by unfold wrap64; omega
      have w1 : wrap64 bn = bn := by unfold wrap64; omega
      have w2' : wrap64 cn = cn := by unfold wrap64; omega
      have w3 : wrap64 dn = dn := by unfold wrap64; omega
      have hlw := heap_lt X2.out
      clear HJ HL aas bs cs ds ess hx hxo HA
      go_upto_region 12 with fail
      go_cut [10] (fun p wx => ∃ b6, p = .pointer (some ⟨b6, 0, none⟩) ∧ Hid (wx.heap[b6]? = some (Obj.cells #[.int .i64 an, .int .i64 bn, .int .i64 cn, .int .i64 dn, .string es] 23)) ∧ Hid (wx.heap[w.heap.size]? = some (Obj.cells #[.int .i64 0, .int .i64 0, .int .i64 0, .int .i64 0, .string ⟨#[]⟩] 23)) ∧ Hid (Below w.heap.size w wx))
      case first =>
        go_region
        go_wp2
        go_meet
        case rel => exact ⟨wr.heap.size, rfl, heap_alloc_new wr _, (heap_alloc_old wr _ hlw).trans X2.out, (B2.out.alloc (by omega) _).drew⟩
      case rest =>
        obtain ⟨b6, rfl, HX6, HX2, B3⟩ := hcut
        have hl6 : b6 < wc.heap.size := (Array.getElem?_eq_some_iff.1 HX6.out).1
        have hl2 : w.heap.size < wc.heap.size := (Array.getElem?_eq_some_iff.1 HX2.out).1
        obtain ⟨⟨d0, d1, d2, d3, d4⟩, _⟩ := box5 HX6.out
        have HRX := hide (HX.out ▸ HR.out)
        simp only [FR.v] at HRX
        clear B2 X2 gl e0 e1 e2 e3 e4
        go_wp2_with fail
        refine (HRX.out _).mono ?_
        rintro e w5 ⟨rfl, b5⟩
        have X5 := hide ((b5.block w.heap.size hl2).trans HX2.out)
        have X6 := hide ((b5.block b6 hl6).trans HX6.out)
        have B5 := hide (B3.out.trans (b5.mono B3.out.size))
        obtain ⟨⟨d0, d1, d2, d3, d4⟩, _⟩ := box5 X6.out
        obtain ⟨⟨c0, c1, c2, c3, c4⟩, f0, f1, f2, f3, f4⟩ := box5 X5.out
        clear b5 HX6 HX2 B3
        by_cases hr : (⟨an, bn, cn, dn, es⟩ : FR).rightP
        · rw [decide_eq_true hr]
          have HRR := hide hr
          clear hr HRX HR
          go_wp2
          obtain ⟨rfl, rfl⟩ := HG.out (by rw [HX.out]; exact HRR.out)
          rw [HX.out]
          refine bodyPost_ret (v := .tuple #[.agg #[.int .i64 an, .int .i64 bn, .int .i64 cn, .int .i64 dn, .string es], .int .i64 0]) (by simp [results, Tryd.results9, go_sem, c0, c1, c2, c3, c4]) rfl ⟨rfl, ?_⟩
          exact set5_below B5.out (Nat.le_refl _)
        · rw [decide_eq_false hr]
          have HRR := hide hr
          clear hr HRX HR
          go_wp2
          obtain ⟨rfl, rfl⟩ := HBD.out (by rw [HX.out]; exact HRR.out)
          refine bodyPost_ret (v := .tuple #[FR.zero.v, .int .i64 10]) (by simp [results, Tryd.results9, go_sem, FR.zero, FR.v, c0, c1, c2, c3, c4]) rfl ⟨rfl, ?_⟩
          exact set5_below B5.out (Nat.le_refl _)
end Go.Proofs.YtodfdblgkpjchaaDoor
