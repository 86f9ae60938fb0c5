/-
  carillonref06's read, as it runs.
-/
import Derived.Test.YtgnehnlmbodijaaDoorZR1
import Derived.Test.YtgnehnlmbodijaaDoorZS4
namespace Go.Proofs.YtgnehnlmbodijaaDoor
open Go.RowKit

theorem rdec_call (s : ByteArray) (h : s.size ≤ 400000) (w : World) : Calls Tryd.prog 60 #[.string ⟨#[108, 116, 108, 116, 116]⟩, .string s] w fun e w' => ∃ v, e = .returned (.tuple #[v, .int .i64 (K.decF shapeR s.data.toList).2]) ∧ w'.ownsRow w.heap.size 65 3 v (K.decF shapeR s.data.toList).1.length (K.itemCells (K.decF shapeR s.data.toList).1) ∧ Below w.heap.size w w' :=
  K.rdecode_any ⟨#[108, 116, 108, 116, 116]⟩ s w (by decide) (by omega) _ rfl

set_option maxHeartbeats 2000000 in
theorem rread_bad (s : ByteArray) (h : s.size ≤ 400000) (w : World) (hd : (K.decF shapeR s.data.toList).2 ≠ 0) :
    Calls Tryd.prog 46 #[.string s] w fun e w' => e = .returned (.tuple #[Rec.zero.v, .bool false]) ∧ Below w.heap.size w w' := by
  have HD := hide (rdec_call s h)
  generalize K.decF shapeR s.data.toList = R at *
  obtain ⟨l, er⟩ := R
  have hne : (er != 0) = true := by rw [bne_iff_ne]; exact hd
  simp only at HD hd
  clear h
  go_enter Tryd.func46, Tryd.ntmps46
  go_wp2_with fail
  refine (HD.out _).mono ?_
  rintro e w1 ⟨v, rfl, _, b1⟩
  have hb := b1.block w.heap.size (by simp)
  rw [heap_alloc_new] at hb
  have HB := hide hb
  have B1 : Hid (Below w.heap.size w w1) := ((Below.refl _ _).alloc (Nat.le_refl _) _).trans (b1.mono (by simp))
  obtain ⟨⟨c0, c1, c2, c3, c4⟩, f0, f1, f2, f3, f4⟩ := box5 hb
  clear b1 HD hb
  go_wp2
  refine bodyPost_ret (v := .tuple #[Rec.zero.v, .bool false]) (by simp [results, Tryd.results46, go_sem, Rec.zero, Rec.v, c0, c1, c2, c3, c4]) rfl ⟨rfl, ?_⟩
  exact set5_below B1.out (Nat.le_refl _)
set_option maxHeartbeats 2000000 in
theorem rread_five (s : ByteArray) (h : s.size ≤ 400000) (w : World) (a b c d e : K.It) (hd : K.decF shapeR s.data.toList = ([a, b, c, d, e], 0)) (ha : 0 ≤ a.n) (hc : 0 ≤ c.n) (ha2 : a.n ≤ 9007199254740991) (hc2 : c.n ≤ 9007199254740991) (x : Rec) (hx : x = ⟨a.n, b.s, c.n, d.s, e.s⟩) (hok : x.ok) :
    Calls Tryd.prog 46 #[.string s] w fun e w' => e = .returned (.tuple #[x.v, .bool (decide (RightP x))]) ∧ Below w.heap.size w w' := by
  have HD := hide (rdec_call s h)
  have HR := hide (rright_any x hok)
  generalize decide (RightP x) = rx at *
  subst hx
  rw [hd] at HD
  clear h hd hok
  simp only [Rec.v] at *
  obtain ⟨ak, an, at'⟩ := a
  obtain ⟨ck, cn, ct⟩ := c
  simp only at *
  go_enter Tryd.func46, Tryd.ntmps46
  go_wp2_with fail
  refine (HD.out _).mono ?_
  rintro e w1 ⟨v, rfl, ho, b1⟩
  obtain ⟨ao, cap, rfl, hat⟩ := K.items_of_own ho
  obtain ⟨g, off, rfl, gl, _, ha, _⟩ := hat 0 (by simp)
  obtain ⟨_, _, e1, _, _, _, hb⟩ := hat 1 (by simp)
  cases e1
  obtain ⟨_, _, e1, _, _, hc, _⟩ := hat 2 (by simp)
  cases e1
  obtain ⟨_, _, e1, _, _, _, hd⟩ := hat 3 (by simp)
  cases e1
  obtain ⟨_, _, e1, _, _, _, he⟩ := hat 4 (by simp)
  cases e1
  simp at ha hb hc hd he
  have hblk := b1.block w.heap.size (by simp)
  rw [heap_alloc_new] at hblk
  have HB := hide hblk
  have B1 : Hid (Below w.heap.size w w1) := ((Below.refl _ _).alloc (Nat.le_refl _) _).trans (b1.mono (by simp))
  have hw1 : w.heap.size < w1.heap.size := (Array.getElem?_eq_some_iff.1 hblk).1
  have hwa : wrap64 an = an := in64 _ (by omega) (by omega)
  have hwc : wrap64 cn = cn := in64 _ (by omega) (by omega)
  clear b1 HD ho hat hblk
  go_wp2
  go_cut [6] (fun p wx => ∃ b6, p = .pointer (some ⟨b6, 0, none⟩) ∧ Hid (wx.heap[b6]? = some (Obj.cells #[.int .i64 an, .string b.s, .int .i64 cn, .string d.s, .string e.s] 23)) ∧ Hid (wx.heap[w.heap.size]? = some (Obj.cells #[.int .i64 0, .string ⟨#[]⟩, .int .i64 0, .string ⟨#[]⟩, .string ⟨#[]⟩] 23)) ∧ Hid (Below w.heap.size w wx))
  case first =>
    go_region
    go_wp2
    go_meet
    case rel => exact ⟨w1.heap.size, rfl, heap_alloc_new w1 _, (heap_alloc_old w1 _ hw1).trans HB.out, (B1.out.alloc (by omega) _).drew⟩
  case rest =>
    obtain ⟨b6, rfl, HX6, HX2, B2⟩ := hcut
    have hl6 : b6 < wc.heap.size := (Array.getElem?_eq_some_iff.1 HX6.out).1
    have hl2 : w.heap.size < wc.heap.size := (Array.getElem?_eq_some_iff.1 HX2.out).1
    obtain ⟨⟨d0, d1, d2, d3, d4⟩, _⟩ := box5 HX6.out
    clear B1 HB gl ha hb hc hd he
    go_wp2_with fail
    refine (HR.out _).mono ?_
    rintro e w3 ⟨rfl, b3⟩
    have x3 := (b3.block w.heap.size hl2).trans HX2.out
    have y3 := (b3.block b6 hl6).trans HX6.out
    have B3 := hide (B2.out.trans (b3.mono B2.out.size))
    clear b3 B2 d0 d1 d2 d3 d4
    obtain ⟨⟨c0, c1, c2, c3, c4⟩, f0, f1, f2, f3, f4⟩ := box5 x3
    obtain ⟨⟨d0, d1, d2, d3, d4⟩, _⟩ := box5 y3
    clear x3 y3
    go_wp2
    refine bodyPost_ret (v := .tuple #[.agg #[.int .i64 an, .string b.s, .int .i64 cn, .string d.s, .string e.s], .bool rx]) (by simp [results, Tryd.results46, go_sem, c0, c1, c2, c3, c4]) rfl ⟨rfl, ?_⟩
    exact set5_below B3.out (Nat.le_refl _)
set_option maxHeartbeats 2000000 in
theorem rread_big1 (s : ByteArray) (h : s.size ≤ 400000) (w : World) (a b c d e : K.It) (hd : K.decF shapeR s.data.toList = ([a, b, c, d, e], 0)) (ha1 : 9007199254740991 < a.n) :
    Calls Tryd.prog 46 #[.string s] w fun e w' => e = .returned (.tuple #[Rec.zero.v, .bool false]) ∧ Below w.heap.size w w' := by
  have HD := hide (rdec_call s h)
  rw [hd] at HD
  clear h hd
  simp only [Rec.v] at *
  obtain ⟨ak, an, at'⟩ := a
  obtain ⟨ck, cn, ct⟩ := c
  simp only at *
  go_enter Tryd.func46, Tryd.ntmps46
  go_wp2_with fail
  refine (HD.out _).mono ?_
  rintro e w1 ⟨v, rfl, ho, b1⟩
  obtain ⟨ao, cap, rfl, hat⟩ := K.items_of_own ho
  obtain ⟨g, off, rfl, gl, _, ha, _⟩ := hat 0 (by simp)
  obtain ⟨_, _, e1, _, _, hc, _⟩ := hat 2 (by simp)
  cases e1
  simp at ha hc
  have hb := b1.block w.heap.size (by simp)
  rw [heap_alloc_new] at hb
  have HB := hide hb
  have B1 : Hid (Below w.heap.size w w1) := ((Below.refl _ _).alloc (Nat.le_refl _) _).trans (b1.mono (by simp))
  obtain ⟨⟨c0, c1, c2, c3, c4⟩, f0, f1, f2, f3, f4⟩ := box5 hb
  clear b1 HD hb ho hat
  go_wp2
  refine bodyPost_ret (v := .tuple #[Rec.zero.v, .bool false]) (by simp [results, Tryd.results46, go_sem, Rec.zero, Rec.v, c0, c1, c2, c3, c4]) rfl ⟨rfl, ?_⟩
  exact set5_below B1.out (Nat.le_refl _)
set_option maxHeartbeats 2000000 in
theorem rread_big2 (s : ByteArray) (h : s.size ≤ 400000) (w : World) (a b c d e : K.It) (hd : K.decF shapeR s.data.toList = ([a, b, c, d, e], 0)) (ha1 : a.n ≤ 9007199254740991) (hc1 : 9007199254740991 < c.n) :
    Calls Tryd.prog 46 #[.string s] w fun e w' => e = .returned (.tuple #[Rec.zero.v, .bool false]) ∧ Below w.heap.size w w' := by
  have HD := hide (rdec_call s h)
  rw [hd] at HD
  clear h hd
  simp only [Rec.v] at *
  obtain ⟨ak, an, at'⟩ := a
  obtain ⟨ck, cn, ct⟩ := c
  simp only at *
  go_enter Tryd.func46, Tryd.ntmps46
  go_wp2_with fail
  refine (HD.out _).mono ?_
  rintro e w1 ⟨v, rfl, ho, b1⟩
  obtain ⟨ao, cap, rfl, hat⟩ := K.items_of_own ho
  obtain ⟨g, off, rfl, gl, _, ha, _⟩ := hat 0 (by simp)
  obtain ⟨_, _, e1, _, _, hc, _⟩ := hat 2 (by simp)
  cases e1
  simp at ha hc
  have hb := b1.block w.heap.size (by simp)
  rw [heap_alloc_new] at hb
  have HB := hide hb
  have B1 : Hid (Below w.heap.size w w1) := ((Below.refl _ _).alloc (Nat.le_refl _) _).trans (b1.mono (by simp))
  obtain ⟨⟨c0, c1, c2, c3, c4⟩, f0, f1, f2, f3, f4⟩ := box5 hb
  clear b1 HD hb ho hat
  go_wp2
  refine bodyPost_ret (v := .tuple #[Rec.zero.v, .bool false]) (by simp [results, Tryd.results46, go_sem, Rec.zero, Rec.v, c0, c1, c2, c3, c4]) rfl ⟨rfl, ?_⟩
  exact set5_below B1.out (Nat.le_refl _)
/-- read: its record, and whether it is one. -/
theorem rread_any (s : ByteArray) (h : s.size ≤ 400000) (w : World) :
    Calls Tryd.prog 46 #[.string s] w fun e w' => (∃ x : Rec, e = .returned (.tuple #[x.v, .bool (readR s.data.toList).isSome]) ∧ ∀ r, readR s.data.toList = some r → x = r) ∧ Below w.heap.size w w' := by
  by_cases hd : (K.decF shapeR s.data.toList).2 = 0
  · obtain ⟨a, b, c, d, e, h5⟩ := dec_five _ hd
    obtain ⟨_, hok, _⟩ := K.again_pure shapeR s.data.toList hd
    rw [h5] at hok
    obtain ⟨_, _, a1, a2, _⟩ := hok a (by simp)
    obtain ⟨_, _, c1, c2, _⟩ := hok c (by simp)
    obtain ⟨_, _, _, _, bs⟩ := hok b (by simp)
    obtain ⟨_, _, _, _, ds⟩ := hok d (by simp)
    obtain ⟨_, _, _, _, es⟩ := hok e (by simp)
    have e5 : K.decF shapeR s.data.toList = ([a, b, c, d, e], 0) := Prod.ext h5 hd
    have e6 : readR s.data.toList = if RightP ⟨a.n, b.s, c.n, d.s, e.s⟩ then some (⟨a.n, b.s, c.n, d.s, e.s⟩ : Rec) else none := by
      unfold readR
      rw [if_pos hd, h5]
      rfl
    by_cases g1 : a.n ≤ 9007199254740991
    · by_cases g2 : c.n ≤ 9007199254740991
      · refine (rread_five s h w a b c d e e5 a1 c1 g1 g2 ⟨a.n, b.s, c.n, d.s, e.s⟩ rfl ⟨by simp only; omega, by simp only; omega, by simp only; omega, by simp only; omega, bs, ds, es⟩).mono ?_
        rintro e' w' ⟨rfl, hb⟩
        refine ⟨⟨⟨a.n, b.s, c.n, d.s, e.s⟩, ?_, ?_⟩, hb⟩
        · rw [e6]
          by_cases hr : RightP ⟨a.n, b.s, c.n, d.s, e.s⟩
          · rw [if_pos hr, decide_eq_true hr]; rfl
          · rw [if_neg hr, decide_eq_false hr]; rfl
        · intro r hr
          rw [e6] at hr
          split at hr
          · injection hr
          · cases hr
      · have hn : readR s.data.toList = none := by rw [e6, if_neg fun x => g2 x.out.2.2.2.1]
        refine (rread_big2 s h w a b c d e e5 g1 (by omega)).mono ?_
        rintro e' w' ⟨rfl, hb⟩
        rw [hn]
        exact ⟨⟨Rec.zero, rfl, fun r hr => by cases hr⟩, hb⟩
    · have hn : readR s.data.toList = none := by rw [e6, if_neg fun x => g1 x.out.2.1]
      refine (rread_big1 s h w a b c d e e5 (by omega)).mono ?_
      rintro e' w' ⟨rfl, hb⟩
      rw [hn]
      exact ⟨⟨Rec.zero, rfl, fun r hr => by cases hr⟩, hb⟩
  · have hn : readR s.data.toList = none := by unfold readR; rw [if_neg hd]
    refine (rread_bad s h w hd).mono ?_
    rintro e' w' ⟨rfl, hb⟩
    rw [hn]
    exact ⟨⟨Rec.zero, rfl, fun r hr => by cases hr⟩, hb⟩
end Go.Proofs.YtgnehnlmbodijaaDoor
