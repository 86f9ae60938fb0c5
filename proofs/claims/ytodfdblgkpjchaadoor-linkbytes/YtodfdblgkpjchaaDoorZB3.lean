/-
  The program's frameOf, as it runs.
-/
import Derived.Test.YtodfdblgkpjchaaDoorZB2
import Derived.Test.YtodfdblgkpjchaaDoorZGI
import Derived.Deep.DeepCutAuto
import Derived.Deep.RegionWith
import Derived.Deep.RegionLaw
import Derived.Deep.RegionHeldLaw
import Derived.Deep.DrawnRows
import Derived.Deep.AppendLies
import Derived.Deep.QuietTactic
import Derived.BigRegion
namespace Go.Proofs.YtodfdblgkpjchaaDoor
open Go.RowKit

theorem box5 {W : World} {b : Nat} {t : TypeId} {v0 v1 v2 v3 v4 : Value} (h : W.heap[b]? = some (.cells #[v0, v1, v2, v3, v4] t)) :
    (W.cell? ⟨b, 0, none⟩ = some v0 ∧ W.cell? ⟨b, 1, none⟩ = some v1 ∧ W.cell? ⟨b, 2, none⟩ = some v2 ∧ W.cell? ⟨b, 3, none⟩ = some v3 ∧ W.cell? ⟨b, 4, none⟩ = some v4) ∧
    (W.frozen? ⟨b, 0, none⟩ = false ∧ W.frozen? ⟨b, 1, none⟩ = false ∧ W.frozen? ⟨b, 2, none⟩ = false ∧ W.frozen? ⟨b, 3, none⟩ = false ∧ W.frozen? ⟨b, 4, none⟩ = false) :=
  ⟨⟨by rw [Lib.cell_of_heap h]; rfl, by rw [Lib.cell_of_heap h]; rfl, by rw [Lib.cell_of_heap h]; rfl, by rw [Lib.cell_of_heap h]; rfl, by rw [Lib.cell_of_heap h]; rfl⟩,
   Lib.frozen_of_heap h 0, Lib.frozen_of_heap h 1, Lib.frozen_of_heap h 2, Lib.frozen_of_heap h 3, Lib.frozen_of_heap h 4⟩
def set5 (W : World) (b : Nat) (x0 x1 x2 x3 x4 : Value) : World := ((((W.setCell ⟨b, 0, none⟩ x0).setCell ⟨b, 1, none⟩ x1).setCell ⟨b, 2, none⟩ x2).setCell ⟨b, 3, none⟩ x3).setCell ⟨b, 4, none⟩ x4
theorem set5_box {W : World} {b : Nat} {t : TypeId} {v0 v1 v2 v3 v4 x0 x1 x2 x3 x4 : Value} (h : W.heap[b]? = some (.cells #[v0, v1, v2, v3, v4] t)) : (set5 W b x0 x1 x2 x3 x4).heap[b]? = some (.cells #[x0, x1, x2, x3, x4] t) := by
  simp [set5, World.setCell, Array.getElem?_modify, h]
theorem set5_below {B : Nat} {w W : World} {b : Nat} {x0 x1 x2 x3 x4 : Value} (h : Below B w W) (hb : B ≤ b) : Below B w (set5 W b x0 x1 x2 x3 x4) :=
  ((((h.setCell (p := ⟨b, 0, none⟩) hb _).setCell (p := ⟨b, 1, none⟩) hb _).setCell (p := ⟨b, 2, none⟩) hb _).setCell (p := ⟨b, 3, none⟩) hb _).setCell (p := ⟨b, 4, none⟩) hb _

theorem dec_call (s : ByteArray) (h : s.size ≤ 400000) (w : World) : Calls Tryd.prog 46 #[.string ⟨#[108, 108, 108, 108, 116]⟩, .string s] w fun e w' => ∃ v, e = .returned (.tuple #[v, .int .i64 (K.decF shapeL s.data.toList).2]) ∧ w'.ownsRow w.heap.size 54 3 v (K.decF shapeL s.data.toList).1.length (K.itemCells (K.decF shapeL s.data.toList).1) ∧ Below w.heap.size w w' :=
  K.decode_any ⟨#[108, 108, 108, 108, 116]⟩ s w (by unfold maxLen; decide) (by unfold maxLen; omega) _ rfl

set_option maxHeartbeats 2000000 in
theorem frameOf_bad (s : ByteArray) (h : s.size ≤ 400000) (w : World) (hd : (K.decF shapeL s.data.toList).2 ≠ 0) :
    Calls Tryd.prog 23 #[.string s] w fun e w' => e = .returned (.tuple #[FR.zero.v, .bool false]) ∧ Below w.heap.size w w' := by
  have HD := hide (dec_call s h)
  generalize K.decF shapeL s.data.toList = R at *
  obtain ⟨l, er⟩ := R
  have hne : (er != 0) = true := by rw [bne_iff_ne]; exact hd
  simp only at HD hd
  clear h
  go_enter Tryd.func23, Tryd.ntmps23
  go_wp2_with fail
  refine (HD.out _).mono ?_
  rintro e w1 ⟨v, rfl, _, b1⟩
  have hb := b1.block w.heap.size (by simp)
  rw [heap_alloc_new] at hb
  have HB := hide hb
  have B1 : Hid (Below w.heap.size w w1) := ((Below.refl _ _).alloc (Nat.le_refl _) _).trans (b1.mono (by simp))
  obtain ⟨⟨c0, c1, c2, c3, c4⟩, f0, f1, f2, f3, f4⟩ := box5 hb
  clear b1 HD hb
  go_wp2
  refine bodyPost_ret (v := .tuple #[FR.zero.v, .bool false]) (by simp [results, Tryd.results23, go_sem, FR.zero, FR.v, c0, c1, c2, c3, c4]) rfl ⟨rfl, ?_⟩
  exact set5_below B1.out (Nat.le_refl _)

set_option maxHeartbeats 2000000 in
theorem frameOf_five (s : ByteArray) (h : s.size ≤ 400000) (w : World) (a b c d e : K.It) (hd : K.decF shapeL s.data.toList = ([a, b, c, d, e], 0)) (x : FR) (hx : x = ⟨wrap64 a.n, wrap64 b.n, wrap64 c.n, wrap64 d.n, e.s⟩) (hok : x.ok) :
    Calls Tryd.prog 23 #[.string s] w fun e w' => e = .returned (.tuple #[x.v, .bool (decide x.rightP)]) ∧ Below w.heap.size w w' := by
  have HD := hide (dec_call s h)
  have HR := hide (pright x hok)
  generalize decide x.rightP = rx at *
  subst hx
  rw [hd] at HD
  clear h hd hok
  simp only [FR.v] at *
  go_enter Tryd.func23, Tryd.ntmps23
  go_wp2_with fail
  refine (HD.out _).mono ?_
  rintro e w1 ⟨v, rfl, ho, b1⟩
  obtain ⟨ao, cap, rfl, hat⟩ := K.items_of_own ho
  obtain ⟨g, off, rfl, gl, _, ha, _⟩ := hat 0 (by simp)
  obtain ⟨_, _, e1, _, _, hb, _⟩ := hat 1 (by simp)
  cases e1
  obtain ⟨_, _, e1, _, _, hc, _⟩ := hat 2 (by simp)
  cases e1
  obtain ⟨_, _, e1, _, _, hd, _⟩ := hat 3 (by simp)
  cases e1
  obtain ⟨_, _, e1, _, _, _, he⟩ := hat 4 (by simp)
  cases e1
  simp at ha hb hc hd he
  have hblk := b1.block w.heap.size (by simp)
  rw [heap_alloc_new] at hblk
  have HB := hide hblk
  have B1 : Hid (Below w.heap.size w w1) := ((Below.refl _ _).alloc (Nat.le_refl _) _).trans (b1.mono (by simp))
  have hw1 : w.heap.size < w1.heap.size := (Array.getElem?_eq_some_iff.1 hblk).1
  clear b1 HD ho hat hblk
  go_upto_region 4 with fail
  go_cut [6] (fun p wx => ∃ b6, p = .pointer (some ⟨b6, 0, none⟩) ∧ Hid (wx.heap[b6]? = some (Obj.cells #[.int .i64 (wrap64 a.n), .int .i64 (wrap64 b.n), .int .i64 (wrap64 c.n), .int .i64 (wrap64 d.n), .string e.s] 23)) ∧ Hid (wx.heap[w.heap.size]? = some (Obj.cells #[.int .i64 0, .int .i64 0, .int .i64 0, .int .i64 0, .string ⟨#[]⟩] 23)) ∧ Hid (Below w.heap.size w wx))
  case first =>
    go_region
    go_wp2
    go_meet
    case rel => exact ⟨w1.heap.size, rfl, heap_alloc_new w1 _, (heap_alloc_old w1 _ hw1).trans HB.out, (B1.out.alloc (by omega) _).drew⟩
  case rest =>
    obtain ⟨b6, rfl, HX6, HX2, B2⟩ := hcut
    have hl6 : b6 < wc.heap.size := (Array.getElem?_eq_some_iff.1 HX6.out).1
    have hl2 : w.heap.size < wc.heap.size := (Array.getElem?_eq_some_iff.1 HX2.out).1
    obtain ⟨⟨d0, d1, d2, d3, d4⟩, _⟩ := box5 HX6.out
    obtain ⟨⟨c0, c1, c2, c3, c4⟩, f0, f1, f2, f3, f4⟩ := box5 HX2.out
    clear B1 HB gl ha hb hc hd he HX6
    go_upto_region 5 with fail
    go_region_with (go_at_call 15; refine (HR.out _).mono ?_; rintro e w3 ⟨rfl, hb⟩; have hbl := (hb.block w.heap.size hl2).trans HX2.out; have B3 : Hid (Below w.heap.size w w3) := (by first | exact B2.out.trans (hb.mono B2.out.size) | exact B2.out.drew.trans (hb.mono B2.out.size) | exact B2.out.drew.drew.trans (hb.mono B2.out.size) | exact B2.out.drew.drew.drew.trans (hb.mono B2.out.size)); obtain ⟨⟨c0, c1, c2, c3, c4⟩, f0, f1, f2, f3, f4⟩ := box5 hbl; have d0 := (hb.cell (p := ⟨b6, 0, none⟩) hl6).trans d0; have d1 := (hb.cell (p := ⟨b6, 1, none⟩) hl6).trans d1; have d2 := (hb.cell (p := ⟨b6, 2, none⟩) hl6).trans d2; have d3 := (hb.cell (p := ⟨b6, 3, none⟩) hl6).trans d3; have d4 := (hb.cell (p := ⟨b6, 4, none⟩) hl6).trans d4)
    all_goals (
      go_wp2
      refine bodyPost_ret (v := .tuple #[.agg #[.int .i64 (wrap64 a.n), .int .i64 (wrap64 b.n), .int .i64 (wrap64 c.n), .int .i64 (wrap64 d.n), .string e.s], .bool rx]) (by simp [results, Tryd.results23, go_sem, c0, c1, c2, c3, c4]) rfl ⟨rfl, ?_⟩
      first | exact set5_below B3.out (Nat.le_refl _) | exact set5_below B3.out.drew (Nat.le_refl _))
end Go.Proofs.YtodfdblgkpjchaaDoor
