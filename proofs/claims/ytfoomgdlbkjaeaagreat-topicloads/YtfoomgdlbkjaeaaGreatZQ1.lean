/-
  A row in a block of its own that is taken off in front, and appended to behind; nothing of the program is in this text.
-/
import Derived.Test.YtfoomgdlbkjaeaaGreatZYCl
import Derived.Deep.RegionHeld
import Derived.Test.YtfoomgdlbkjaeaaGreatZM0
import Derived.Deep.RegionLaw
import Derived.Maps.AppendAt
namespace Go.Proofs.YtfoomgdlbkjaeaaGreat.Y
open Go.RowKit Go.Maps
set_option maxHeartbeats 4000000
set_option maxRecDepth 100000
theorem box5 {W : World} {b : Nat} {t : TypeId} {v0 v1 v2 v3 v4 : Value} (h : W.heap[b]? = some (.cells #[v0, v1, v2, v3, v4] t (0, 0))) :
    (W.cell? ⟨b, 0, none⟩ = some v0 ∧ W.cell? ⟨b, 1, none⟩ = some v1 ∧ W.cell? ⟨b, 2, none⟩ = some v2 ∧ W.cell? ⟨b, 3, none⟩ = some v3 ∧ W.cell? ⟨b, 4, none⟩ = some v4) ∧
    (W.frozen? ⟨b, 0, none⟩ = false ∧ W.frozen? ⟨b, 1, none⟩ = false ∧ W.frozen? ⟨b, 2, none⟩ = false ∧ W.frozen? ⟨b, 3, none⟩ = false ∧ W.frozen? ⟨b, 4, none⟩ = false) :=
  ⟨⟨box_cell h 0 rfl, box_cell h 1 rfl, box_cell h 2 rfl, box_cell h 3 rfl, box_cell h 4 rfl⟩, box_free h 0, box_free h 1, box_free h 2, box_free h 3, box_free h 4⟩
def set5 (W : World) (b : Nat) (x0 x1 x2 x3 x4 : Value) : World := ((((W.setCell ⟨b, 0, none⟩ x0).setCell ⟨b, 1, none⟩ x1).setCell ⟨b, 2, none⟩ x2).setCell ⟨b, 3, none⟩ x3).setCell ⟨b, 4, none⟩ x4
theorem set5_box {W : World} {b : Nat} {t : TypeId} {v0 v1 v2 v3 v4 x0 x1 x2 x3 x4 : Value} (h : W.heap[b]? = some (.cells #[v0, v1, v2, v3, v4] t (0, 0))) : (set5 W b x0 x1 x2 x3 x4).heap[b]? = some (.cells #[x0, x1, x2, x3, x4] t (0, 0)) := by
  simp [set5, World.setCell, Array.getElem?_modify, h]
theorem set5_below {B : Nat} {w W : World} {b : Nat} {x0 x1 x2 x3 x4 : Value} (h : Below B w W) (hb : B ≤ b) : Below B w (set5 W b x0 x1 x2 x3 x4) :=
  ((((h.setCell hb _).setCell hb _).setCell hb _).setCell hb _).setCell hb _
structure Own (w : World) (r : Rec) (w' : World) : Prop where
  below : Below w.heap.size w w'
  one : w'.heap[w.heap.size]? = some (.cells #[.int .i64 r.off, .string r.prod, .int .i64 r.seq, .string r.key, .string r.val] 39 (0, 0))
  two : w'.heap[w.heap.size + 1]? = some (.cells #[.int .i64 0, .string ⟨#[]⟩, .int .i64 0, .string ⟨#[]⟩, .string ⟨#[]⟩] 39 (0, 0))
theorem Own.to {w w1 w2 : World} {r : Rec} (h : Own w r w1) (hb : Below w1.heap.size w1 w2) : Own w r w2 :=
  ⟨h.below.trans (hb.mono h.below.size), Below.at hb h.one, Below.at hb h.two⟩
theorem Own.drew {w w1 : World} {r : Rec} (h : Own w r w1) : Own w r w1.drew := ⟨h.below.drew, h.one, h.two⟩
theorem Own.set {w w1 : World} {r : Rec} (h : Own w r w1) (o : Nat) (v : Value) (hv : (#[.int .i64 r.off, .string r.prod, .int .i64 r.seq, .string r.key, .string r.val] : Array Value).setIfInBounds o v = #[.int .i64 r.off, .string r.prod, .int .i64 r.seq, .string r.key, .string r.val]) : Own w r (w1.setCell ⟨w.heap.size, o, none⟩ v) := by
  refine ⟨h.below.setCell (Nat.le_refl _) _, ?_, box_apart h.two (by omega) _ _⟩
  rw [box_set h.one, hv]
theorem Own.set1 {w w1 : World} {r : Rec} (h : Own w r w1) : Own w r (w1.setCell ⟨w.heap.size, 1, none⟩ (.string r.prod)) := h.set 1 _ (by rfl)
theorem Own.set3 {w w1 : World} {r : Rec} (h : Own w r w1) : Own w r (w1.setCell ⟨w.heap.size, 3, none⟩ (.string r.key)) := h.set 3 _ (by rfl)
theorem Own.set4 {w w1 : World} {r : Rec} (h : Own w r w1) : Own w r (w1.setCell ⟨w.heap.size, 4, none⟩ (.string r.val)) := h.set 4 _ (by rfl)
theorem Own.cells {w w1 : World} {r : Rec} (h : Own w r w1) : w1.cell? ⟨w.heap.size, 1, none⟩ = some (.string r.prod) ∧ w1.cell? ⟨w.heap.size, 3, none⟩ = some (.string r.key) ∧ w1.cell? ⟨w.heap.size, 4, none⟩ = some (.string r.val) :=
  ⟨box_cell h.one 1 rfl, box_cell h.one 3 rfl, box_cell h.one 4 rfl⟩
theorem Own.free {w w1 : World} {r : Rec} (h : Own w r w1) (o : Nat) : w1.frozen? ⟨w.heap.size, o, none⟩ = false := box_free h.one o
theorem own_any (r : Rec) (hr : r.ok) (w : World) :
    Calls Tryz.prog 64 #[r.v] w fun e w' => e = .returned r.v ∧ Below w.heap.size w w' := by
  have HC1 := hide (fun W => clone_any r.prod W hr.2.2.2.2.1)
  have HC3 := hide (fun W => clone_any r.key W hr.2.2.2.2.2.1)
  have HC4 := hide (fun W => clone_any r.val W hr.2.2.2.2.2.2)
  have K1 : Hid (Own w r ((w.alloc (.cells #[.int .i64 r.off, .string r.prod, .int .i64 r.seq, .string r.key, .string r.val] 39)).alloc (.cells #[.int .i64 0, .string ⟨#[]⟩, .int .i64 0, .string ⟨#[]⟩, .string ⟨#[]⟩] 39))) := by
    refine ⟨((Below.refl _ _).alloc (Nat.le_refl _) _).alloc (by simp) _, ?_, ?_⟩
    · exact box_alloc (heap_alloc_new w _) _
    · have := heap_alloc_new (w.alloc (.cells #[.int .i64 r.off, .string r.prod, .int .i64 r.seq, .string r.key, .string r.val] 39)) (.cells #[.int .i64 0, .string ⟨#[]⟩, .int .i64 0, .string ⟨#[]⟩, .string ⟨#[]⟩] 39)
      simpa using this
  obtain ⟨xo, xp, xs, xk, xv⟩ := r
  simp only [Rec.v] at *
  clear hr
  go_enter Tryz.func64, Tryz.ntmps64
  go_wp2_with fail
  generalize (w.alloc (.cells #[.int .i64 xo, .string xp, .int .i64 xs, .string xk, .string xv] 39)).alloc (.cells #[.int .i64 0, .string ⟨#[]⟩, .int .i64 0, .string ⟨#[]⟩, .string ⟨#[]⟩] 39) = w1 at *
  have HX : Hid (∀ {W : World}, Own w ⟨xo, xp, xs, xk, xv⟩ W → W.cell? ⟨w.heap.size, 1, none⟩ = some (.string xp) ∧ W.cell? ⟨w.heap.size, 3, none⟩ = some (.string xk) ∧ W.cell? ⟨w.heap.size, 4, none⟩ = some (.string xv) ∧ W.frozen? ⟨w.heap.size, 1, none⟩ = false ∧ W.frozen? ⟨w.heap.size, 3, none⟩ = false ∧ W.frozen? ⟨w.heap.size, 4, none⟩ = false) := fun h => ⟨h.cells.1, h.cells.2.1, h.cells.2.2, h.free 1, h.free 3, h.free 4⟩
  obtain ⟨c1, c3, c4, f1, f3, f4⟩ := HX.out K1.out
  go_region_held (fun w' => Own w ⟨xo, xp, xs, xk, xv⟩ w' ∧ w'.cell? ⟨w.heap.size, 1, none⟩ = some (.string xp) ∧ w'.cell? ⟨w.heap.size, 3, none⟩ = some (.string xk) ∧ w'.cell? ⟨w.heap.size, 4, none⟩ = some (.string xv))
    (first | exact ⟨K1.out.drew, K1.out.drew.cells⟩ | exact ⟨K2.out, K2.out.cells⟩ | exact ⟨K2.out.set1, K2.out.set1.cells⟩ | exact ⟨K2.out.set3, K2.out.set3.cells⟩ | exact ⟨K2.out.set4, K2.out.set4.cells⟩ | exact ⟨K2.out.set1.set3, K2.out.set1.set3.cells⟩ | exact ⟨K2.out.set1.set3.set4, K2.out.set1.set3.set4.cells⟩)
    ((go_at_call 27; first | refine (HC1.out _).mono ?_ | refine (HC3.out _).mono ?_ | refine (HC4.out _).mono ?_) <;> rintro e w2 ⟨rfl, hb⟩ <;> (have K2 := hide ((by first | exact K1.out.drew | exact K2.out | exact K2.out.set1 | exact K2.out.set1.set3 : Own w ⟨xo, xp, xs, xk, xv⟩ _).to hb)) <;> obtain ⟨c1, c3, c4, f1, f3, f4⟩ := HX.out K2.out <;> clear hb)
  all_goals
    rename_i hH
    have K3 := hide hH.1
    clear hH c1 c3 c4 f1 f3 f4 K2
    generalize ((w2.setCell _ _).setCell _ _).setCell _ _ = W at *
    obtain ⟨⟨c0, c1, c2, c3, c4⟩, _⟩ := box5 K3.out.one
    obtain ⟨⟨d0, d1, d2, d3, d4⟩, f0, f1, f2, f3, f4⟩ := box5 K3.out.two
    have x5 := set5_box (x0 := .int .i64 xo) (x1 := .string xp) (x2 := .int .i64 xs) (x3 := .string xk) (x4 := .string xv) K3.out.two
    have b5 := set5_below (b := w.heap.size + 1) (x0 := .int .i64 xo) (x1 := .string xp) (x2 := .int .i64 xs) (x3 := .string xk) (x4 := .string xv) K3.out.below (by omega)
    unfold set5 at x5 b5
    have X5 := hide x5
    have B5 := hide b5
    clear x5 b5
    go_wp2
    obtain ⟨⟨e0, e1, e2, e3, e4⟩, _⟩ := box5 X5.out
    refine bodyPost_ret (v := .agg #[.int .i64 xo, .string xp, .int .i64 xs, .string xk, .string xv]) (by simp [results, Tryz.results64, go_sem, e0, e1, e2, e3, e4]) rfl ⟨rfl, B5.out⟩
end Go.Proofs.YtfoomgdlbkjaeaaGreat.Y
namespace Go.Proofs.YtfoomgdlbkjaeaaGreat.Y
open Go.RowKit Go.Maps
set_option maxHeartbeats 4000000
set_option maxRecDepth 100000
theorem own_base {w : World} {B B' : Nat} {e : TypeId} {z : Nat} {v : Value} {n : Nat} {xs : List Value} (h : w.ownsRow B e z v n xs) (hB : B' ≤ B) : w.ownsRow B' e z v n xs := by
  refine ⟨h.1, ?_⟩
  rcases h.2 with h2 | ⟨g, cap, cur, hv, hg, r⟩
  · exact .inl h2
  · exact .inr ⟨g, cap, cur, hv, Nat.le_trans hB hg, r⟩
theorem keep_any (upto : Int) (l : List Rec) (hl : l.length ≤ 1048576) (hok : ∀ r ∈ l, r.ok) (v : Value) (w : World) (hat : RecsAt w v l) :
    Calls Tryz.prog 34 #[v, .int .i64 upto] w fun e w' => ∃ v', e = .returned v' ∧ w'.ownsRow w.heap.size 39 5 v' (keepF upto l).length (recCells (keepF upto l)) ∧ Below w.heap.size w w' := by
  have HP := hide (lastPlaces_any l v w hat hok hl)
  obtain ⟨ao, ac, rfl, _, _⟩ := id hat
  have HA := hide hat
  have HOK := hide hok
  generalize hK : keepF upto l = KL
  have HK0 := hide hK
  clear hat hK hok
  go_enter Tryz.func34, Tryz.ntmps34
  go_wp2_with fail
  refine HP.out.mono ?_
  rintro e w1 ⟨mb, n, D, rfl, hmb, om, ls, b1⟩
  have OM := hide om
  have LS := hide ls
  have B1 := hide b1
  clear om ls b1 HP
  go_wp2
  go_loopw [6, 13] (fun ov iv wv => ∃ (k : Nat) (out : List Rec) (oo : Option Addr) (oc : Nat), k ≤ l.length ∧ out.length ≤ k ∧ iv = .int .i64 k ∧ ov = .slice oo out.length oc ∧ Hid (out ++ keepF upto (l.drop k) = KL) ∧ Hid (wv.ownsRow w1.heap.size 39 5 (.slice oo out.length oc) out.length (recCells out)) ∧ Hid (Below w1.heap.size w1 wv)) (fun _ iv _ => l.length - (intOf iv).toNat)
  case atStart => exact ⟨0, [], none, 0, Nat.zero_le _, Nat.zero_le _, rfl, rfl, HK0.out, nil_own _ _ _ _, Below.refl _ _⟩
  case round =>
    obtain ⟨k, out, oo, oc, hk, hok, rfl, rfl, HI, OV, BV⟩ := hrel
    by_cases hlt : k < l.length
    · have hxo := HOK.out _ (List.getElem_mem hlt)
      have HG : Hid (∀ W : World, Below w1.heap.size w1 W → Calls Tryz.prog 63 #[l[k].v, .int .i64 k, .map (some mb), .int .i64 upto] W fun e w' => e = .returned (.bool (goesF upto l[k] (l.drop (k + 1)))) ∧ Below W.heap.size W w') := fun W hb => goes_any upto l k hlt hxo mb n D LS.out W (below_map hb OM.out)
      have hgo := @keepF_go upto l k hlt
      have hst := @keepF_stay upto l k hlt
      obtain ⟨_, b, off, rfl, hb, a0, a1, a2, a3, a4⟩ := ((HA.out.below B1.out).below BV.out).five k hlt
      have hi0 : (0 : Int) ≤ (k : Int) := by omega
      have hi1 : (k : Int) < (l.length : Int) := by omega
      generalize goesF upto l[k] (l.drop (k + 1)) = g at *
      have HX := hide (own_any l[k] hxo)
      generalize l[k] = x at *
      obtain ⟨xo, xp, xs, xk, xv⟩ := x
      simp only [Rec.v] at a0 a1 a2 a3 a4 hgo hst HG HX
      have x2 := heap_alloc_new wr (.cells #[.int .i64 xo, .string xp, .int .i64 xs, .string xk, .string xv] 39)
      have OA := hide (OV.out.alloc (.cells #[.int .i64 xo, .string xp, .int .i64 xs, .string xk, .string xv] 39))
      have BA := hide (BV.out.alloc BV.out.size (.cells #[.int .i64 xo, .string xp, .int .i64 xs, .string xk, .string xv] 39))
      have hrb : wr.heap.size < (wr.alloc (.cells #[.int .i64 xo, .string xp, .int .i64 xs, .string xk, .string xv] 39)).heap.size := by simp
      have X2 := hide x2
      clear x2
      go_wp2_with fail
      refine (HG.out _ BA.out).mono ?_
      rintro e w2 ⟨rfl, b2⟩
      have B2 := hide (BA.out.trans (b2.mono BA.out.size))
      have O2 := hide (own_below OA.out b2)
      have X3 := hide ((b2.block wr.heap.size hrb).trans X2.out)
      clear OV BV OA BA X2 b2 hrb a0 a1 a2 a3 a4 HG
      generalize wr.heap.size = rb at *
      obtain ⟨⟨c0, c1, c2, c3, c4⟩, _⟩ := box5 X3.out
      clear X3
      cases g with
      | true =>
        have h1 := hgo rfl
        have H1 := hide (h1 ▸ HI.out)
        clear hgo hst h1 c0 c1 c2 c3 c4 HX
        go_wp2
        exact ⟨⟨k + 1, out, oo, oc, by omega, by omega, by go_num, rfl, H1, O2, B2⟩, by simp [intOf]; omega⟩
      | false =>
        have h1 := hst rfl
        have H1 := hide (h1 ▸ HI.out)
        clear hgo hst h1
        go_wp2_with (first | (go_at_call 64; refine (HX.out _).mono ?_; rintro e w3 ⟨rfl, b3⟩; have B3 := hide (B2.out.trans (b3.mono B2.out.size)); have O3 := hide (own_below O2.out b3); clear b3) | (at_builtin; refine wpList_append_own _ rfl _ _ 35 rfl w1.heap.size 39 Tryz.t39 _ 5 64 Tryz.underlying35 Tryz.infoRec Tryz.zeroRec Tryz.sizeRec Tryz.bytesRec rfl (by decide) (.slice oo out.length oc) out.length (recCells out) rfl (O3.out.alloc _) ⟨w3.heap.size, 0, none⟩ 1 1 [.int .i64 xo, .string xp, .int .i64 xs, .string xk, .string xv] rfl rfl (World.news_of_block (cs := #[.int .i64 xo, .string xp, .int .i64 xs, .string xk, .string xv]) (t := 39) (fr := (0, 0)) (heap_alloc_new w3 _)) (rec_ones _ _ _ _ _) (by unfold maxLen; omega) (by omega) (by have := B3.out.size; simp; omega) ?_; intro v4 w4 hown hgrow _; obtain ⟨oo4, oc4, rfl⟩ := row_slice hown))
        have hl4 : out.length + 1 = (out ++ [(⟨xo, xp, xs, xk, xv⟩ : Rec)]).length := by simp
        have O4 : Hid (w4.ownsRow w1.heap.size 39 5 (.slice oo4 (out ++ [(⟨xo, xp, xs, xk, xv⟩ : Rec)]).length oc4) (out ++ [(⟨xo, xp, xs, xk, xv⟩ : Rec)]).length (recCells (out ++ [(⟨xo, xp, xs, xk, xv⟩ : Rec)]))) := by
          rw [recCells_snoc, ← hl4]
          exact hown
        have B4 := hide ((B3.out.alloc B3.out.size _).grown hgrow (by have := B3.out.size; simp; omega) (fun j hj => (O3.out.lt j hj).1))
        exact ⟨⟨k + 1, out ++ [(⟨xo, xp, xs, xk, xv⟩ : Rec)], oo4, oc4, by omega, by simp; omega, by go_num, by simp, by rw [List.append_assoc]; exact H1.out, O4, B4⟩, by simp [intOf]; omega⟩
    · have hi1 : ¬ (k : Int) < (l.length : Int) := by omega
      have h1 := HI.out
      rw [List.drop_eq_nil_of_le (by omega)] at h1
      simp only [keepF, List.append_nil] at h1
      have H1 := hide h1.symm
      clear h1
      go_wp2
      go_ret
      rw [H1.out]
      exact ⟨_, rfl, own_base OV.out B1.out.size, B1.out.trans (BV.out.mono B1.out.size)⟩
end Go.Proofs.YtfoomgdlbkjaeaaGreat.Y
namespace Go.Proofs.YtfoomgdlbkjaeaaGreat
open Go.RowKit
def OwnsQ (w : World) (e : TypeId) (size : Nat) (v : Value) (n : Nat) (xs : List Value) : Prop :=
  xs.length = n * size ∧ ((v = .slice none 0 0 ∧ n = 0) ∨ ∃ g off cap cur, v = .slice (some ⟨g, off, none⟩) n cap ∧ w.heap[g]? = some (.cells cur e (0, 0)) ∧ n ≤ cap ∧ cap ≤ maxLen ∧ off + cap * size ≤ cur.size ∧ ∀ j, j < n * size → cur[off + j]? = xs[j]?)
section
variable {w w' : World} {e : TypeId} {size : Nat} {v : Value} {n : Nat} {xs : List Value}
theorem OwnsQ.nil (w : World) (e : TypeId) (size : Nat) : OwnsQ w e size (.slice none 0 0) 0 [] := ⟨by simp, .inl ⟨rfl, rfl⟩⟩
theorem OwnsQ.of_row {base : Nat} (h : w.ownsRow base e size v n xs) : OwnsQ w e size v n xs := by
  refine ⟨h.1, h.2.imp id ?_⟩
  rintro ⟨g, cap, cur, h1, _, h3, h4, h5, h6, h7⟩
  refine ⟨g, 0, cap, cur, h1, h3, h4, h5, by omega, fun j hj => ?_⟩
  rw [← h7, List.getElem?_take_of_lt hj, Nat.zero_add, Array.getElem?_toList]
theorem OwnsQ.lt (h : OwnsQ w e size v n xs) {k : Nat} (hk : v.ownBlock = some k) : k < w.heap.size := by
  rcases h.2 with ⟨rfl, _⟩ | ⟨g, off, cap, cur, rfl, hg, _⟩
  · cases hk
  · obtain rfl : g = k := Option.some.inj hk
    exact heap_lt hg
theorem OwnsQ.slice (h : OwnsQ w e size v n xs) : ∃ ao cp, v = .slice ao n cp := by
  rcases h.2 with ⟨rfl, rfl⟩ | ⟨g, off, cap, cur, rfl, _⟩
  · exact ⟨none, 0, rfl⟩
  · exact ⟨_, _, rfl⟩
theorem OwnsQ.type (h : OwnsQ w e size v n xs) {j : Nat} (hj : v.ownBlock = some j) {cs : Array Value} {t : TypeId} (hb : w.heap[j]? = some (.cells cs t (0, 0))) : e = t := by
  rcases h.2 with ⟨rfl, _⟩ | ⟨g, off, c, cur, rfl, hh, _⟩
  · cases hj
  · obtain rfl : g = j := Option.some.inj hj
    rw [hh] at hb
    injection hb with hb
    injection hb with _ h3 _
theorem OwnsQ.congr (h : OwnsQ w e size v n xs) (hb : ∀ j, v.ownBlock = some j → w'.heap[j]? = w.heap[j]?) : OwnsQ w' e size v n xs := by
  refine ⟨h.1, h.2.imp id ?_⟩
  rintro ⟨g, off, cap, cur, rfl, h3, h4⟩
  exact ⟨g, off, cap, cur, rfl, (hb g rfl).trans h3, h4⟩
theorem OwnsQ.keep {own : Nat → Prop} (h : OwnsQ w e size v n xs) (ht : Touch own w w') (hn : ∀ j, v.ownBlock = some j → ¬ own j) : OwnsQ w' e size v n xs :=
  h.congr fun j hj => ht.block j (h.lt hj) (hn j hj)
theorem OwnsQ.alloc (h : OwnsQ w e size v n xs) (o : Obj) : OwnsQ (w.alloc o) e size v n xs := h.congr fun j hj => Below.heap_alloc w o j (h.lt hj)
theorem OwnsQ.drew (h : OwnsQ w e size v n xs) : OwnsQ w.drew e size v n xs := h.congr fun _ _ => rfl
theorem OwnsQ.set (h : OwnsQ w e size v n xs) (b o : Nat) (u : Value) (hn : v.ownBlock ≠ some b) : OwnsQ (w.setCell ⟨b, o, none⟩ u) e size v n xs := h.congr fun j hj => by
  rw [Below.heap_setCell]
  intro e
  subst e
  exact hn hj
theorem OwnsQ.cell {ad : Addr} {cap : Nat} (h : OwnsQ w e size (.slice (some ad) n cap) n xs) : ∃ off, ad = ⟨ad.block, off, none⟩ ∧ (∀ j, j < n * size → w.cell? ⟨ad.block, off + j, none⟩ = xs[j]?) ∧ ∀ o, w.frozen? ⟨ad.block, o, none⟩ = false := by
  rcases h.2 with ⟨hv, _⟩ | ⟨g, off, c, cur, hv, hg, h4, h5, h6, h7⟩
  · cases hv
  · injection hv with h1 _ _
    injection h1 with h1
    subst h1
    refine ⟨off, rfl, fun j hj => ?_, fun o => box_free hg o⟩
    rw [← h7 j hj]
    exact Lib.cell_of_heap hg _
theorem OwnsQ.cut {g off cap : Nat} (h : OwnsQ w e size (.slice (some ⟨g, off, none⟩) n cap) n xs) (k : Nat) (hk : k ≤ n) : OwnsQ w e size (.slice (if cap = k then some ⟨g, off, none⟩ else some ⟨g, off + k * size, none⟩) (n - k) (cap - k)) (n - k) (xs.drop (k * size)) := by
  have hm : (n - k) * size = n * size - k * size := Nat.sub_mul _ _ _
  have hkn : k * size ≤ n * size := Nat.mul_le_mul_right _ hk
  refine ⟨by rw [List.length_drop, h.1, hm], .inr ?_⟩
  rcases h.2 with ⟨hv, _⟩ | ⟨g', off', c, cur, hv, hg, h4, h5, h6, h7⟩
  · cases hv
  · injection hv with h1 _ h3
    injection h1 with h1
    injection h1 with h1 h2 _
    subst h1 h2 h3
    by_cases hc : cap = k
    · rw [if_pos hc]
      refine ⟨g, off, cap - k, cur, rfl, hg, by omega, by omega, by rw [hc, Nat.sub_self, Nat.zero_mul]; omega, fun j hj => ?_⟩
      have : n - k = 0 := by omega
      rw [this, Nat.zero_mul] at hj
      omega
    · rw [if_neg hc]
      have h8 : (cap - k) * size = cap * size - k * size := Nat.sub_mul _ _ _
      have h9 : k * size ≤ cap * size := Nat.mul_le_mul_right _ (by omega)
      refine ⟨g, off + k * size, cap - k, cur, rfl, hg, by omega, by omega, by omega, fun j hj => ?_⟩
      rw [List.getElem?_drop, Nat.add_assoc]
      exact h7 _ (by omega)
end
theorem setCells_heap (g : Nat) {e : TypeId} : ∀ (vs : List Value) (o : Nat) (w : World) (cur : Array Value), w.heap[g]? = some (.cells cur e (0, 0)) → ∃ cur', (w.setCells g o vs).heap[g]? = some (.cells cur' e (0, 0)) ∧ cur'.size = cur.size
  | [], _, _, cur, h => ⟨cur, h, rfl⟩
  | v :: r, o, w, cur, h => by
    obtain ⟨c, h1, h2⟩ := setCells_heap g r (o + 1) (w.setCell ⟨g, o, none⟩ v) _ (box_set h o v)
    exact ⟨c, h1, by rw [h2, Array.size_setIfInBounds]⟩
theorem setCells_grown (g : Nat) : ∀ (vs : List Value) (o : Nat) (w : World), w.grownBy (w.setCells g o vs) (some g) ∧ (w.setCells g o vs).heap.size = w.heap.size
  | [], _, w => ⟨⟨rfl, rfl, rfl, Nat.le_refl _, fun _ _ _ => rfl⟩, rfl⟩
  | v :: r, o, w => by
    obtain ⟨h1, h2⟩ := setCells_grown g r (o + 1) (w.setCell ⟨g, o, none⟩ v)
    have hs : (w.setCell ⟨g, o, none⟩ v).heap.size = w.heap.size := by unfold World.setCell; simp
    refine ⟨⟨h1.os, h1.tape, h1.output, by rw [← hs]; exact h1.size, fun k hk hne => ?_⟩, by rw [World.setCells, h2, hs]⟩
    rw [World.setCells, h1.block k (by rw [hs]; exact hk) hne]
    exact Below.heap_setCell _ _ _ _ (fun e => hne (by rw [e]))
section
variable {P : Program} (w : World)
theorem run_append_q (t ty e : TypeId) (i : TypeInfo) (z : Value) (size bytes : Nat) (ht : P.underlying t = some (.slice e)) (hi : P.info? e = some i) (hz : i.zero = some z)
    (hsize : i.size = size) (hby : i.bytes = bytes) (hzs : z.cells.size = size) (hsz : 0 < size)
    (v : Value) (n : Nat) (xs : List Value) (hown : OwnsQ w e size v n xs)
    (ad : Addr) (m c : Nat) (news : List Value) (hl : news.length = m * size) (hnews : ∀ j u, news[j]? = some u → w.cell? (ad.add j) = some u) (h1 : ∀ u ∈ news, u.oneCell' = true)
    (h63 : n + m ≤ maxLen) (hbytes : (n + m) * bytes ≤ 140737488355328) :
    ∃ ao cp w', (Builtin.append_ #[t, t] ty #[v, .slice (some ad) m c]).run P w = .ok (.slice ao (n + m) cp) w' ∧ OwnsQ w' e size (.slice ao (n + m) cp) (n + m) (xs ++ news) ∧ w.grownBy w' v.ownBlock ∧ ∀ j, (Value.slice ao (n + m) cp).ownBlock = some j → v.ownBlock = some j ∨ w.heap.size ≤ j := by
  rcases hown.2 with ⟨rfl, rfl⟩ | ⟨g, off, cap, cur, rfl, hg, h4, h5, h6, h7⟩
  · have hx : xs = [] := List.eq_nil_of_length_eq_zero (by rw [hown.1, Nat.zero_mul])
    subst hx
    obtain ⟨v', w', hr, h2, h3, _, _⟩ := run_append_own_at (P := P) w w.heap.size t ty e i z size bytes ht hi hz hsize hby hzs hsz (.slice none 0 0) 0 [] (World.ownsRow_nil w _ e size) ad m c news hl hnews h1 h63 hbytes (Nat.le_refl _)
    obtain ⟨ao, cp, rfl⟩ := row_slice h2
    exact ⟨ao, cp, w', hr, .of_row h2, h3, fun j hj => .inr (h2.lt j hj).1⟩
  · by_cases hroom : n + m ≤ cap
    · subst hsize
      have hle : (n + m) * i.size ≤ cap * i.size := Nat.mul_le_mul_right _ hroom
      rw [Nat.add_mul] at hle
      have hcell : ∀ j, j < news.length → (w.cell? ⟨g, off + n * i.size + j, none⟩).isSome = true := fun j hj => by
        have h8 : off + n * i.size + j < cur.size := by omega
        rw [Lib.cell_of_heap hg, Array.getElem?_eq_getElem h8]
        rfl
      have hrun := run_append_room_cells (P := P) w t ty e i ht hi g off n cap ad m c news hl hnews h1 hroom hcell (fun j _ => box_free hg _)
      obtain ⟨cur', hg', hs'⟩ := setCells_heap g news (off + n * i.size) w cur hg
      obtain ⟨hgr, _⟩ := setCells_grown g news (off + n * i.size) w
      refine ⟨_, _, _, hrun, ⟨by rw [List.length_append, hown.1, hl, Nat.add_mul], .inr ⟨g, off, cap, cur', rfl, hg', hroom, h5, by omega, fun j hj => ?_⟩⟩, hgr, fun j hj => .inl hj⟩
      rw [Nat.add_mul] at hj
      have e1 : cur'[off + j]? = (w.setCells g (off + n * i.size) news).cell? ⟨g, off + j, none⟩ := (Lib.cell_of_heap hg' _).symm
      rw [e1]
      by_cases hjn : j < n * i.size
      · rw [World.cell?_setCells_out g _ _ _ _ (fun _ _ => Or.inl (by show off + j < off + n * i.size; omega)), List.getElem?_append_left (by rw [hown.1]; exact hjn), Lib.cell_of_heap hg]
        exact h7 j hjn
      · have hj2 : j - n * i.size < news.length := by omega
        have := World.cell?_setCells_in g news (off + n * i.size) w hcell (j - n * i.size) hj2
        rw [show off + n * i.size + (j - n * i.size) = off + j by omega] at this
        rw [this, List.getElem?_append_right (by rw [hown.1]; omega), hown.1, List.getElem?_eq_getElem hj2]
    · obtain ⟨v', w', hrun, r1, r2⟩ := run_append_arg_grows (P := P) w t ty e i z size bytes ht hi hz hsize hby hzs hsz ⟨g, off, none⟩ n cap xs hown.1 (fun j u hj => by
        have hlt : j < n * size := by rw [← hown.1]; exact (List.getElem?_eq_some_iff.1 hj).1
        rw [Addr.add_lit, Lib.cell_of_heap hg, h7 j hlt]
        exact hj) ad m c news hl hnews (by omega) h63 hbytes
      obtain ⟨ao, cp, rfl⟩ := row_slice r1
      exact ⟨ao, cp, w', hrun, .of_row r1, ⟨r2.os, r2.tape, r2.output, r2.size, fun k hk _ => r2.block k hk (by simp)⟩, fun j hj => .inr (r1.lt j hj).1⟩
theorem step_append_q {w : World} {ops : Array Oper} {o : Oper} {a : Act} {K : Act → World → Prop} {Q : Exit → Act → World → Prop} {E : Prop} (hgd : o.guard = none) (s x : Operand) (t : TypeId)
    (ho : o.op = .call { callee := .builtin .append, args := #[s, x], argTypes := #[t, t] })
    (e : TypeId) (i : TypeInfo) (z : Value) (size bytes : Nat) (ht : P.underlying t = some (.slice e)) (hi : P.info? e = some i) (hz : i.zero = some z)
    (hsize : i.size = size) (hby : i.bytes = bytes) (hzs : z.cells.size = size) (hsz : 0 < size)
    (v : Value) (n : Nat) (xs : List Value) (hs : a.eval s = v) (hown : OwnsQ w e size v n xs)
    (ad : Addr) (m c : Nat) (news : List Value) (hx : a.eval x = .slice (some ad) m c) (hl : news.length = m * size) (hnews : ∀ j u, news[j]? = some u → w.cell? (ad.add j) = some u) (h1 : ∀ u ∈ news, u.oneCell' = true)
    (h63 : n + m ≤ maxLen) (hbytes : (n + m) * bytes ≤ 140737488355328)
    (h : ∀ ao cp w', OwnsQ w' e size (.slice ao (n + m) cp) (n + m) (xs ++ news) → w.grownBy w' v.ownBlock → (∀ j, (Value.slice ao (n + m) cp).ownBlock = some j → v.ownBlock = some j ∨ w.heap.size ≤ j) → K (a.put o.dst (.slice ao (n + m) cp)) w') :
    if Region.wanted o (yielded ops a.tmps) = true then Oper.wp P o a w K Q else E := by
  have hw : Region.wanted o (yielded ops a.tmps) = true := by simp [Region.wanted, hgd]
  rw [if_pos hw]
  obtain ⟨ao, cp, w', hr, h2, h3, h5⟩ := run_append_q (P := P) w t o.type e i z size bytes ht hi hz hsize hby hzs hsz v n xs hown ad m c news hl hnews h1 h63 hbytes
  unfold Oper.wp execOp
  simp only [ho, resolve, invoke, builtin, Sem.run_bind, Sem.run_pure, Result.andThen_ok, List.map_toArray, List.map_cons, List.map_nil, hs, hx, hr]
  exact h ao cp w' h2 h3 h5
end
end Go.Proofs.YtfoomgdlbkjaeaaGreat
