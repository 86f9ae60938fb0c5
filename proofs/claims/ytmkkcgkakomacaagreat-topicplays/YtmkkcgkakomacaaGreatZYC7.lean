/-
  Keep, Gone, as they run.
-/
import Derived.Test.YtmkkcgkakomacaaGreatZYC4
import Derived.Shelf.LaysM
import Derived.Shelf.Strconv.Clone
import Derived.Test.YtmkkcgkakomacaaGreatRows
import Derived.WalkSmall
import Derived.Deep.RegionHeld
namespace Go.Proofs.YtmkkcgkakomacaaGreat.Y
open Go.RowKit Go.Maps
set_option maxHeartbeats 2000000
set_option maxRecDepth 100000
theorem Tryz.infoRec : Tryz.prog.info? 39 = some Tryz.t39 := by kernel_rfl
theorem Tryz.zeroRec : Tryz.t39.zero = some (.agg #[.int .i64 0, .string ⟨#[]⟩, .int .i64 0, .string ⟨#[]⟩, .string ⟨#[]⟩]) := by kernel_rfl
theorem Tryz.sizeRec : Tryz.t39.size = 5 := by kernel_rfl
theorem Tryz.bytesRec : Tryz.t39.bytes = 64 := by kernel_rfl
theorem rec_ones (a c : Int) (b d e : ByteArray) : ∀ u ∈ [Value.int .i64 a, .string b, .int .i64 c, .string d, .string e], u.oneCell' = true := by
  intro u hu
  simp at hu
  rcases hu with rfl | rfl | rfl | rfl | rfl <;> rfl
theorem nil_own (w : World) (B : Nat) (e : TypeId) (z : Nat) : w.ownsRow B e z (.slice none 0 0) 0 [] := ⟨by simp, .inl ⟨rfl, rfl⟩⟩
theorem own_below {w w' : World} {B e z : Nat} {v : Value} {n : Nat} {xs : List Value} (h : w.ownsRow B e z v n xs) (hb : Below w.heap.size w w') : w'.ownsRow B e z v n xs := below_row hb h
theorem rkeep_any (upto : Int) (l : List Rec) (hl : l.length ≤ 1048576) (v : Value) (w : World) (hat : RecsAt w v l) :
    Calls Tryz.prog 35 #[v, .int .i64 upto] w fun e w' => ∃ v', e = .returned v' ∧ w'.ownsRow w.heap.size 39 5 v' (keepF upto l).length (recCells (keepF upto l)) ∧ Below w.heap.size w w' := by
  obtain ⟨ao, ac, rfl, _, _⟩ := id hat
  have HA := hide hat
  generalize hK : keepF upto l = KL
  have HS : Hid (∀ (W : World) (k : Nat) (hk : k < l.length), RecsAt W (.slice ao l.length ac) l → Calls Tryz.prog 65 #[.slice ao l.length ac, .int .i64 k] W fun e w' => e = .returned (.bool (supF l[k] (l.drop (k + 1)))) ∧ Below W.heap.size W w') := fun W k hk h => superseded_any l k hk hl _ W h
  have HK0 := hide hK
  clear hat hK
  go_enter Tryz.func35, Tryz.ntmps35
  go_wp2
  go_loopw [5, 6] (fun ov iv wv => ∃ (k : Nat) (out : List Rec) (oo : Option Addr) (oc : Nat), k ≤ l.length ∧ out.length ≤ k ∧ iv = .int .i64 k ∧ ov = .slice oo out.length oc ∧ Hid (out ++ keepF upto (l.drop k) = KL) ∧ Hid (wv.ownsRow w.heap.size 39 5 (.slice oo out.length oc) out.length (recCells out)) ∧ Hid (Below w.heap.size w wv)) (fun _ iv _ => l.length - (intOf iv).toNat)
  case atStart => exact ⟨0, [], none, 0, Nat.zero_le _, Nat.zero_le _, rfl, rfl, HK0.out, nil_own _ _ _ _, Below.refl _ _⟩
  case round =>
    obtain ⟨k, out, oo, oc, hk, hok, rfl, rfl, HI, OV, BV⟩ := hrel
    by_cases hlt : k < l.length
    · have HS2 := hide (HS.out wr k hlt (HA.out.below BV.out))
      have hgo := @keepF_go upto l k hlt
      have hst := @keepF_stay upto l k hlt
      rw [goesF_sup] at hgo hst
      go_wp2_with fail
      refine HS2.out.mono ?_
      rintro e w2 ⟨rfl, b2⟩
      have B2 := hide (BV.out.trans (b2.mono BV.out.size))
      have O2 := hide (own_below OV.out b2)
      clear HS2 OV BV b2 
      obtain ⟨_, b, off, rfl, hb, a0, a1, a2, a3, a4⟩ := (HA.out.below B2.out).five k hlt
      have hi0 : (0 : Int) ≤ (k : Int) := by omega
      have hi1 : (k : Int) < (l.length : Int) := by omega
      generalize supF l[k] (l.drop (k + 1)) = s at *
      generalize l[k] = x at *
      obtain ⟨xo, xp, xs, xk, xv⟩ := x
      simp only at a0 a1 a2 a3 a4 hgo hst
      by_cases hs : s = true
      · subst hs
        by_cases hu : xo < upto
        · have h1 := hgo (by simpa using hu)
          have H1 := hide (h1 ▸ HI.out)
          clear hgo hst h1
          have hu' : ¬ upto ≤ xo := by omega
          go_wp2
          exact ⟨⟨k + 1, out, oo, oc, by omega, by omega, by go_num, rfl, H1.out, O2.out, B2.out⟩, by simp [intOf]; omega⟩
        · have h1 := hst (by simpa using hu)
          have hu' : upto ≤ xo := by omega
          have H1 := hide (h1 ▸ HI.out)
          clear hgo hst h1
          go_wp2_with (at_builtin; refine wpList_append_own _ rfl _ _ 35 rfl w.heap.size 39 Tryz.t39 _ 5 64 Tryz.underlying35 Tryz.infoRec Tryz.zeroRec Tryz.sizeRec Tryz.bytesRec rfl (by decide) (.slice oo out.length oc) out.length (recCells out) rfl (O2.out.alloc _) ⟨w2.heap.size, 0, none⟩ 1 1 [.int .i64 xo, .string xp, .int .i64 xs, .string xk, .string xv] rfl rfl (World.news_of_block (cs := #[.int .i64 xo, .string xp, .int .i64 xs, .string xk, .string xv]) (t := 39) (fr := (0, 0)) (heap_alloc_new w2 _)) (rec_ones _ _ _ _ _) (by unfold maxLen; omega) (by omega) (by have := B2.out.size; simp; omega) ?_; intro v4 w4 hown hgrow _)
          obtain ⟨oo4, oc4, rfl⟩ := row_slice hown
          have hl4 : out.length + 1 = (out ++ [(⟨xo, xp, xs, xk, xv⟩ : Rec)]).length := by simp
          have O4 : Hid (w4.ownsRow w.heap.size 39 5 (.slice oo4 (out ++ [(⟨xo, xp, xs, xk, xv⟩ : Rec)]).length oc4) (out ++ [(⟨xo, xp, xs, xk, xv⟩ : Rec)]).length (recCells (out ++ [(⟨xo, xp, xs, xk, xv⟩ : Rec)]))) := by
            rw [recCells_snoc, ← hl4]
            exact hown
          have B4 := hide ((B2.out.alloc B2.out.size _).grown hgrow (by have := B2.out.size; simp; omega) (fun j hj => (O2.out.lt j hj).1))
          clear hown hgrow hl4
          go_wp2
          exact ⟨⟨k + 1, out ++ [(⟨xo, xp, xs, xk, xv⟩ : Rec)], oo4, oc4, by omega, by simp; omega, by go_num, by simp, by rw [List.append_assoc]; exact H1.out, O4, B4⟩, by simp [intOf]; omega⟩
      · have hs2 : s = false := by simpa using hs
        subst hs2
        have h1 := hst (by simp)
        have H1 := hide (h1 ▸ HI.out)
        clear hgo hst h1
        go_wp2_with (at_builtin; refine wpList_append_own _ rfl _ _ 35 rfl w.heap.size 39 Tryz.t39 _ 5 64 Tryz.underlying35 Tryz.infoRec Tryz.zeroRec Tryz.sizeRec Tryz.bytesRec rfl (by decide) (.slice oo out.length oc) out.length (recCells out) rfl (O2.out.alloc _) ⟨w2.heap.size, 0, none⟩ 1 1 [.int .i64 xo, .string xp, .int .i64 xs, .string xk, .string xv] rfl rfl (World.news_of_block (cs := #[.int .i64 xo, .string xp, .int .i64 xs, .string xk, .string xv]) (t := 39) (fr := (0, 0)) (heap_alloc_new w2 _)) (rec_ones _ _ _ _ _) (by unfold maxLen; omega) (by omega) (by have := B2.out.size; simp; omega) ?_; intro v4 w4 hown hgrow _)
        obtain ⟨oo4, oc4, rfl⟩ := row_slice hown
        have hl4 : out.length + 1 = (out ++ [(⟨xo, xp, xs, xk, xv⟩ : Rec)]).length := by simp
        have O4 : Hid (w4.ownsRow w.heap.size 39 5 (.slice oo4 (out ++ [(⟨xo, xp, xs, xk, xv⟩ : Rec)]).length oc4) (out ++ [(⟨xo, xp, xs, xk, xv⟩ : Rec)]).length (recCells (out ++ [(⟨xo, xp, xs, xk, xv⟩ : Rec)]))) := by
          rw [recCells_snoc, ← hl4]
          exact hown
        have B4 := hide ((B2.out.alloc B2.out.size _).grown hgrow (by have := B2.out.size; simp; omega) (fun j hj => (O2.out.lt j hj).1))
        clear hown hgrow hl4
        go_wp2
        exact ⟨⟨k + 1, out ++ [(⟨xo, xp, xs, xk, xv⟩ : Rec)], oo4, oc4, by omega, by simp; omega, by go_num, by simp, by rw [List.append_assoc]; exact H1.out, O4, B4⟩, by simp [intOf]; omega⟩
    · have hi1 : ¬ (k : Int) < (l.length : Int) := by omega
      have h1 := HI.out
      rw [List.drop_eq_nil_of_le (by omega)] at h1
      simp only [keepF, List.append_nil] at h1
      have H1 := hide h1.symm
      clear h1
      go_wp2
      go_ret
      rw [H1.out]
      exact ⟨_, rfl, OV.out, BV.out⟩
end Go.Proofs.YtmkkcgkakomacaaGreat.Y
namespace Go.Proofs.YtmkkcgkakomacaaGreat.Y
open Go.Shelf Go.RowKit
def shren : Go.Shelf.Ren := ⟨fun | 316 => 55 | n => n, fun | 0 => 0 | 3 => 3 | 4 => 4 | 5 => 5 | 9 => 9 | 37 => 111 | 127 => 128 | n => n, fun | n => n⟩
theorem sh316 : Go.Proofs.LaysM.n316 Tryz.prog shren := {
  mixed := by kernel_rfl
  f316 := Tryz.func55.trans (congrArg some (by kernel_rfl))
  t0 := Tryz.underlying0
  a0 := Tryz.isAgg0
  z0 := Tryz.sizeOf0
  v0 := Tryz.zeroValue0
  t3 := Tryz.underlying3
  a3 := Tryz.isAgg3
  z3 := Tryz.sizeOf3
  v3 := Tryz.zeroValue3
  t4 := Tryz.underlying4
  a4 := Tryz.isAgg4
  z4 := Tryz.sizeOf4
  v4 := Tryz.zeroValue4
  t9 := Tryz.underlying9
  a9 := Tryz.isAgg9
  z9 := Tryz.sizeOf9
  v9 := Tryz.zeroValue9
  t37 := Tryz.underlying111
  a37 := Tryz.isAgg111
  z37 := Tryz.sizeOf111
  v37 := Tryz.zeroValue111
  t127 := Tryz.underlying128
  a127 := Tryz.isAgg128
  z127 := Tryz.sizeOf128
  v127 := Tryz.zeroValue128
  t5 := Tryz.underlying5
  a5 := Tryz.isAgg5
  z5 := Tryz.sizeOf5
  v5 := Tryz.zeroValue5
  i0 := by kernel_rfl
  i3 := by kernel_rfl
  i4 := by kernel_rfl
  i5 := by kernel_rfl
  i9 := by kernel_rfl
  i37 := by kernel_rfl
  i127 := by kernel_rfl }
theorem liteClone (s : ByteArray) (w : World) (hlim : s.size ≤ 281474976710656) :
    Calls Tryz.prog 55 #[.string s] w fun e w' => e = .returned (.string s) ∧ Below w.heap.size w w' := Any.stringslite_Clone sh316 s w hlim
theorem clone_any (s : ByteArray) (w : World) (hs : s.size ≤ 281474976710656) :
    Calls Tryz.prog 27 #[.string s] w fun e w' => e = .returned (.string s) ∧ Below w.heap.size w w' := by
  go_enter Tryz.func27, Tryz.ntmps27
  go_wp2_with (go_at_call 55; refine (liteClone _ _ hs).mono ?_; rintro e w' ⟨rfl, hb⟩)
  go_ret
  exact ⟨rfl, hb⟩
end Go.Proofs.YtmkkcgkakomacaaGreat.Y
namespace Go.Proofs.YtmkkcgkakomacaaGreat.Y
open Go.RowKit Go.Maps
set_option maxHeartbeats 4000000
set_option maxRecDepth 100000
theorem box5 {W : World} {b : Nat} {t : TypeId} {v0 v1 v2 v3 v4 : Value} (h : W.heap[b]? = some (.cells #[v0, v1, v2, v3, v4] t (0, 0))) :
    (W.cell? ⟨b, 0, none⟩ = some v0 ∧ W.cell? ⟨b, 1, none⟩ = some v1 ∧ W.cell? ⟨b, 2, none⟩ = some v2 ∧ W.cell? ⟨b, 3, none⟩ = some v3 ∧ W.cell? ⟨b, 4, none⟩ = some v4) ∧
    (W.frozen? ⟨b, 0, none⟩ = false ∧ W.frozen? ⟨b, 1, none⟩ = false ∧ W.frozen? ⟨b, 2, none⟩ = false ∧ W.frozen? ⟨b, 3, none⟩ = false ∧ W.frozen? ⟨b, 4, none⟩ = false) :=
  ⟨⟨box_cell h 0 rfl, box_cell h 1 rfl, box_cell h 2 rfl, box_cell h 3 rfl, box_cell h 4 rfl⟩, box_free h 0, box_free h 1, box_free h 2, box_free h 3, box_free h 4⟩
def set5 (W : World) (b : Nat) (x0 x1 x2 x3 x4 : Value) : World := ((((W.setCell ⟨b, 0, none⟩ x0).setCell ⟨b, 1, none⟩ x1).setCell ⟨b, 2, none⟩ x2).setCell ⟨b, 3, none⟩ x3).setCell ⟨b, 4, none⟩ x4
theorem set5_box {W : World} {b : Nat} {t : TypeId} {v0 v1 v2 v3 v4 x0 x1 x2 x3 x4 : Value} (h : W.heap[b]? = some (.cells #[v0, v1, v2, v3, v4] t (0, 0))) : (set5 W b x0 x1 x2 x3 x4).heap[b]? = some (.cells #[x0, x1, x2, x3, x4] t (0, 0)) := by
  simp [set5, World.setCell, Array.getElem?_modify, h]
theorem set5_below {B : Nat} {w W : World} {b : Nat} {x0 x1 x2 x3 x4 : Value} (h : Below B w W) (hb : B ≤ b) : Below B w (set5 W b x0 x1 x2 x3 x4) :=
  ((((h.setCell hb _).setCell hb _).setCell hb _).setCell hb _).setCell hb _
structure Own (w : World) (r : Rec) (w' : World) : Prop where
  below : Below w.heap.size w w'
  one : w'.heap[w.heap.size]? = some (.cells #[.int .i64 r.off, .string r.prod, .int .i64 r.seq, .string r.key, .string r.val] 39 (0, 0))
  two : w'.heap[w.heap.size + 1]? = some (.cells #[.int .i64 0, .string ⟨#[]⟩, .int .i64 0, .string ⟨#[]⟩, .string ⟨#[]⟩] 39 (0, 0))
theorem Own.to {w w1 w2 : World} {r : Rec} (h : Own w r w1) (hb : Below w1.heap.size w1 w2) : Own w r w2 :=
  ⟨h.below.trans (hb.mono h.below.size), Below.at hb h.one, Below.at hb h.two⟩
theorem Own.drew {w w1 : World} {r : Rec} (h : Own w r w1) : Own w r w1.drew := ⟨h.below.drew, h.one, h.two⟩
theorem Own.set {w w1 : World} {r : Rec} (h : Own w r w1) (o : Nat) (v : Value) (hv : (#[.int .i64 r.off, .string r.prod, .int .i64 r.seq, .string r.key, .string r.val] : Array Value).setIfInBounds o v = #[.int .i64 r.off, .string r.prod, .int .i64 r.seq, .string r.key, .string r.val]) : Own w r (w1.setCell ⟨w.heap.size, o, none⟩ v) := by
  refine ⟨h.below.setCell (Nat.le_refl _) _, ?_, box_apart h.two (by omega) _ _⟩
  rw [box_set h.one, hv]
theorem Own.set1 {w w1 : World} {r : Rec} (h : Own w r w1) : Own w r (w1.setCell ⟨w.heap.size, 1, none⟩ (.string r.prod)) := h.set 1 _ (by rfl)
theorem Own.set3 {w w1 : World} {r : Rec} (h : Own w r w1) : Own w r (w1.setCell ⟨w.heap.size, 3, none⟩ (.string r.key)) := h.set 3 _ (by rfl)
theorem Own.set4 {w w1 : World} {r : Rec} (h : Own w r w1) : Own w r (w1.setCell ⟨w.heap.size, 4, none⟩ (.string r.val)) := h.set 4 _ (by rfl)
theorem Own.cells {w w1 : World} {r : Rec} (h : Own w r w1) : w1.cell? ⟨w.heap.size, 1, none⟩ = some (.string r.prod) ∧ w1.cell? ⟨w.heap.size, 3, none⟩ = some (.string r.key) ∧ w1.cell? ⟨w.heap.size, 4, none⟩ = some (.string r.val) :=
  ⟨box_cell h.one 1 rfl, box_cell h.one 3 rfl, box_cell h.one 4 rfl⟩
theorem Own.free {w w1 : World} {r : Rec} (h : Own w r w1) (o : Nat) : w1.frozen? ⟨w.heap.size, o, none⟩ = false := box_free h.one o
theorem own_any (r : Rec) (hr : r.ok) (w : World) :
    Calls Tryz.prog 64 #[r.v] w fun e w' => e = .returned r.v ∧ Below w.heap.size w w' := by
  have HC1 := hide (fun W => clone_any r.prod W hr.2.2.2.2.1)
  have HC3 := hide (fun W => clone_any r.key W hr.2.2.2.2.2.1)
  have HC4 := hide (fun W => clone_any r.val W hr.2.2.2.2.2.2)
  have K1 : Hid (Own w r ((w.alloc (.cells #[.int .i64 r.off, .string r.prod, .int .i64 r.seq, .string r.key, .string r.val] 39)).alloc (.cells #[.int .i64 0, .string ⟨#[]⟩, .int .i64 0, .string ⟨#[]⟩, .string ⟨#[]⟩] 39))) := by
    refine ⟨((Below.refl _ _).alloc (Nat.le_refl _) _).alloc (by simp) _, ?_, ?_⟩
    · exact box_alloc (heap_alloc_new w _) _
    · have := heap_alloc_new (w.alloc (.cells #[.int .i64 r.off, .string r.prod, .int .i64 r.seq, .string r.key, .string r.val] 39)) (.cells #[.int .i64 0, .string ⟨#[]⟩, .int .i64 0, .string ⟨#[]⟩, .string ⟨#[]⟩] 39)
      simpa using this
  obtain ⟨xo, xp, xs, xk, xv⟩ := r
  simp only [Rec.v] at *
  clear hr
  go_enter Tryz.func64, Tryz.ntmps64
  go_wp2_with fail
  generalize (w.alloc (.cells #[.int .i64 xo, .string xp, .int .i64 xs, .string xk, .string xv] 39)).alloc (.cells #[.int .i64 0, .string ⟨#[]⟩, .int .i64 0, .string ⟨#[]⟩, .string ⟨#[]⟩] 39) = w1 at *
  have HX : Hid (∀ {W : World}, Own w ⟨xo, xp, xs, xk, xv⟩ W → W.cell? ⟨w.heap.size, 1, none⟩ = some (.string xp) ∧ W.cell? ⟨w.heap.size, 3, none⟩ = some (.string xk) ∧ W.cell? ⟨w.heap.size, 4, none⟩ = some (.string xv) ∧ W.frozen? ⟨w.heap.size, 1, none⟩ = false ∧ W.frozen? ⟨w.heap.size, 3, none⟩ = false ∧ W.frozen? ⟨w.heap.size, 4, none⟩ = false) := fun h => ⟨h.cells.1, h.cells.2.1, h.cells.2.2, h.free 1, h.free 3, h.free 4⟩
  obtain ⟨c1, c3, c4, f1, f3, f4⟩ := HX.out K1.out
  go_region_held (fun w' => Own w ⟨xo, xp, xs, xk, xv⟩ w' ∧ w'.cell? ⟨w.heap.size, 1, none⟩ = some (.string xp) ∧ w'.cell? ⟨w.heap.size, 3, none⟩ = some (.string xk) ∧ w'.cell? ⟨w.heap.size, 4, none⟩ = some (.string xv))
    (first | exact ⟨K1.out.drew, K1.out.drew.cells⟩ | exact ⟨K2.out, K2.out.cells⟩ | exact ⟨K2.out.set1, K2.out.set1.cells⟩ | exact ⟨K2.out.set3, K2.out.set3.cells⟩ | exact ⟨K2.out.set4, K2.out.set4.cells⟩ | exact ⟨K2.out.set1.set3, K2.out.set1.set3.cells⟩ | exact ⟨K2.out.set1.set3.set4, K2.out.set1.set3.set4.cells⟩)
    ((go_at_call 27; first | refine (HC1.out _).mono ?_ | refine (HC3.out _).mono ?_ | refine (HC4.out _).mono ?_) <;> rintro e w2 ⟨rfl, hb⟩ <;> (have K2 := hide ((by first | exact K1.out.drew | exact K2.out | exact K2.out.set1 | exact K2.out.set1.set3 : Own w ⟨xo, xp, xs, xk, xv⟩ _).to hb)) <;> obtain ⟨c1, c3, c4, f1, f3, f4⟩ := HX.out K2.out <;> clear hb)
  all_goals
    rename_i hH
    have K3 := hide hH.1
    clear hH c1 c3 c4 f1 f3 f4 K2
    generalize ((w2.setCell _ _).setCell _ _).setCell _ _ = W at *
    obtain ⟨⟨c0, c1, c2, c3, c4⟩, _⟩ := box5 K3.out.one
    obtain ⟨⟨d0, d1, d2, d3, d4⟩, f0, f1, f2, f3, f4⟩ := box5 K3.out.two
    have x5 := set5_box (x0 := .int .i64 xo) (x1 := .string xp) (x2 := .int .i64 xs) (x3 := .string xk) (x4 := .string xv) K3.out.two
    have b5 := set5_below (b := w.heap.size + 1) (x0 := .int .i64 xo) (x1 := .string xp) (x2 := .int .i64 xs) (x3 := .string xk) (x4 := .string xv) K3.out.below (by omega)
    unfold set5 at x5 b5
    have X5 := hide x5
    have B5 := hide b5
    clear x5 b5
    go_wp2
    obtain ⟨⟨e0, e1, e2, e3, e4⟩, _⟩ := box5 X5.out
    refine bodyPost_ret (v := .agg #[.int .i64 xo, .string xp, .int .i64 xs, .string xk, .string xv]) (by simp [results, Tryz.results64, go_sem, e0, e1, e2, e3, e4]) rfl ⟨rfl, B5.out⟩
end Go.Proofs.YtmkkcgkakomacaaGreat.Y
namespace Go.Proofs.YtmkkcgkakomacaaGreat.Y
open Go.RowKit Go.Maps
set_option maxHeartbeats 4000000
set_option maxRecDepth 100000
theorem own_base {w : World} {B B' : Nat} {e : TypeId} {z : Nat} {v : Value} {n : Nat} {xs : List Value} (h : w.ownsRow B e z v n xs) (hB : B' ≤ B) : w.ownsRow B' e z v n xs := by
  refine ⟨h.1, ?_⟩
  rcases h.2 with h2 | ⟨g, cap, cur, hv, hg, r⟩
  · exact .inl h2
  · exact .inr ⟨g, cap, cur, hv, Nat.le_trans hB hg, r⟩
theorem keep_any (upto : Int) (l : List Rec) (hl : l.length ≤ 1048576) (hok : ∀ r ∈ l, r.ok) (v : Value) (w : World) (hat : RecsAt w v l) :
    Calls Tryz.prog 34 #[v, .int .i64 upto] w fun e w' => ∃ v', e = .returned v' ∧ w'.ownsRow w.heap.size 39 5 v' (keepF upto l).length (recCells (keepF upto l)) ∧ Below w.heap.size w w' := by
  have HP := hide (lastPlaces_any l v w hat hok hl)
  obtain ⟨ao, ac, rfl, _, _⟩ := id hat
  have HA := hide hat
  have HOK := hide hok
  generalize hK : keepF upto l = KL
  have HK0 := hide hK
  clear hat hK hok
  go_enter Tryz.func34, Tryz.ntmps34
  go_wp2_with fail
  refine HP.out.mono ?_
  rintro e w1 ⟨mb, n, D, rfl, hmb, om, ls, b1⟩
  have OM := hide om
  have LS := hide ls
  have B1 := hide b1
  clear om ls b1 HP
  go_wp2
  go_loopw [6, 13] (fun ov iv wv => ∃ (k : Nat) (out : List Rec) (oo : Option Addr) (oc : Nat), k ≤ l.length ∧ out.length ≤ k ∧ iv = .int .i64 k ∧ ov = .slice oo out.length oc ∧ Hid (out ++ keepF upto (l.drop k) = KL) ∧ Hid (wv.ownsRow w1.heap.size 39 5 (.slice oo out.length oc) out.length (recCells out)) ∧ Hid (Below w1.heap.size w1 wv)) (fun _ iv _ => l.length - (intOf iv).toNat)
  case atStart => exact ⟨0, [], none, 0, Nat.zero_le _, Nat.zero_le _, rfl, rfl, HK0.out, nil_own _ _ _ _, Below.refl _ _⟩
  case round =>
    obtain ⟨k, out, oo, oc, hk, hok, rfl, rfl, HI, OV, BV⟩ := hrel
    by_cases hlt : k < l.length
    · have hxo := HOK.out _ (List.getElem_mem hlt)
      have HG : Hid (∀ W : World, Below w1.heap.size w1 W → Calls Tryz.prog 63 #[l[k].v, .int .i64 k, .map (some mb), .int .i64 upto] W fun e w' => e = .returned (.bool (goesF upto l[k] (l.drop (k + 1)))) ∧ Below W.heap.size W w') := fun W hb => goes_any upto l k hlt hxo mb n D LS.out W (below_map hb OM.out)
      have hgo := @keepF_go upto l k hlt
      have hst := @keepF_stay upto l k hlt
      obtain ⟨_, b, off, rfl, hb, a0, a1, a2, a3, a4⟩ := ((HA.out.below B1.out).below BV.out).five k hlt
      have hi0 : (0 : Int) ≤ (k : Int) := by omega
      have hi1 : (k : Int) < (l.length : Int) := by omega
      generalize goesF upto l[k] (l.drop (k + 1)) = g at *
      have HX := hide (own_any l[k] hxo)
      generalize l[k] = x at *
      obtain ⟨xo, xp, xs, xk, xv⟩ := x
      simp only [Rec.v] at a0 a1 a2 a3 a4 hgo hst HG HX
      have x2 := heap_alloc_new wr (.cells #[.int .i64 xo, .string xp, .int .i64 xs, .string xk, .string xv] 39)
      have OA := hide (OV.out.alloc (.cells #[.int .i64 xo, .string xp, .int .i64 xs, .string xk, .string xv] 39))
      have BA := hide (BV.out.alloc BV.out.size (.cells #[.int .i64 xo, .string xp, .int .i64 xs, .string xk, .string xv] 39))
      have hrb : wr.heap.size < (wr.alloc (.cells #[.int .i64 xo, .string xp, .int .i64 xs, .string xk, .string xv] 39)).heap.size := by simp
      have X2 := hide x2
      clear x2
      go_wp2_with fail
      refine (HG.out _ BA.out).mono ?_
      rintro e w2 ⟨rfl, b2⟩
      have B2 := hide (BA.out.trans (b2.mono BA.out.size))
      have O2 := hide (own_below OA.out b2)
      have X3 := hide ((b2.block wr.heap.size hrb).trans X2.out)
      clear OV BV OA BA X2 b2 hrb a0 a1 a2 a3 a4 HG
      generalize wr.heap.size = rb at *
      obtain ⟨⟨c0, c1, c2, c3, c4⟩, _⟩ := box5 X3.out
      clear X3
      cases g with
      | true =>
        have h1 := hgo rfl
        have H1 := hide (h1 ▸ HI.out)
        clear hgo hst h1 c0 c1 c2 c3 c4 HX
        go_wp2
        exact ⟨⟨k + 1, out, oo, oc, by omega, by omega, by go_num, rfl, H1, O2, B2⟩, by simp [intOf]; omega⟩
      | false =>
        have h1 := hst rfl
        have H1 := hide (h1 ▸ HI.out)
        clear hgo hst h1
        go_wp2_with (first | (go_at_call 64; refine (HX.out _).mono ?_; rintro e w3 ⟨rfl, b3⟩; have B3 := hide (B2.out.trans (b3.mono B2.out.size)); have O3 := hide (own_below O2.out b3); clear b3) | (at_builtin; refine wpList_append_own _ rfl _ _ 35 rfl w1.heap.size 39 Tryz.t39 _ 5 64 Tryz.underlying35 Tryz.infoRec Tryz.zeroRec Tryz.sizeRec Tryz.bytesRec rfl (by decide) (.slice oo out.length oc) out.length (recCells out) rfl (O3.out.alloc _) ⟨w3.heap.size, 0, none⟩ 1 1 [.int .i64 xo, .string xp, .int .i64 xs, .string xk, .string xv] rfl rfl (World.news_of_block (cs := #[.int .i64 xo, .string xp, .int .i64 xs, .string xk, .string xv]) (t := 39) (fr := (0, 0)) (heap_alloc_new w3 _)) (rec_ones _ _ _ _ _) (by unfold maxLen; omega) (by omega) (by have := B3.out.size; simp; omega) ?_; intro v4 w4 hown hgrow _; obtain ⟨oo4, oc4, rfl⟩ := row_slice hown))
        have hl4 : out.length + 1 = (out ++ [(⟨xo, xp, xs, xk, xv⟩ : Rec)]).length := by simp
        have O4 : Hid (w4.ownsRow w1.heap.size 39 5 (.slice oo4 (out ++ [(⟨xo, xp, xs, xk, xv⟩ : Rec)]).length oc4) (out ++ [(⟨xo, xp, xs, xk, xv⟩ : Rec)]).length (recCells (out ++ [(⟨xo, xp, xs, xk, xv⟩ : Rec)]))) := by
          rw [recCells_snoc, ← hl4]
          exact hown
        have B4 := hide ((B3.out.alloc B3.out.size _).grown hgrow (by have := B3.out.size; simp; omega) (fun j hj => (O3.out.lt j hj).1))
        exact ⟨⟨k + 1, out ++ [(⟨xo, xp, xs, xk, xv⟩ : Rec)], oo4, oc4, by omega, by simp; omega, by go_num, by simp, by rw [List.append_assoc]; exact H1.out, O4, B4⟩, by simp [intOf]; omega⟩
    · have hi1 : ¬ (k : Int) < (l.length : Int) := by omega
      have h1 := HI.out
      rw [List.drop_eq_nil_of_le (by omega)] at h1
      simp only [keepF, List.append_nil] at h1
      have H1 := hide h1.symm
      clear h1
      go_wp2
      go_ret
      rw [H1.out]
      exact ⟨_, rfl, own_base OV.out B1.out.size, B1.out.trans (BV.out.mono B1.out.size)⟩
end Go.Proofs.YtmkkcgkakomacaaGreat.Y
