/-
  A subscription as a value; from, own, right, as they run.
-/
import Derived.Test.YtominplelmbecaaZT7
namespace Go.Proofs.Ytominplelmbecaa.Y
open Go.RowKit Go.Maps

set_option linter.unusedVariables false
set_option linter.unusedSimpArgs false
/-- A subscription. -/
structure SB where
  name : ByteArray
  top : ByteArray
  cur : Int
  next : Int
def SB.v (S : SB) : Value := .agg #[.string S.name, .string S.top, .int .i64 S.cur, .int .i64 S.next]
structure SB.ok (S : SB) : Prop where
  nm : S.name.size ≤ 281474976710656
  tp : S.top.size ≤ 281474976710656
def SB.right (S : SB) : Bool := wordB S.name && wordB S.top && decide (0 ≤ S.cur) && decide (S.cur ≤ S.next) && decide (S.next ≤ 9007199254740991)
theorem box4 {W : World} {b : Nat} {t : TypeId} {v0 v1 v2 v3 : Value} (h : W.heap[b]? = some (.cells #[v0, v1, v2, v3] t (0, 0))) :
    (W.cell? ⟨b, 0, none⟩ = some v0 ∧ W.cell? ⟨b, 1, none⟩ = some v1 ∧ W.cell? ⟨b, 2, none⟩ = some v2 ∧ W.cell? ⟨b, 3, none⟩ = some v3) ∧
    (W.frozen? ⟨b, 0, none⟩ = false ∧ W.frozen? ⟨b, 1, none⟩ = false ∧ W.frozen? ⟨b, 2, none⟩ = false ∧ W.frozen? ⟨b, 3, none⟩ = false) :=
  ⟨⟨box_cell h 0 rfl, box_cell h 1 rfl, box_cell h 2 rfl, box_cell h 3 rfl⟩, box_free h 0, box_free h 1, box_free h 2, box_free h 3⟩
def set4 (W : World) (b : Nat) (x0 x1 x2 x3 : Value) : World := (((W.setCell ⟨b, 0, none⟩ x0).setCell ⟨b, 1, none⟩ x1).setCell ⟨b, 2, none⟩ x2).setCell ⟨b, 3, none⟩ x3
theorem set4_box {W : World} {b : Nat} {t : TypeId} {v0 v1 v2 v3 x0 x1 x2 x3 : Value} (h : W.heap[b]? = some (.cells #[v0, v1, v2, v3] t (0, 0))) : (set4 W b x0 x1 x2 x3).heap[b]? = some (.cells #[x0, x1, x2, x3] t (0, 0)) := by
  simp [set4, World.setCell, Array.getElem?_modify, h]
theorem set4_below {B : Nat} {w W : World} {b : Nat} {x0 x1 x2 x3 : Value} (h : Below B w W) (hb : B ≤ b) : Below B w (set4 W b x0 x1 x2 x3) :=
  (((h.setCell hb _).setCell hb _).setCell hb _).setCell hb _
set_option maxHeartbeats 2000000 in
theorem sfrom (S : SB) (n : Int) (w : World) : Calls Try.prog 38 #[S.v, .int .i64 n] w fun e w' => e = .returned (SB.v { S with next := n }) ∧ Below w.heap.size w w' := by
  obtain ⟨xn, xt, xc, xx⟩ := S
  simp only [SB.v]
  go_enter Try.func38, Try.ntmps38
  go_wp2
  have X : ((w.alloc (.cells #[.string xn, .string xt, .int .i64 xc, .int .i64 n] 86)).alloc (.cells #[.string xn, .string xt, .int .i64 xc, .int .i64 n] 86)).heap[w.heap.size + 1]? = some (.cells #[.string xn, .string xt, .int .i64 xc, .int .i64 n] 86 (0, 0)) := by
    have := heap_alloc_new (w.alloc (.cells #[.string xn, .string xt, .int .i64 xc, .int .i64 n] 86)) (.cells #[.string xn, .string xt, .int .i64 xc, .int .i64 n] 86)
    simpa using this
  obtain ⟨⟨e0, e1, e2, e3⟩, _⟩ := box4 X
  exact bodyPost_ret (v := .agg #[.string xn, .string xt, .int .i64 xc, .int .i64 n]) (by simp [results, Try.results38, go_sem, e0, e1, e2, e3]) rfl ⟨rfl, ((Below.refl _ _).alloc (Nat.le_refl _) _).alloc (by simp) _⟩
set_option maxHeartbeats 4000000 in
theorem sright (S : SB) (hk : S.ok) (w : World) : Calls Try.prog 46 #[S.v] w fun e w' => e = .returned (.bool S.right) ∧ Below w.heap.size w w' := by
  have HW : Hid (∀ s : ByteArray, s.size ≤ 281474976710656 → ∀ w, Calls Try.prog 30 #[.string s] w fun e w' => e = .returned (.bool (wordB s)) ∧ w' = w) := fun s hs w => pword s (by omega) w
  obtain ⟨xn, xt, xc, xx⟩ := S
  obtain ⟨h1, h2⟩ := hk
  have HB := hide ((Below.refl w.heap.size w).alloc (Nat.le_refl _) (.cells #[.string xn, .string xt, .int .i64 xc, .int .i64 xx] 86))
  simp only [SB.v, SB.right] at *
  cases a1 : wordB xn with
  | false =>
    simp only [Bool.false_and]
    go_enter Try.func46, Try.ntmps46
    go_wp2_with (go_at_call 30; refine (HW.out _ (by first | exact h1 | exact h2) _).mono ?_; rintro e w' ⟨rfl, rfl⟩)
    go_ret
    exact ⟨rfl, HB.out⟩
  | true =>
  cases a2 : wordB xt with
  | false =>
    simp only [Bool.true_and, Bool.false_and]
    go_enter Try.func46, Try.ntmps46
    go_wp2_with (go_at_call 30; refine (HW.out _ (by first | exact h1 | exact h2) _).mono ?_; rintro e w' ⟨rfl, rfl⟩)
    go_ret
    exact ⟨rfl, HB.out⟩
  | true =>
  simp only [Bool.true_and]
  go_enter Try.func46, Try.ntmps46
  by_cases a3 : 0 ≤ xc
  · by_cases a4 : xc ≤ xx
    · go_wp2_with (go_at_call 30; refine (HW.out _ (by first | exact h1 | exact h2) _).mono ?_; rintro e w' ⟨rfl, rfl⟩)
      go_ret
      exact ⟨by simp [a3, a4], HB.out⟩
    · go_wp2_with (go_at_call 30; refine (HW.out _ (by first | exact h1 | exact h2) _).mono ?_; rintro e w' ⟨rfl, rfl⟩)
      go_ret
      exact ⟨by simp [a3, a4]; intros; omega, HB.out⟩
  · go_wp2_with (go_at_call 30; refine (HW.out _ (by first | exact h1 | exact h2) _).mono ?_; rintro e w' ⟨rfl, rfl⟩)
    go_ret
    exact ⟨by simp [a3]; intros; omega, HB.out⟩
/-- The subscription's block, and the result's, as own holds them. -/
structure OwnS (w : World) (S : SB) (w' : World) : Prop where
  below : Below w.heap.size w w'
  one : w'.heap[w.heap.size]? = some (.cells #[.string S.name, .string S.top, .int .i64 S.cur, .int .i64 S.next] 86 (0, 0))
  two : w'.heap[w.heap.size + 1]? = some (.cells #[.string ⟨#[]⟩, .string ⟨#[]⟩, .int .i64 0, .int .i64 0] 86 (0, 0))
theorem OwnS.to {w w1 w2 : World} {r : SB} (h : OwnS w r w1) (hb : Below w1.heap.size w1 w2) : OwnS w r w2 :=
  ⟨h.below.trans (hb.mono h.below.size), Below.at hb h.one, Below.at hb h.two⟩
theorem OwnS.drew {w w1 : World} {r : SB} (h : OwnS w r w1) : OwnS w r w1.drew := ⟨h.below.drew, h.one, h.two⟩
theorem OwnS.set {w w1 : World} {r : SB} (h : OwnS w r w1) (o : Nat) (v : Value) (hv : (#[.string r.name, .string r.top, .int .i64 r.cur, .int .i64 r.next] : Array Value).setIfInBounds o v = #[.string r.name, .string r.top, .int .i64 r.cur, .int .i64 r.next]) : OwnS w r (w1.setCell ⟨w.heap.size, o, none⟩ v) := by
  refine ⟨h.below.setCell (Nat.le_refl _) _, ?_, box_apart h.two (by omega) _ _⟩
  rw [box_set h.one, hv]
theorem OwnS.set0 {w w1 : World} {r : SB} (h : OwnS w r w1) : OwnS w r (w1.setCell ⟨w.heap.size, 0, none⟩ (.string r.name)) := h.set 0 _ (by rfl)
theorem OwnS.set1 {w w1 : World} {r : SB} (h : OwnS w r w1) : OwnS w r (w1.setCell ⟨w.heap.size, 1, none⟩ (.string r.top)) := h.set 1 _ (by rfl)
theorem OwnS.cells {w w1 : World} {r : SB} (h : OwnS w r w1) : w1.cell? ⟨w.heap.size, 0, none⟩ = some (.string r.name) ∧ w1.cell? ⟨w.heap.size, 1, none⟩ = some (.string r.top) :=
  ⟨box_cell h.one 0 rfl, box_cell h.one 1 rfl⟩
theorem OwnS.free {w w1 : World} {r : SB} (h : OwnS w r w1) (o : Nat) : w1.frozen? ⟨w.heap.size, o, none⟩ = false := box_free h.one o
set_option maxHeartbeats 4000000 in
theorem sown (r : SB) (hr : r.ok) (w : World) :
    Calls Try.prog 39 #[r.v] w fun e w' => e = .returned r.v ∧ Below w.heap.size w w' := by
  have HC1 := hide (fun W => clone_any r.name W hr.nm)
  have HC3 := hide (fun W => clone_any r.top W hr.tp)
  have K1 : Hid (OwnS w r ((w.alloc (.cells #[.string r.name, .string r.top, .int .i64 r.cur, .int .i64 r.next] 86)).alloc (.cells #[.string ⟨#[]⟩, .string ⟨#[]⟩, .int .i64 0, .int .i64 0] 86))) := by
    refine ⟨((Below.refl _ _).alloc (Nat.le_refl _) _).alloc (by simp) _, ?_, ?_⟩
    · exact box_alloc (heap_alloc_new w _) _
    · have := heap_alloc_new (w.alloc (.cells #[.string r.name, .string r.top, .int .i64 r.cur, .int .i64 r.next] 86)) (.cells #[.string ⟨#[]⟩, .string ⟨#[]⟩, .int .i64 0, .int .i64 0] 86)
      simpa using this
  obtain ⟨xn, xt, xc, xx⟩ := r
  simp only [SB.v] at *
  clear hr
  go_enter Try.func39, Try.ntmps39
  go_wp2_with fail
  generalize (w.alloc (.cells #[.string xn, .string xt, .int .i64 xc, .int .i64 xx] 86)).alloc (.cells #[.string ⟨#[]⟩, .string ⟨#[]⟩, .int .i64 0, .int .i64 0] 86) = w1 at *
  have HX : Hid (∀ {W : World}, OwnS w ⟨xn, xt, xc, xx⟩ W → W.cell? ⟨w.heap.size, 0, none⟩ = some (.string xn) ∧ W.cell? ⟨w.heap.size, 1, none⟩ = some (.string xt) ∧ W.frozen? ⟨w.heap.size, 0, none⟩ = false ∧ W.frozen? ⟨w.heap.size, 1, none⟩ = false) := fun h => ⟨h.cells.1, h.cells.2, h.free 0, h.free 1⟩
  obtain ⟨c1, c3, f1, f3⟩ := HX.out K1.out
  go_region_held (fun w' => OwnS w ⟨xn, xt, xc, xx⟩ w' ∧ w'.cell? ⟨w.heap.size, 0, none⟩ = some (.string xn) ∧ w'.cell? ⟨w.heap.size, 1, none⟩ = some (.string xt))
    (first | exact ⟨K1.out.drew, K1.out.drew.cells⟩ | exact ⟨K2.out, K2.out.cells⟩ | exact ⟨K2.out.set0, K2.out.set0.cells⟩ | exact ⟨K2.out.set1, K2.out.set1.cells⟩ | exact ⟨K2.out.set0.set1, K2.out.set0.set1.cells⟩)
    ((go_at_call 31; first | refine (HC1.out _).mono ?_ | refine (HC3.out _).mono ?_) <;> rintro e w2 ⟨rfl, hb⟩ <;> (have K2 := hide ((by first | exact K1.out.drew | exact K2.out | exact K2.out.set0 : OwnS w ⟨xn, xt, xc, xx⟩ _).to hb)) <;> obtain ⟨c1, c3, f1, f3⟩ := HX.out K2.out <;> clear hb)
  all_goals
    rename_i hH
    have K3 := hide hH.1
    clear hH c1 c3 f1 f3 K2
    generalize (w2.setCell _ _).setCell _ _ = W at *
    obtain ⟨⟨c0, c1, c2, c3⟩, _⟩ := box4 K3.out.one
    obtain ⟨⟨d0, d1, d2, d3⟩, f0, f1, f2, f3⟩ := box4 K3.out.two
    have x5 := set4_box (x0 := .string xn) (x1 := .string xt) (x2 := .int .i64 xc) (x3 := .int .i64 xx) K3.out.two
    have b5 := set4_below (b := w.heap.size + 1) (x0 := .string xn) (x1 := .string xt) (x2 := .int .i64 xc) (x3 := .int .i64 xx) K3.out.below (by omega)
    unfold set4 at x5 b5
    have X5 := hide x5
    have B5 := hide b5
    clear x5 b5
    go_wp2
    obtain ⟨⟨e0, e1, e2, e3⟩, _⟩ := box4 X5.out
    refine bodyPost_ret (v := .agg #[.string xn, .string xt, .int .i64 xc, .int .i64 xx]) (by simp [results, Try.results39, go_sem, e0, e1, e2, e3]) rfl ⟨rfl, B5.out⟩
end Go.Proofs.Ytominplelmbecaa.Y
