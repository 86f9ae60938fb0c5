/-
  What lies in memory while a reader goes on.
-/
import Derived.Test.YtgnehnlmbodijaaDoorZS3
import Derived.Test.YtgnehnlmbodijaaDoorZM0
namespace Go.Proofs.YtgnehnlmbodijaaDoor
open Go.RowKit

def recCells (out : List (Rec × Nat)) : List Value := out.flatMap fun p => p.1.cells
def posCells (out : List (Rec × Nat)) : List Value := out.map fun p => .int .i64 p.2
theorem recCells_length (out : List (Rec × Nat)) : (recCells out).length = out.length * 5 := by
  induction out with
  | nil => rfl
  | cons p l ih =>
    have : recCells (p :: l) = p.1.cells ++ recCells l := by simp [recCells]
    rw [this, List.length_append, ih, List.length_cons]
    simp [Rec.cells]
    omega
theorem recCells_snoc (out : List (Rec × Nat)) (p : Rec × Nat) : recCells (out ++ [p]) = recCells out ++ p.1.cells := by simp [recCells]
theorem posCells_snoc (out : List (Rec × Nat)) (p : Rec × Nat) : posCells (out ++ [p]) = posCells out ++ [.int .i64 p.2] := by simp [posCells]
/-- The reader at g, the record's box, the two lists that grow. -/
structure GX (w wr : World) (g : Nat) (s : ByteArray) (low most : Int) (n1 : Nat) (xs1 : List Value) (n2 : Nat) (xs2 : List Value) (least : Int) (pos : Nat) (er : Int) (x : Rec) (ro bo : Value) : Prop where
  box : wr.heap[g]? = some (.cells #[ro, bo, .int .i64 pos, .int .i64 er, .string s, .int .i64 least, .int .i64 low, .int .i64 most] 73)
  rcd : wr.heap[w.heap.size]? = some (.cells #[.int .i64 x.off, .string x.prod, .int .i64 x.seq, .string x.key, .string x.val] 23)
  rows : wr.ownsRow (w.heap.size + 1) 23 5 ro n1 xs1
  begs : wr.ownsRow (w.heap.size + 1) 3 1 bo n2 xs2
  apart : ∀ k, ro.ownBlock = some k → bo.ownBlock ≠ some k
  touch : Touch (fun j => j = g) w wr
abbrev GS (w wr : World) (g : Nat) (s : ByteArray) (low most : Int) (out : List (Rec × Nat)) (least : Int) (pos : Nat) (er : Int) (x : Rec) (ro bo : Value) : Prop := GX w wr g s low most out.length (recCells out) out.length (posCells out) least pos er x ro bo
variable {w wr w2 : World} {g : Nat} {s : ByteArray} {low most : Int} {n1 n2 : Nat} {xs1 xs2 : List Value} {least : Int} {pos : Nat} {er : Int} {x : Rec} {ro bo : Value}
theorem GX.lt (h : GX w wr g s low most n1 xs1 n2 xs2 least pos er x ro bo) : w.heap.size < wr.heap.size := (Array.getElem?_eq_some_iff.1 h.rcd).1
theorem GX.glt (h : GX w wr g s low most n1 xs1 n2 xs2 least pos er x ro bo) : g < wr.heap.size := (Array.getElem?_eq_some_iff.1 h.box).1
theorem GX.below (h : GX w wr g s low most n1 xs1 n2 xs2 least pos er x ro bo) (hb : Below wr.heap.size wr w2) : GX w w2 g s low most n1 xs1 n2 xs2 least pos er x ro bo :=
  ⟨(hb.block _ h.glt).trans h.box, (hb.block _ h.lt).trans h.rcd, K.own_below h.rows hb (Nat.le_refl _), K.own_below h.begs hb (Nat.le_refl _), h.apart, h.touch.below hb⟩
theorem GX.drew (h : GX w wr g s low most n1 xs1 n2 xs2 least pos er x ro bo) : GX w wr.drew g s low most n1 xs1 n2 xs2 least pos er x ro bo := h.below (Below.refl _ _).drew
theorem box8 {W : World} {b : Nat} {t : TypeId} {v0 v1 v2 v3 v4 v5 v6 v7 : Value} (h : W.heap[b]? = some (.cells #[v0, v1, v2, v3, v4, v5, v6, v7] t)) :
    (W.cell? ⟨b, 0, none⟩ = some v0 ∧ W.cell? ⟨b, 1, none⟩ = some v1 ∧ W.cell? ⟨b, 2, none⟩ = some v2 ∧ W.cell? ⟨b, 3, none⟩ = some v3 ∧ W.cell? ⟨b, 4, none⟩ = some v4 ∧ W.cell? ⟨b, 5, none⟩ = some v5 ∧ W.cell? ⟨b, 6, none⟩ = some v6 ∧ W.cell? ⟨b, 7, none⟩ = some v7) ∧ (∀ j, W.frozen? ⟨b, j, none⟩ = false) :=
  ⟨⟨by rw [Lib.cell_of_heap h]; rfl, by rw [Lib.cell_of_heap h]; rfl, by rw [Lib.cell_of_heap h]; rfl, by rw [Lib.cell_of_heap h]; rfl, by rw [Lib.cell_of_heap h]; rfl, by rw [Lib.cell_of_heap h]; rfl, by rw [Lib.cell_of_heap h]; rfl, by rw [Lib.cell_of_heap h]; rfl⟩, Lib.frozen_of_heap h⟩
theorem set5_other {W : World} {b k : Nat} {x0 x1 x2 x3 x4 : Value} (h : k ≠ b) : (set5 W b x0 x1 x2 x3 x4).heap[k]? = W.heap[k]? := by
  simp [set5, World.setCell, Array.getElem?_modify, h.symm]
theorem row_ge {B : Nat} {e : TypeId} {z : Nat} {v : Value} {n : Nat} {xs : List Value} (h : wr.ownsRow B e z v n xs) : ∀ k, v.ownBlock = some k → B ≤ k := fun k hk => (h.lt k hk).1
/-- A record was read into the box, and the fault. -/
theorem GX.head (h : GX w wr g s low most n1 xs1 n2 xs2 least pos er x ro bo) (hg : g < w.heap.size) (y : Rec) (e : Int) :
    GX w ((set5 wr w.heap.size (.int .i64 y.off) (.string y.prod) (.int .i64 y.seq) (.string y.key) (.string y.val)).setCell ⟨g, 3, none⟩ (.int .i64 e)) g s low most n1 xs1 n2 xs2 least pos e y ro bo := by
  have hne : g ≠ w.heap.size := by omega
  have t1 : Touch (fun j => j = g ∨ j = w.heap.size) wr ((set5 wr w.heap.size (.int .i64 y.off) (.string y.prod) (.int .i64 y.seq) (.string y.key) (.string y.val)).setCell ⟨g, 3, none⟩ (.int .i64 e)) :=
    ((((((Touch.refl _ wr).setCell _ _ fun _ => .inr rfl).setCell _ _ fun _ => .inr rfl).setCell _ _ fun _ => .inr rfl).setCell _ _ fun _ => .inr rfl).setCell _ _ fun _ => .inr rfl).setCell _ _ fun _ => .inl rfl
  refine ⟨?_, ?_, t1.row h.rows fun k hk => ?_, t1.row h.begs fun k hk => ?_, h.apart, h.touch.andThen t1 fun k hk e => ?_⟩
  · have hb := (set5_other (x0 := .int .i64 y.off) (x1 := .string y.prod) (x2 := .int .i64 y.seq) (x3 := .string y.key) (x4 := .string y.val) hne).trans h.box
    generalize set5 wr w.heap.size (.int .i64 y.off) (.string y.prod) (.int .i64 y.seq) (.string y.key) (.string y.val) = W at hb ⊢
    simp [World.setCell, Array.getElem?_modify, hb]
  · have hb := set5_box (x0 := .int .i64 y.off) (x1 := .string y.prod) (x2 := .int .i64 y.seq) (x3 := .string y.key) (x4 := .string y.val) h.rcd
    generalize set5 wr w.heap.size (.int .i64 y.off) (.string y.prod) (.int .i64 y.seq) (.string y.key) (.string y.val) = W at hb ⊢
    rw [← hb]
    simp [World.setCell, Array.getElem?_modify, hne]
  · rintro (e | e)
    · have := row_ge h.rows k hk; omega
    · have := row_ge h.rows k hk; omega
  · rintro (e | e)
    · have := row_ge h.begs k hk; omega
    · have := row_ge h.begs k hk; omega
  · rcases e with e | e
    · exact e
    · omega
theorem setc_box {W : World} {b : Nat} {cs : Array Value} {t : TypeId} (j : Nat) (v : Value) (h : W.heap[b]? = some (.cells cs t)) : (W.setCell ⟨b, j, none⟩ v).heap[b]? = some (.cells (cs.setIfInBounds j v) t) := by
  simp [World.setCell, Array.getElem?_modify, h]
theorem setc_other {W : World} {b k : Nat} (j : Nat) (v : Value) (h : b ≠ k) : (W.setCell ⟨b, j, none⟩ v).heap[k]? = W.heap[k]? := by
  simp [World.setCell, Array.getElem?_modify, h]
/-- A place of the reader that is no list is written. -/
theorem GX.put (h : GX w wr g s low most n1 xs1 n2 xs2 least pos er x ro bo) (hg : g < w.heap.size) (j : Nat) (v : Value) (least' : Int) (pos' : Nat) (hrow : (#[ro, bo, .int .i64 pos, .int .i64 er, .string s, .int .i64 least, .int .i64 low, .int .i64 most] : Array Value).setIfInBounds j v = #[ro, bo, .int .i64 pos', .int .i64 er, .string s, .int .i64 least', .int .i64 low, .int .i64 most]) :
    GX w (wr.setCell ⟨g, j, none⟩ v) g s low most n1 xs1 n2 xs2 least' pos' er x ro bo := by
  have t1 : Touch (fun k => k = g) wr (wr.setCell ⟨g, j, none⟩ v) := (Touch.refl _ wr).setCell _ _ fun _ => rfl
  refine ⟨by rw [setc_box j v h.box, hrow], by rw [setc_other j v (by omega)]; exact h.rcd, t1.row h.rows fun k hk e => ?_, t1.row h.begs fun k hk e => ?_, h.apart, h.touch.andThen t1 fun k hk e => e⟩
  · have := row_ge h.rows k hk; omega
  · have := row_ge h.begs k hk; omega
theorem GX.move (h : GX w wr g s low most n1 xs1 n2 xs2 least pos er x ro bo) (hg : g < w.heap.size) (least' : Int) (pos' : Nat) : GX w ((wr.setCell ⟨g, 5, none⟩ (.int .i64 least')).setCell ⟨g, 2, none⟩ (.int .i64 pos')) g s low most n1 xs1 n2 xs2 least' pos' er x ro bo :=
  (h.put hg 5 (.int .i64 least') least' pos rfl).put hg 2 (.int .i64 pos') least' pos' rfl
/-- Behind an append to the first list, ahead of its place's being written. -/
theorem GX.mid1 (h : GX w wr g s low most n1 xs1 n2 xs2 least pos er x ro bo) (hg : g < w.heap.size) {o : Obj} (hgr : (wr.alloc o).grownBy w2 ro.ownBlock) :
    w2.heap[g]? = some (.cells #[ro, bo, .int .i64 pos, .int .i64 er, .string s, .int .i64 least, .int .i64 low, .int .i64 most] 73) ∧ w2.heap[w.heap.size]? = some (.cells #[.int .i64 x.off, .string x.prod, .int .i64 x.seq, .string x.key, .string x.val] 23) ∧ w2.ownsRow (w.heap.size + 1) 3 1 bo n2 xs2 ∧ Touch (fun j => j = g) w w2 := by
  have t1 : Touch (fun k => ro.ownBlock = some k) wr w2 := ((Touch.refl _ wr).alloc o).grown hgr fun k e _ => e
  have hge := row_ge h.rows
  exact ⟨t1.at h.box fun e => by have := hge _ e; omega, t1.at h.rcd fun e => by have := hge _ e; omega, t1.row h.begs fun k hk e => h.apart k e hk, h.touch.andThen t1 fun k hk e => by have := hge _ e; omega⟩
theorem GX.rows1 (h : GX w wr g s low most n1 xs1 n2 xs2 least pos er x ro bo) (hg : g < w.heap.size) {o : Obj} (hgr : (wr.alloc o).grownBy w2 ro.ownBlock) {g3 n3 c3 : Nat} {xs3 : List Value} (hown : w2.ownsRow (w.heap.size + 1) 23 5 (.slice (some ⟨g3, 0, none⟩) n3 c3) n3 xs3) (hat : ro.ownBlock = some g3 ∨ g3 = wr.heap.size + 1) :
    GX w (w2.setCell ⟨g, 0, none⟩ (.slice (some ⟨g3, 0, none⟩) n3 c3)) g s low most n3 xs3 n2 xs2 least pos er x (.slice (some ⟨g3, 0, none⟩) n3 c3) bo := by
  obtain ⟨m1, m2, m3, m4⟩ := h.mid1 hg hgr
  have t1 : Touch (fun k => k = g) w2 (w2.setCell ⟨g, 0, none⟩ (.slice (some ⟨g3, 0, none⟩) n3 c3)) := (Touch.refl _ w2).setCell _ _ fun _ => rfl
  refine ⟨by rw [setc_box 0 _ m1]; rfl, by rw [setc_other 0 _ (by omega)]; exact m2, t1.row hown fun k hk e => ?_, t1.row m3 fun k hk e => ?_, fun k hk e => ?_, m4.andThen t1 fun k hk e => e⟩
  · have := row_ge hown k hk; omega
  · have := row_ge m3 k hk; omega
  · have e3 : g3 = k := by simpa [Value.ownBlock] using hk
    subst e3
    rcases hat with hat | hat
    · exact h.apart _ hat e
    · have := (h.begs.lt _ e).2; omega
theorem GX.mid2 (h : GX w wr g s low most n1 xs1 n2 xs2 least pos er x ro bo) (hg : g < w.heap.size) {o : Obj} (hgr : (wr.alloc o).grownBy w2 bo.ownBlock) :
    w2.heap[g]? = some (.cells #[ro, bo, .int .i64 pos, .int .i64 er, .string s, .int .i64 least, .int .i64 low, .int .i64 most] 73) ∧ w2.heap[w.heap.size]? = some (.cells #[.int .i64 x.off, .string x.prod, .int .i64 x.seq, .string x.key, .string x.val] 23) ∧ w2.ownsRow (w.heap.size + 1) 23 5 ro n1 xs1 ∧ Touch (fun j => j = g) w w2 := by
  have t1 : Touch (fun k => bo.ownBlock = some k) wr w2 := ((Touch.refl _ wr).alloc o).grown hgr fun k e _ => e
  have hge := row_ge h.begs
  exact ⟨t1.at h.box fun e => by have := hge _ e; omega, t1.at h.rcd fun e => by have := hge _ e; omega, t1.row h.rows fun k hk e => h.apart k hk e, h.touch.andThen t1 fun k hk e => by have := hge _ e; omega⟩
theorem GX.rows2 (h : GX w wr g s low most n1 xs1 n2 xs2 least pos er x ro bo) (hg : g < w.heap.size) {o : Obj} (hgr : (wr.alloc o).grownBy w2 bo.ownBlock) {g3 n3 c3 : Nat} {xs3 : List Value} (hown : w2.ownsRow (w.heap.size + 1) 3 1 (.slice (some ⟨g3, 0, none⟩) n3 c3) n3 xs3) (hat : bo.ownBlock = some g3 ∨ g3 = wr.heap.size + 1) :
    GX w (w2.setCell ⟨g, 1, none⟩ (.slice (some ⟨g3, 0, none⟩) n3 c3)) g s low most n1 xs1 n3 xs3 least pos er x ro (.slice (some ⟨g3, 0, none⟩) n3 c3) := by
  obtain ⟨m1, m2, m3, m4⟩ := h.mid2 hg hgr
  have t1 : Touch (fun k => k = g) w2 (w2.setCell ⟨g, 1, none⟩ (.slice (some ⟨g3, 0, none⟩) n3 c3)) := (Touch.refl _ w2).setCell _ _ fun _ => rfl
  refine ⟨by rw [setc_box 1 _ m1]; rfl, by rw [setc_other 1 _ (by omega)]; exact m2, t1.row m3 fun k hk e => ?_, t1.row hown fun k hk e => ?_, fun k hk e => ?_, m4.andThen t1 fun k hk e => e⟩
  · have := row_ge m3 k hk; omega
  · have := row_ge hown k hk; omega
  · have e3 : g3 = k := by simpa [Value.ownBlock] using e
    subst e3
    rcases hat with hat | hat
    · exact h.apart _ hk hat
    · have := (h.rows.lt _ hk).2; omega
theorem in64 (n : Int) (h : -9223372036854775808 ≤ n) (h2 : n ≤ 9223372036854775807) : wrap64 n = n := by unfold wrap64; omega
theorem Tab.touch {own : Nat → Prop} {W W' : World} (h : Tab W) (ht : Touch own W W') (hn : ¬ own 1) : Tab W' := fun i hi => ht.cell ⟨1, i, none⟩ (h i hi) hn
theorem Tab.ne {W : World} (h : Tab W) {b : Nat} {ao : Option Addr} {n c : Nat} (hc : W.cell? ⟨b, 0, none⟩ = some (.slice ao n c)) : b ≠ 1 := by
  rintro rfl
  rw [h 0 (by omega)] at hc
  cases hc
theorem Tryd.infoRec : Tryd.prog.info? 23 = some Tryd.t23 := by kernel_rfl
theorem Tryd.zeroRec : Tryd.t23.zero = some Rec.zero.v := by kernel_rfl
theorem Tryd.sizeRec : Tryd.t23.size = 5 := by kernel_rfl
theorem Tryd.bytesRec : Tryd.t23.bytes = 64 := by kernel_rfl
theorem Tryd.infoInt : Tryd.prog.info? 3 = some Tryd.t3 := by kernel_rfl
theorem Tryd.zeroInt : Tryd.t3.zero = some (.int .i64 0) := by kernel_rfl
theorem Tryd.sizeInt : Tryd.t3.size = 1 := by kernel_rfl
theorem Tryd.bytesInt : Tryd.t3.bytes = 8 := by kernel_rfl
theorem Rec.ones (y : Rec) : ∀ u ∈ y.cells, u.oneCell' = true := by
  intro u hu
  simp [Rec.cells] at hu
  rcases hu with rfl | rfl | rfl | rfl | rfl <;> rfl
theorem nil_own (w : World) (b : Nat) (e : TypeId) (z : Nat) : w.ownsRow b e z (.slice none 0 0) 0 [] := ⟨by simp, Or.inl ⟨rfl, rfl⟩⟩
theorem own_slice {w : World} {B : Nat} {e : TypeId} {size : Nat} {v : Value} {n : Nat} {xs : List Value} (h : w.ownsRow B e size v n xs) : ∃ ao cap, v = .slice ao n cap := by
  rcases h.2 with ⟨h2, h3⟩ | ⟨g, cap, cur, hv, r⟩
  · exact ⟨none, 0, by rw [h2, h3]⟩
  · exact ⟨_, _, hv⟩
end Go.Proofs.YtgnehnlmbodijaaDoor
