/-
  The laws' pair in memory.
-/
import Derived.Test.YthgfijmpofbchaaZE2
import Derived.Test.YthgfijmpofbchaaZD6
import Derived.Test.YthgfijmpofbchaaZGL
namespace Go.Proofs.Ythgfijmpofbchaa
open Go.RowKit

def ix : Bool → Nat
  | false => 0
  | true => 1
theorem ix_lt (x : Bool) : ix x < 2 := by cases x <;> decide
theorem ix_not (x : Bool) : ix (!x) = 1 - ix x := by cases x <;> rfl
/-- Where its parts are. -/
structure PG where
  pb : Nat
  lb : Nat
  wb : Nat
  sb : Nat
  tb : Nat
  b : Bool → Nat
  v : Bool → Value
  wv : Bool → Value
  sv : Bool → Value
  tv : Bool → Value
abbrev two (f : Bool → Value) : Array Value := #[f false, f true]
theorem two_at (f : Bool → Value) (x : Bool) : (two f)[ix x]? = some (f x) := by cases x <;> rfl
theorem two_set (f : Bool → Value) (x : Bool) (v : Value) : (two f).setIfInBounds (ix x) v = two (set f x v) := by cases x <;> rfl
abbrev sl2 (b : Nat) : Value := .slice (some ⟨b, 0, none⟩) 2 2
/-- The pair: its box, its rows, its two ends, the frames on the way, what was sent and told; r: what a block is for. -/
structure PA0 (B : Nat) (w : World) (G : PG) (r : Nat → Nat) (p : PR) : Prop where
  box : w.heap[G.pb]? = some (.cells #[sl2 G.lb, sl2 G.wb, sl2 G.sb, sl2 G.tb] 57 (0, 0))
  lbox : w.heap[G.lb]? = some (.cells (two fun x => .pointer (some ⟨G.b x, 0, none⟩)) 24 (0, 0))
  wbox : w.heap[G.wb]? = some (.cells (two G.wv) 38 (0, 0))
  sbox : w.heap[G.sb]? = some (.cells (two G.sv) 40 (0, 0))
  tbox : w.heap[G.tb]? = some (.cells (two G.tv) 40 (0, 0))
  link : ∀ x, PL w (G.b x) (G.v x) (p.l x)
  way : ∀ x, w.ownsRow B 31 5 (G.wv x) (p.way x).length (frCells (p.way x))
  sent : ∀ x, w.ownsRow B 9 1 (G.sv x) (p.sent x).length ((p.sent x).map .string)
  told : ∀ x, w.ownsRow B 9 1 (G.tv x) (p.told x).length ((p.told x).map .string)
  rp : r G.pb = 1
  rl : r G.lb = 2
  rw : r G.wb = 3
  rs : r G.sb = 4
  rt : r G.tb = 5
  rb : ∀ x, r (G.b x) = 6 + ix x
  rv : ∀ x j, (G.v x).ownBlock = some j → r j = 8 + ix x
  rwv : ∀ x j, (G.wv x).ownBlock = some j → r j = 10 + ix x
  rsv : ∀ x j, (G.sv x).ownBlock = some j → r j = 12 + ix x
  rtv : ∀ x j, (G.tv x).ownBlock = some j → r j = 14 + ix x
  low : ∀ j, 1 ≤ r j → B ≤ j
  size : B ≤ w.heap.size
section
variable {B : Nat} {w w' : World} {G : PG} {r : Nat → Nat} {p : PR}
theorem PA0.keep {own : Nat → Prop} (h : PA0 B w G r p) (ht : Touch own w w') (hn : ∀ j, own j → j < w.heap.size → r j = 0) : PA0 B w' G r p := by
  have key : ∀ j, 1 ≤ r j → j < w.heap.size → ¬ own j := fun j h1 h2 h3 => by have := hn j h3 h2; omega
  refine ⟨ht.at h.box (key _ (by rw [h.rp]; omega) (heap_lt h.box)), ht.at h.lbox (key _ (by rw [h.rl]; omega) (heap_lt h.lbox)), ht.at h.wbox (key _ (by rw [h.rw]; omega) (heap_lt h.wbox)), ht.at h.sbox (key _ (by rw [h.rs]; omega) (heap_lt h.sbox)), ht.at h.tbox (key _ (by rw [h.rt]; omega) (heap_lt h.tbox)), fun x => (h.link x).keep ht fun j hj => ?_, fun x => ht.row (h.way x) fun j hj => key _ (by rw [h.rwv x j hj]; omega) (row_lt (h.way x) hj), fun x => ht.row (h.sent x) fun j hj => key _ (by rw [h.rsv x j hj]; omega) (row_lt (h.sent x) hj), fun x => ht.row (h.told x) fun j hj => key _ (by rw [h.rtv x j hj]; omega) (row_lt (h.told x) hj), h.rp, h.rl, h.rw, h.rs, h.rt, h.rb, h.rv, h.rwv, h.rsv, h.rtv, h.low, Nat.le_trans h.size ht.size⟩
  refine key j ?_ ((h.link x).lt hj)
  rcases hj with rfl | hj
  · rw [h.rb]; omega
  · rw [h.rv x j hj]; omega
theorem PA0.below (h : PA0 B w G r p) (hb : Below w.heap.size w w') : PA0 B w' G r p := h.keep (own := fun _ => False) (Touch.of_below hb) fun _ e => e.elim
theorem PA0.drew (h : PA0 B w G r p) : PA0 B w.drew G r p := h.below (Below.refl _ w).drew
theorem PA0.alloc (h : PA0 B w G r p) (o : Obj) : PA0 B (w.alloc o) G r p := h.below ((Below.refl _ w).alloc (Nat.le_refl _) o)
/-- Roles of new blocks. -/
def upd (r : Nat → Nat) (n : Nat) (o : Option Nat) (k : Nat) : Nat → Nat := fun j => if n ≤ j then (if o = some j then k else 0) else r j
theorem upd_old {n : Nat} {o : Option Nat} {k j : Nat} (h : j < n) : upd r n o k j = r j := if_neg (by omega)
theorem upd_new {n : Nat} {o : Option Nat} {k j : Nat} (h : n ≤ j) (ho : o = some j) : upd r n o k j = k := by unfold upd; rw [if_pos h, if_pos ho]
theorem upd_low {n : Nat} {o : Option Nat} {k : Nat} (hB : B ≤ n) (h : ∀ j, 1 ≤ r j → B ≤ j) (j : Nat) (hj : 1 ≤ upd r n o k j) : B ≤ j := by
  unfold upd at hj
  split at hj
  · omega
  · exact h j hj
theorem set_ne {α : Type} (f : Bool → α) {x y : Bool} (v : α) (h : y ≠ x) : set f x v y = f y := if_neg h
/-- An end was called. -/
theorem PA0.call (h : PA0 B w G r p) (x : Bool) {v' : Value} {l' : LK} (hp : PL w' (G.b x) v' l') (hs : PStep w w' (G.b x) (G.v x) v') : PA0 B w' { G with v := set G.v x v' } (upd r w.heap.size v'.ownBlock (8 + ix x)) { p with l := set p.l x l' } := by
  have own : ∀ j, pown (G.b x) (G.v x) j → r j = 6 + ix x ∨ r j = 8 + ix x := fun j hj => by
    rcases hj with rfl | hj
    · exact .inl (h.rb x)
    · exact .inr (h.rv x j hj)
  have hx := ix_lt x
  have key : ∀ j, r j ≠ 6 + ix x → r j ≠ 8 + ix x → ¬ pown (G.b x) (G.v x) j := fun j h1 h2 h3 => (own j h3).elim h1 h2
  refine ⟨hs.touch.at h.box (key _ (by rw [h.rp]; omega) (by rw [h.rp]; omega)), hs.touch.at h.lbox (key _ (by rw [h.rl]; omega) (by rw [h.rl]; omega)), hs.touch.at h.wbox (key _ (by rw [h.rw]; omega) (by rw [h.rw]; omega)), hs.touch.at h.sbox (key _ (by rw [h.rs]; omega) (by rw [h.rs]; omega)), hs.touch.at h.tbox (key _ (by rw [h.rt]; omega) (by rw [h.rt]; omega)), fun y => ?_, fun y => hs.touch.row (h.way y) fun j hj => key _ (by rw [h.rwv y j hj]; omega) (by rw [h.rwv y j hj]; omega), fun y => hs.touch.row (h.sent y) fun j hj => key _ (by rw [h.rsv y j hj]; omega) (by rw [h.rsv y j hj]; omega), fun y => hs.touch.row (h.told y) fun j hj => key _ (by rw [h.rtv y j hj]; omega) (by rw [h.rtv y j hj]; omega), by rw [upd_old (heap_lt h.box)]; exact h.rp, by rw [upd_old (heap_lt h.lbox)]; exact h.rl, by rw [upd_old (heap_lt h.wbox)]; exact h.rw, by rw [upd_old (heap_lt h.sbox)]; exact h.rs, by rw [upd_old (heap_lt h.tbox)]; exact h.rt, fun y => by rw [upd_old (heap_lt (h.link y).box)]; exact h.rb y, fun y j hj => ?_, fun y j hj => by rw [upd_old (row_lt (h.way y) hj)]; exact h.rwv y j hj, fun y j hj => by rw [upd_old (row_lt (h.sent y) hj)]; exact h.rsv y j hj, fun y j hj => by rw [upd_old (row_lt (h.told y) hj)]; exact h.rtv y j hj, upd_low h.size h.low, Nat.le_trans h.size hs.touch.size⟩
  · by_cases e : y = x
    · subst e
      show PL w' (G.b y) (set G.v y v' y) (set p.l y l' y)
      rw [set_same, set_same]
      exact hp
    · show PL w' (G.b y) (set G.v x v' y) (set p.l x l' y)
      rw [set_ne _ _ e, set_ne _ _ e]
      have hy := ix_lt y
      have hxy : ix y ≠ ix x := fun q => e (by cases x <;> cases y <;> first | rfl | cases q)
      refine (h.link y).keep hs.touch fun j hj => ?_
      rcases hj with rfl | hj
      · exact key _ (by rw [h.rb]; omega) (by rw [h.rb]; omega)
      · exact key _ (by rw [h.rv y j hj]; omega) (by rw [h.rv y j hj]; omega)
  · by_cases e : y = x
    · subst e
      have hj2 : v'.ownBlock = some j := by
        have : set G.v y v' y = v' := set_same _ _ _
        rw [← this]; exact hj
      rcases hs.grew j (.inr hj2) with e2 | e2
      · have hlt := (h.link y).lt e2
        rw [upd_old hlt]
        rcases e2 with e2 | e2
        · exact absurd hj2 (by rw [e2]; exact hp.ne)
        · exact h.rv y j e2
      · exact upd_new e2 hj2
    · have hj2 : (G.v y).ownBlock = some j := by
        have : set G.v x v' y = G.v y := set_ne _ _ e
        rw [← this]; exact hj
      rw [upd_old ((h.link y).lt (.inr hj2))]
      exact h.rv y j hj2
/-- Frames on the way to x are others. -/
theorem PA0.ways (h : PA0 B w G r p) (x : Bool) {v' : Value} {L : List FR} (ht : Touch (fun j => r j = 3 ∨ r j = 10 + ix x) w w') (hb : w'.heap[G.wb]? = some (.cells (two (set G.wv x v')) 38 (0, 0))) (hr : w'.ownsRow B 31 5 v' L.length (frCells L)) (hg : ∀ j, v'.ownBlock = some j → (G.wv x).ownBlock = some j ∨ w.heap.size ≤ j) : PA0 B w' { G with wv := set G.wv x v' } (upd r w.heap.size v'.ownBlock (10 + ix x)) { p with way := set p.way x L } := by
  have hx := ix_lt x
  refine ⟨ht.at h.box (by rw [h.rp]; omega), ht.at h.lbox (by rw [h.rl]; omega), hb, ht.at h.sbox (by rw [h.rs]; omega), ht.at h.tbox (by rw [h.rt]; omega), fun y => (h.link y).keep ht fun j hj => ?_, fun y => ?_, fun y => ht.row (h.sent y) fun j hj => by rw [h.rsv y j hj]; omega, fun y => ht.row (h.told y) fun j hj => by rw [h.rtv y j hj]; omega, by rw [upd_old (heap_lt h.box)]; exact h.rp, by rw [upd_old (heap_lt h.lbox)]; exact h.rl, by rw [upd_old (heap_lt h.wbox)]; exact h.rw, by rw [upd_old (heap_lt h.sbox)]; exact h.rs, by rw [upd_old (heap_lt h.tbox)]; exact h.rt, fun y => by rw [upd_old (heap_lt (h.link y).box)]; exact h.rb y, fun y j hj => by rw [upd_old ((h.link y).lt (.inr hj))]; exact h.rv y j hj, fun y j hj => ?_, fun y j hj => by rw [upd_old (row_lt (h.sent y) hj)]; exact h.rsv y j hj, fun y j hj => by rw [upd_old (row_lt (h.told y) hj)]; exact h.rtv y j hj, upd_low h.size h.low, Nat.le_trans h.size ht.size⟩
  · have hy := ix_lt y
    rcases hj with rfl | hj
    · rw [h.rb]; omega
    · rw [h.rv y j hj]; omega
  · by_cases e : y = x
    · subst e
      show w'.ownsRow B _ 5 (set G.wv y v' y) (set p.way y L y).length (frCells (set p.way y L y))
      rw [set_same, set_same]
      exact hr
    · show w'.ownsRow B _ 5 (set G.wv x v' y) (set p.way x L y).length (frCells (set p.way x L y))
      rw [set_ne _ _ e, set_ne _ _ e]
      have hxy : ix y ≠ ix x := fun q => e (by cases x <;> cases y <;> first | rfl | cases q)
      exact ht.row (h.way y) fun j hj => by rw [h.rwv y j hj]; omega
  · by_cases e : y = x
    · subst e
      have hj2 : v'.ownBlock = some j := by
        have : set G.wv y v' y = v' := set_same _ _ _
        rw [← this]; exact hj
      rcases hg j hj2 with e2 | e2
      · rw [upd_old (row_lt (h.way y) e2)]; exact h.rwv y j e2
      · exact upd_new e2 hj2
    · have hj2 : (G.wv y).ownBlock = some j := by
        have : set G.wv x v' y = G.wv y := set_ne _ _ e
        rw [← this]; exact hj
      rw [upd_old (row_lt (h.way y) hj2)]
      exact h.rwv y j hj2
/-- What x sent is more. -/
theorem PA0.sents (h : PA0 B w G r p) (x : Bool) {v' : Value} {L : List ByteArray} (ht : Touch (fun j => r j = 4 ∨ r j = 12 + ix x) w w') (hb : w'.heap[G.sb]? = some (.cells (two (set G.sv x v')) 40 (0, 0))) (hr : w'.ownsRow B 9 1 v' L.length (L.map .string)) (hg : ∀ j, v'.ownBlock = some j → (G.sv x).ownBlock = some j ∨ w.heap.size ≤ j) : PA0 B w' { G with sv := set G.sv x v' } (upd r w.heap.size v'.ownBlock (12 + ix x)) { p with sent := set p.sent x L } := by
  have hx := ix_lt x
  refine ⟨ht.at h.box (by rw [h.rp]; omega), ht.at h.lbox (by rw [h.rl]; omega), ht.at h.wbox (by rw [h.rw]; omega), hb, ht.at h.tbox (by rw [h.rt]; omega), fun y => (h.link y).keep ht fun j hj => ?_, fun y => ht.row (h.way y) fun j hj => by have hy := ix_lt y; rw [h.rwv y j hj]; omega, fun y => ?_, fun y => ht.row (h.told y) fun j hj => by have hy := ix_lt y; rw [h.rtv y j hj]; omega, by rw [upd_old (heap_lt h.box)]; exact h.rp, by rw [upd_old (heap_lt h.lbox)]; exact h.rl, by rw [upd_old (heap_lt h.wbox)]; exact h.rw, by rw [upd_old (heap_lt h.sbox)]; exact h.rs, by rw [upd_old (heap_lt h.tbox)]; exact h.rt, fun y => by rw [upd_old (heap_lt (h.link y).box)]; exact h.rb y, fun y j hj => by rw [upd_old ((h.link y).lt (.inr hj))]; exact h.rv y j hj, fun y j hj => by rw [upd_old (row_lt (h.way y) hj)]; exact h.rwv y j hj, fun y j hj => ?_, fun y j hj => by rw [upd_old (row_lt (h.told y) hj)]; exact h.rtv y j hj, upd_low h.size h.low, Nat.le_trans h.size ht.size⟩
  · have hy := ix_lt y
    rcases hj with rfl | hj
    · rw [h.rb]; omega
    · rw [h.rv y j hj]; omega
  · by_cases e : y = x
    · subst e
      show w'.ownsRow B _ 1 (set G.sv y v' y) (set p.sent y L y).length ((set p.sent y L y).map .string)
      rw [set_same, set_same]
      exact hr
    · show w'.ownsRow B _ 1 (set G.sv x v' y) (set p.sent x L y).length ((set p.sent x L y).map .string)
      rw [set_ne _ _ e, set_ne _ _ e]
      have hxy : ix y ≠ ix x := fun q => e (by cases x <;> cases y <;> first | rfl | cases q)
      exact ht.row (h.sent y) fun j hj => by rw [h.rsv y j hj]; omega
  · by_cases e : y = x
    · subst e
      have hj2 : v'.ownBlock = some j := by
        have : set G.sv y v' y = v' := set_same _ _ _
        rw [← this]; exact hj
      rcases hg j hj2 with e2 | e2
      · rw [upd_old (row_lt (h.sent y) e2)]; exact h.rsv y j e2
      · exact upd_new e2 hj2
    · have hj2 : (G.sv y).ownBlock = some j := by
        have : set G.sv x v' y = G.sv y := set_ne _ _ e
        rw [← this]; exact hj
      rw [upd_old (row_lt (h.sent y) hj2)]
      exact h.rsv y j hj2
/-- What x was told is more. -/
theorem PA0.tolds (h : PA0 B w G r p) (x : Bool) {v' : Value} {L : List ByteArray} (ht : Touch (fun j => r j = 5 ∨ r j = 14 + ix x) w w') (hb : w'.heap[G.tb]? = some (.cells (two (set G.tv x v')) 40 (0, 0))) (hr : w'.ownsRow B 9 1 v' L.length (L.map .string)) (hg : ∀ j, v'.ownBlock = some j → (G.tv x).ownBlock = some j ∨ w.heap.size ≤ j) : PA0 B w' { G with tv := set G.tv x v' } (upd r w.heap.size v'.ownBlock (14 + ix x)) { p with told := set p.told x L } := by
  have hx := ix_lt x
  refine ⟨ht.at h.box (by rw [h.rp]; omega), ht.at h.lbox (by rw [h.rl]; omega), ht.at h.wbox (by rw [h.rw]; omega), ht.at h.sbox (by rw [h.rs]; omega), hb, fun y => (h.link y).keep ht fun j hj => ?_, fun y => ht.row (h.way y) fun j hj => by have hy := ix_lt y; rw [h.rwv y j hj]; omega, fun y => ht.row (h.sent y) fun j hj => by have hy := ix_lt y; rw [h.rsv y j hj]; omega, fun y => ?_, by rw [upd_old (heap_lt h.box)]; exact h.rp, by rw [upd_old (heap_lt h.lbox)]; exact h.rl, by rw [upd_old (heap_lt h.wbox)]; exact h.rw, by rw [upd_old (heap_lt h.sbox)]; exact h.rs, by rw [upd_old (heap_lt h.tbox)]; exact h.rt, fun y => by rw [upd_old (heap_lt (h.link y).box)]; exact h.rb y, fun y j hj => by rw [upd_old ((h.link y).lt (.inr hj))]; exact h.rv y j hj, fun y j hj => by rw [upd_old (row_lt (h.way y) hj)]; exact h.rwv y j hj, fun y j hj => by rw [upd_old (row_lt (h.sent y) hj)]; exact h.rsv y j hj, fun y j hj => ?_, upd_low h.size h.low, Nat.le_trans h.size ht.size⟩
  · have hy := ix_lt y
    rcases hj with rfl | hj
    · rw [h.rb]; omega
    · rw [h.rv y j hj]; omega
  · by_cases e : y = x
    · subst e
      show w'.ownsRow B _ 1 (set G.tv y v' y) (set p.told y L y).length ((set p.told y L y).map .string)
      rw [set_same, set_same]
      exact hr
    · show w'.ownsRow B _ 1 (set G.tv x v' y) (set p.told x L y).length ((set p.told x L y).map .string)
      rw [set_ne _ _ e, set_ne _ _ e]
      have hxy : ix y ≠ ix x := fun q => e (by cases x <;> cases y <;> first | rfl | cases q)
      exact ht.row (h.told y) fun j hj => by rw [h.rtv y j hj]; omega
  · by_cases e : y = x
    · subst e
      have hj2 : v'.ownBlock = some j := by
        have : set G.tv y v' y = v' := set_same _ _ _
        rw [← this]; exact hj
      rcases hg j hj2 with e2 | e2
      · rw [upd_old (row_lt (h.told y) e2)]; exact h.rtv y j e2
      · exact upd_new e2 hj2
    · have hj2 : (G.tv y).ownBlock = some j := by
        have : set G.tv x v' y = G.tv y := set_ne _ _ e
        rw [← this]; exact hj
      rw [upd_old (row_lt (h.told y) hj2)]
      exact h.rtv y j hj2
/-- What of it is touched lies from B on. -/
theorem PA0.toBelow {own : Nat → Prop} (h : PA0 B w G r p) (ht : Touch own w w') (hn : ∀ j, own j → j < w.heap.size → 1 ≤ r j) : Below B w w' := by
  refine ht.toBelow h.size fun k hk e => ?_
  have h1 := h.size
  have := h.low k (hn k e (by omega))
  omega
end
/-- From where on the pair's blocks lie, and what else stays as it is. -/
structure BE where
  n : Nat
  e : Nat → Option Obj
instance : Coe BE Nat := ⟨BE.n⟩
structure PA (B : BE) (w : World) (G : PG) (r : Nat → Nat) (p : PR) : Prop extends PA0 B.n w G r p where
  ex : ∀ j o, B.e j = some o → w.heap[j]? = some o ∧ r j = 0
section
variable {B : BE} {w w' : World} {G : PG} {r : Nat → Nat} {p : PR}
theorem PA.of {G' : PG} {r' : Nat → Nat} {p' : PR} {own : Nat → Prop} (h : PA B w G r p) (h0 : PA0 B.n w' G' r' p') (ht : Touch own w w') (hn : ∀ j, own j → j < w.heap.size → 1 ≤ r j) (hr : ∀ j, j < w.heap.size → r' j = r j) : PA B w' G' r' p' :=
  ⟨h0, fun j o hj => by
    obtain ⟨h1, h2⟩ := h.ex j o hj
    have hl := heap_lt h1
    exact ⟨ht.at h1 (fun e => by have := hn j e hl; omega), by rw [hr j hl]; exact h2⟩⟩
theorem PA.keep {own : Nat → Prop} (h : PA B w G r p) (ht : Touch own w w') (hn : ∀ j, own j → j < w.heap.size → r j = 0) (he : ∀ j, own j → j < w.heap.size → B.e j = none) : PA B w' G r p :=
  ⟨h.toPA0.keep ht hn, fun j o hj => by
    obtain ⟨h1, h2⟩ := h.ex j o hj
    exact ⟨ht.at h1 (fun e => by rw [he j e (heap_lt h1)] at hj; cases hj), h2⟩⟩
theorem PA.below (h : PA B w G r p) (hb : Below w.heap.size w w') : PA B w' G r p := h.keep (own := fun _ => False) (Touch.of_below hb) (fun _ e => e.elim) fun _ e => e.elim
theorem PA.drew (h : PA B w G r p) : PA B w.drew G r p := h.below (Below.refl _ w).drew
theorem PA.alloc (h : PA B w G r p) (o : Obj) : PA B (w.alloc o) G r p := h.below ((Below.refl _ w).alloc (Nat.le_refl _) o)
theorem PA.call (h : PA B w G r p) (x : Bool) {v' : Value} {l' : LK} (hp : PL w' (G.b x) v' l') (hs : PStep w w' (G.b x) (G.v x) v') : PA B w' { G with v := set G.v x v' } (upd r w.heap.size v'.ownBlock (8 + ix x)) { p with l := set p.l x l' } :=
  h.of (h.toPA0.call x hp hs) hs.touch (fun j hj _ => by
    rcases hj with rfl | hj
    · rw [h.rb x]; omega
    · rw [h.rv x j hj]; omega) fun j hj => upd_old hj
theorem PA.ways (h : PA B w G r p) (x : Bool) {v' : Value} {L : List FR} (ht : Touch (fun j => r j = 3 ∨ r j = 10 + ix x) w w') (hb : w'.heap[G.wb]? = some (.cells (two (set G.wv x v')) 38 (0, 0))) (hr : w'.ownsRow B.n 31 5 v' L.length (frCells L)) (hg : ∀ j, v'.ownBlock = some j → (G.wv x).ownBlock = some j ∨ w.heap.size ≤ j) : PA B w' { G with wv := set G.wv x v' } (upd r w.heap.size v'.ownBlock (10 + ix x)) { p with way := set p.way x L } :=
  h.of (h.toPA0.ways x ht hb hr hg) ht (fun j hj _ => by omega) fun j hj => upd_old hj
theorem PA.sents (h : PA B w G r p) (x : Bool) {v' : Value} {L : List ByteArray} (ht : Touch (fun j => r j = 4 ∨ r j = 12 + ix x) w w') (hb : w'.heap[G.sb]? = some (.cells (two (set G.sv x v')) 40 (0, 0))) (hr : w'.ownsRow B.n 9 1 v' L.length (L.map .string)) (hg : ∀ j, v'.ownBlock = some j → (G.sv x).ownBlock = some j ∨ w.heap.size ≤ j) : PA B w' { G with sv := set G.sv x v' } (upd r w.heap.size v'.ownBlock (12 + ix x)) { p with sent := set p.sent x L } :=
  h.of (h.toPA0.sents x ht hb hr hg) ht (fun j hj _ => by omega) fun j hj => upd_old hj
theorem PA.tolds (h : PA B w G r p) (x : Bool) {v' : Value} {L : List ByteArray} (ht : Touch (fun j => r j = 5 ∨ r j = 14 + ix x) w w') (hb : w'.heap[G.tb]? = some (.cells (two (set G.tv x v')) 40 (0, 0))) (hr : w'.ownsRow B.n 9 1 v' L.length (L.map .string)) (hg : ∀ j, v'.ownBlock = some j → (G.tv x).ownBlock = some j ∨ w.heap.size ≤ j) : PA B w' { G with tv := set G.tv x v' } (upd r w.heap.size v'.ownBlock (14 + ix x)) { p with told := set p.told x L } :=
  h.of (h.toPA0.tolds x ht hb hr hg) ht (fun j hj _ => by omega) fun j hj => upd_old hj
theorem PA.toBelow {own : Nat → Prop} (h : PA B w G r p) (ht : Touch own w w') (hn : ∀ j, own j → j < w.heap.size → 1 ≤ r j) : Below B.n w w' := h.toPA0.toBelow ht hn
theorem PA.again (h : PA B w G r p) (e : Nat → Option Obj) (he : ∀ j o, e j = some o → w.heap[j]? = some o ∧ r j = 0) : PA ⟨B.n, e⟩ w G r p := ⟨h.toPA0, he⟩
theorem PA.fresh (h : PA B w G r p) : PA B w G (upd r w.heap.size none 0) p :=
  h.of ⟨h.box, h.lbox, h.wbox, h.sbox, h.tbox, h.link, h.way, h.sent, h.told, by rw [upd_old (heap_lt h.box)]; exact h.rp, by rw [upd_old (heap_lt h.lbox)]; exact h.rl, by rw [upd_old (heap_lt h.wbox)]; exact h.rw, by rw [upd_old (heap_lt h.sbox)]; exact h.rs, by rw [upd_old (heap_lt h.tbox)]; exact h.rt, fun y => by rw [upd_old (heap_lt (h.link y).box)]; exact h.rb y, fun y j hj => by rw [upd_old ((h.link y).lt (.inr hj))]; exact h.rv y j hj, fun y j hj => by rw [upd_old (row_lt (h.way y) hj)]; exact h.rwv y j hj, fun y j hj => by rw [upd_old (row_lt (h.sent y) hj)]; exact h.rsv y j hj, fun y j hj => by rw [upd_old (row_lt (h.told y) hj)]; exact h.rtv y j hj, upd_low h.size h.low, h.size⟩ (own := fun _ => False) (Touch.refl _ w) (fun _ e => e.elim) fun j hj => upd_old hj
end
end Go.Proofs.Ythgfijmpofbchaa
