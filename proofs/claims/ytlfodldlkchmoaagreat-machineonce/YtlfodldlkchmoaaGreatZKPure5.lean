/-
  A shape with a star reads as often what stands behind it as it is there.
-/
import Derived.WalkKit
import Derived.OwnWalk
import Derived.Below
import Derived.Deep.AppendLies
import Derived.Lib.AppendStr
import Derived.Lib.SliceRun
import Derived.Lib.Builder
import Derived.Maps.OwnSet
import Derived.Lib.Endian
import Derived.Lib.Bytealg
import Derived.Lib.Strings
import Derived.Lib.Repeat
namespace Go.Proofs.YtlfodldlkchmoaaGreat
open Go.RowKit
set_option maxRecDepth 100000
theorem hide {p : Prop} (h : p) : Hid p := h
structure Touch (own : Nat → Prop) (w w' : World) : Prop where
  os : w'.os = w.os
  tape : w'.tape = w.tape
  output : w'.output = w.output
  size : w.heap.size ≤ w'.heap.size
  block : ∀ k, k < w.heap.size → ¬ own k → w'.heap[k]? = w.heap[k]?
section
variable {own own' : Nat → Prop} {w w1 w2 : World}
theorem Touch.refl (own : Nat → Prop) (w : World) : Touch own w w := ⟨rfl, rfl, rfl, Nat.le_refl _, fun _ _ _ => rfl⟩
theorem Touch.of_below (h : Below w.heap.size w w1) : Touch own w w1 := ⟨h.os, h.tape, h.output, h.size, fun k hk _ => h.block k hk⟩
theorem Touch.mono (h : Touch own w w1) (hs : ∀ k, k < w.heap.size → own k → own' k) : Touch own' w w1 := ⟨h.os, h.tape, h.output, h.size, fun k hk hn => h.block k hk fun e => hn (hs k hk e)⟩
theorem Touch.andThen (h : Touch own w w1) (h2 : Touch own' w1 w2) (hs : ∀ k, k < w.heap.size → own' k → own k) : Touch own w w2 :=
  ⟨h2.os.trans h.os, h2.tape.trans h.tape, h2.output.trans h.output, Nat.le_trans h.size h2.size, fun k hk hn => (h2.block k (Nat.lt_of_lt_of_le hk h.size) fun e => hn (hs k hk e)).trans (h.block k hk hn)⟩
theorem Touch.alloc (h : Touch own w w1) (o : Obj) : Touch own w (w1.alloc o) :=
  ⟨h.os, h.tape, h.output, Nat.le_trans h.size (by simp), fun k hk hn => (Below.heap_alloc w1 o k (Nat.lt_of_lt_of_le hk h.size)).trans (h.block k hk hn)⟩
theorem Touch.drew (h : Touch own w w1) : Touch own w w1.drew := ⟨h.os, h.tape, h.output, h.size, h.block⟩
theorem Touch.setCell (h : Touch own w w1) (a : Addr) (v : Value) (ha : a.block < w.heap.size → own a.block) : Touch own w (w1.setCell a v) :=
  ⟨h.os, h.tape, h.output, by rw [World.size_setCell]; exact h.size, fun k hk hn => by
    rw [Below.heap_setCell _ _ _ _ (fun e => hn (by subst e; exact ha hk))]
    exact h.block k hk hn⟩
theorem Touch.grown (h : Touch own w w1) {row : Option Nat} (hg : w1.grownBy w2 row) (hr : ∀ k, row = some k → k < w.heap.size → own k) : Touch own w w2 :=
  ⟨hg.os.trans h.os, hg.tape.trans h.tape, hg.output.trans h.output, Nat.le_trans h.size hg.size, fun k hk hn => (hg.block k (Nat.lt_of_lt_of_le hk h.size) fun e => hn (hr k e.symm hk)).trans (h.block k hk hn)⟩
theorem Touch.below (h : Touch own w w1) (hb : Below w1.heap.size w1 w2) : Touch own w w2 := h.andThen (Touch.of_below (own := own) hb) fun _ _ e => e
theorem Touch.toBelow {B : Nat} (h : Touch own w w1) (hB : B ≤ w.heap.size) (hn : ∀ k, k < B → ¬ own k) : Below B w w1 := ⟨h.os, h.tape, h.output, h.size, fun k hk => h.block k (Nat.lt_of_lt_of_le hk hB) (hn k hk)⟩
theorem Touch.cell (h : Touch own w w1) (a : Addr) {v : Value} (hv : w.cell? a = some v) (hn : ¬ own a.block) : w1.cell? a = some v :=
  (World.cell?_of_block (h.block a.block (World.block_lt_of_cell? w a hv) hn)).trans hv
theorem Touch.at (h : Touch own w w1) {k : Nat} {o : Obj} (hv : w.heap[k]? = some o) (hn : ¬ own k) : w1.heap[k]? = some o :=
  (h.block k (Array.getElem?_eq_some_iff.1 hv).1 hn).trans hv
theorem Touch.row (h : Touch own w w1) {base : Nat} {e : TypeId} {size : Nat} {v : Value} {n : Nat} {xs : List Value} (hv : w.ownsRow base e size v n xs) (hn : ∀ k, v.ownBlock = some k → ¬ own k) : w1.ownsRow base e size v n xs := by
  refine ⟨hv.1, ?_⟩
  rcases hv.2 with h0 | ⟨g, cap, cur, rfl, hb, hg, rest⟩
  · exact .inl h0
  · exact .inr ⟨g, cap, cur, rfl, hb, h.at hg (hn g rfl), rest⟩
theorem Touch.map (h : Touch own w w1) {H : Type} {P : Program} {k : TypeId} {R : Value → Option (DataW H × List MemPlace)} {b n : Nat} {D : DataW H} (hv : w.ownsMap P k R b n D) (hn : ¬ own b) : w1.ownsMap P k R b n D := by
  obtain ⟨es, clock, hb, rest⟩ := hv
  exact ⟨es, clock, h.at hb hn, rest⟩
end
theorem heap_lt {w : World} {k : Nat} {o : Obj} (h : w.heap[k]? = some o) : k < w.heap.size := (Array.getElem?_eq_some_iff.1 h).1
theorem Below.at {w w1 : World} (h : Below w.heap.size w w1) {k : Nat} {o : Obj} (hv : w.heap[k]? = some o) : w1.heap[k]? = some o := (h.block k (heap_lt hv)).trans hv
theorem below_row {w w1 : World} (h : Below w.heap.size w w1) {base : Nat} {e : TypeId} {size : Nat} {v : Value} {n : Nat} {xs : List Value} (hv : w.ownsRow base e size v n xs) : w1.ownsRow base e size v n xs :=
  (Touch.of_below (own := fun _ => False) h).row hv fun _ _ e => e
theorem below_map {w w1 : World} (h : Below w.heap.size w w1) {H : Type} {P : Program} {k : TypeId} {R : Value → Option (DataW H × List MemPlace)} {b n : Nat} {D : DataW H} (hv : w.ownsMap P k R b n D) : w1.ownsMap P k R b n D :=
  (Touch.of_below (own := fun _ => False) h).map hv fun e => e
theorem grown_at {w w1 : World} {row : Option Nat} (hg : w.grownBy w1 row) {k : Nat} {o : Obj} (hv : w.heap[k]? = some o) (hn : row ≠ some k) : w1.heap[k]? = some o := (hg.block k (heap_lt hv) fun e => hn e.symm).trans hv
theorem box_cell {w : World} {b : Nat} {cs : Array Value} {t : TypeId} (h : w.heap[b]? = some (.cells cs t (0, 0))) (o : Nat) {v : Value} (hv : cs[o]? = some v) : w.cell? ⟨b, o, none⟩ = some v := by rw [Lib.cell_of_heap h]; exact hv
theorem box_free {w : World} {b : Nat} {cs : Array Value} {t : TypeId} (h : w.heap[b]? = some (.cells cs t (0, 0))) (o : Nat) : w.frozen? ⟨b, o, none⟩ = false := Lib.frozen_of_heap h o
theorem box_set {w : World} {b : Nat} {cs : Array Value} {t : TypeId} (h : w.heap[b]? = some (.cells cs t (0, 0))) (o : Nat) (v : Value) : (w.setCell ⟨b, o, none⟩ v).heap[b]? = some (.cells (cs.setIfInBounds o v) t (0, 0)) := by
  unfold World.setCell
  simp [Array.getElem?_modify, h]
theorem box_apart {w : World} {b c : Nat} {x : Obj} (h : w.heap[b]? = some x) (hc : b ≠ c) (o : Nat) (v : Value) : (w.setCell ⟨c, o, none⟩ v).heap[b]? = some x := by rw [Below.heap_setCell _ _ _ _ hc]; exact h
theorem box_alloc {w : World} {b : Nat} {x : Obj} (h : w.heap[b]? = some x) (o : Obj) : (w.alloc o).heap[b]? = some x := (Below.heap_alloc w o b (heap_lt h)).trans h
theorem row_slice {w : World} {base : Nat} {e : TypeId} {size : Nat} {v : Value} {n : Nat} {xs : List Value} (h : w.ownsRow base e size v n xs) : ∃ ao cp, v = .slice ao n cp := by
  rcases h.2 with ⟨rfl, rfl⟩ | ⟨g, cap, cur, rfl, _⟩
  · exact ⟨none, 0, rfl⟩
  · exact ⟨_, _, rfl⟩
section
variable {P : Program} (w : World)
end
end Go.Proofs.YtlfodldlkchmoaaGreat
namespace Go.Proofs.YtlfodldlkchmoaaGreat.K
structure It where
  k : Int
  n : Int
  s : ByteArray
def It.zero : It := ⟨0, 0, ⟨#[]⟩⟩
def It.ok (x : It) : Prop := -9223372036854775808 ≤ x.k ∧ x.k ≤ 9223372036854775807 ∧ 0 ≤ x.n ∧ x.n < 18446744073709551616 ∧ x.s.size ≤ 9223372036854775807
def widthN (k : Int) : Nat := if k = 1 then 1 else if k = 3 then 8 else 4
def kindB (k : Int) : Bool := decide (1 ≤ k) && decide (k ≤ 4)
def faultF (x : It) : Int :=
  if kindB x.k = false then 1
  else if x.k ≠ 4 ∧ (x.s.size ≠ 0 ∨ ¬ x.n < 256 ^ widthN x.k) then 1
  else if x.k = 4 ∧ x.n ≠ 0 then 1
  else if 100000 < x.s.size then 3 else 0
def numOf (x : It) : Nat := if x.k = 4 then x.s.size else x.n.toNat
def itemB (x : It) : List UInt8 := Lib.beBytes (widthN x.k) (numOf x) ++ x.s.data.toList
def firstFault : List It → Int
  | [] => 0
  | x :: l => if faultF x = 0 then firstFault l else faultF x
def encF (l : List It) : List UInt8 × Int :=
  if 1000 < l.length then ([], 3) else if firstFault l = 0 then (l.flatMap itemB, 0) else ([], firstFault l)
def letterF (k : Int) : UInt8 := if k = 1 then 98 else if k = 2 then 119 else if k = 3 then 108 else 116
def shapeF (l : List It) : List UInt8 × Int := if l.all (fun x => kindB x.k) = true then (l.map fun x => letterF x.k, 0) else ([], 1)
def letters : List UInt8 := [98, 119, 108, 116]
def kindOfL (c : UInt8) : Int := Lib.indexByte letters c + 1
def isLetter (c : UInt8) : Bool := decide (0 ≤ Lib.indexByte letters c)
def allL (l : List UInt8) : Bool := l.all isLetter
def itemF (c : UInt8) (s : List UInt8) : It × List UInt8 × Int :=
  if s.length < widthN (kindOfL c) then (It.zero, [], 2)
  else if kindOfL c = 4 then
    if 100000 < Lib.beNat (s.take 4) then (It.zero, [], 3)
    else if (s.drop 4).length < Lib.beNat (s.take 4) then (It.zero, [], 2)
    else (⟨4, 0, ⟨((s.drop 4).take (Lib.beNat (s.take 4))).toArray⟩⟩, (s.drop 4).drop (Lib.beNat (s.take 4)), 0)
  else (⟨kindOfL c, Lib.beNat (s.take (widthN (kindOfL c))), ⟨#[]⟩⟩, s.drop (widthN (kindOfL c)), 0)
def readF : Nat → List UInt8 → Nat → List UInt8 → List UInt8 → List It × Int
  | 0, _, _, _, _ => ([], 0)
  | f + 1, again, m, [], rest => if rest = [] then ([], 0) else if again = [] then ([], 10) else readF f again m again rest
  | f + 1, again, m, c :: t, rest =>
    if m = 1000 then ([], 3)
    else if (itemF c rest).2.2 = 0 then
      if (readF f again (m + 1) t (itemF c rest).2.1).2 = 0 then ((itemF c rest).1 :: (readF f again (m + 1) t (itemF c rest).2.1).1, 0)
      else ([], (readF f again (m + 1) t (itemF c rest).2.1).2)
    else ([], (itemF c rest).2.2)
def cutStar (s : List UInt8) : List UInt8 × List UInt8 × Bool :=
  if Lib.indexByte s 42 < 0 then (s, [], false) else (s.take (Lib.indexByte s 42).toNat, s.drop ((Lib.indexByte s 42).toNat + 1), true)
def shapeOk (s : List UInt8) : Bool :=
  !((cutStar s).2.2 && (cutStar s).2.1.isEmpty) && (allL (cutStar s).1 && allL (cutStar s).2.1)
def decF (shape s : List UInt8) : List It × Int :=
  if shapeOk shape = true then readF (2 * s.length + 2) (cutStar shape).2.1 0 (cutStar shape).1 s else ([], 1)
theorem beFrom_snoc (l : List UInt8) (a : Nat) (c : UInt8) : Lib.beFrom a (l ++ [c]) = Lib.beFrom a l * 256 + c.toNat := by
  induction l generalizing a with
  | nil => rfl
  | cons b r ih => simp [Lib.beFrom, ih]
theorem beNat_snoc (l : List UInt8) (c : UInt8) : Lib.beNat (l ++ [c]) = Lib.beNat l * 256 + c.toNat := beFrom_snoc l 0 c
theorem beFrom_lt (l : List UInt8) (a : Nat) : Lib.beFrom a l < (a + 1) * 256 ^ l.length := by
  induction l generalizing a with
  | nil => simp [Lib.beFrom]
  | cons b r ih =>
    have h1 := ih (a * 256 + b.toNat)
    have h2 := b.toNat_lt
    simp only [Lib.beFrom, List.length_cons, Nat.pow_succ]
    refine Nat.lt_of_lt_of_le h1 ?_
    rw [Nat.mul_comm (256 ^ r.length) 256, ← Nat.mul_assoc]
    exact Nat.mul_le_mul_right _ (by omega)
theorem beNat_lt (l : List UInt8) : Lib.beNat l < 256 ^ l.length := by
  have := beFrom_lt l 0
  simpa [Lib.beNat] using this
end Go.Proofs.YtlfodldlkchmoaaGreat.K
namespace Go.Proofs.YtlfodldlkchmoaaGreat.K
theorem beBytes_succ (k v : Nat) : Lib.beBytes (k + 1) v = Lib.beBytes k (v / 256) ++ [(v % 256).toUInt8] := by
  simp [Lib.beBytes, Lib.leBytes]
theorem beNat_beBytes (k v : Nat) (h : v < 256 ^ k) : Lib.beNat (Lib.beBytes k v) = v := by
  induction k generalizing v with
  | zero => simp at h; subst h; rfl
  | succ k ih =>
    rw [beBytes_succ, beNat_snoc, ih (v / 256) (by rw [Nat.pow_succ] at h; omega), Lib.toUInt8_mod]
    omega
theorem snoc_of (l : List UInt8) (k : Nat) (h : l.length = k + 1) : ∃ a c, l = a ++ [c] ∧ a.length = k := by
  have hne : l ≠ [] := by intro e; rw [e] at h; simp at h
  refine ⟨l.dropLast, l.getLast hne, (List.dropLast_concat_getLast hne).symm, by rw [List.length_dropLast]; omega⟩
theorem beBytes_beNat (k : Nat) (l : List UInt8) (h : l.length = k) : Lib.beBytes k (Lib.beNat l) = l := by
  induction k generalizing l with
  | zero => simp at h; subst h; rfl
  | succ k ih =>
    obtain ⟨a, c, rfl, ha⟩ := snoc_of l k h
    have hc := c.toNat_lt
    have h1 : (Lib.beNat a * 256 + c.toNat) / 256 = Lib.beNat a := by omega
    have h2 : (Lib.beNat a * 256 + c.toNat) % 256 = c.toNat := by omega
    rw [beNat_snoc, beBytes_succ, h1, h2, ih a ha]
    simp
theorem kind_cases (k : Int) (h : kindB k = true) : k = 1 ∨ k = 2 ∨ k = 3 ∨ k = 4 := by
  simp [kindB] at h
  omega
theorem kindOfL_letterF (k : Int) (h : kindB k = true) : kindOfL (letterF k) = k := by
  rcases kind_cases k h with rfl | rfl | rfl | rfl <;> rfl
theorem isLetter_letterF (k : Int) (h : kindB k = true) : isLetter (letterF k) = true := by
  rcases kind_cases k h with rfl | rfl | rfl | rfl <;> rfl
theorem letterF_ne (k : Int) : letterF k ≠ 42 := by
  unfold letterF
  split
  · decide
  · split
    · decide
    · split <;> decide
theorem fault_kind (x : It) (h : faultF x = 0) : kindB x.k = true := by
  unfold faultF at h
  cases hk : kindB x.k with
  | true => rfl
  | false => rw [hk] at h; simp at h
theorem fault_shape (x : It) (h : faultF x = 0) : (x.k ≠ 4 ∧ x.s.size = 0 ∧ x.n < 256 ^ widthN x.k) ∨ (x.k = 4 ∧ x.n = 0 ∧ x.s.size ≤ 100000) := by
  have hk := fault_kind x h
  unfold faultF at h
  rw [hk] at h
  simp only [Bool.true_eq_false, if_false] at h
  by_cases h4 : x.k = 4
  · right
    by_cases hn : x.n = 0
    · by_cases hs : 100000 < x.s.size
      · simp [h4, hn, hs] at h
      · exact ⟨h4, hn, by omega⟩
    · simp [h4, hn] at h
  · left
    by_cases hs : x.s.size = 0
    · by_cases hn : x.n < 256 ^ widthN x.k
      · exact ⟨h4, hs, hn⟩
      · simp [h4, hs, hn] at h
    · simp [h4, hs] at h
theorem numOf_lt (x : It) (h : faultF x = 0) (h0 : 0 ≤ x.n) : numOf x < 256 ^ widthN x.k := by
  unfold numOf
  rcases fault_shape x h with ⟨h4, _, hn⟩ | ⟨h4, _, hs⟩
  · rw [if_neg h4]
    obtain ⟨n, hn'⟩ := Int.eq_ofNat_of_zero_le h0
    rw [hn'] at hn ⊢
    rw [Int.toNat_natCast]
    have e : ((256 ^ widthN x.k : Nat) : Int) = (256 : Int) ^ widthN x.k := Int.natCast_pow 256 _
    rw [← e] at hn
    omega
  · have w4 : widthN x.k = 4 := by rw [h4]; rfl
    rw [if_pos h4, w4]
    omega
theorem mk_empty (s : ByteArray) (h : s.size = 0) : s = ⟨#[]⟩ := by
  obtain ⟨d⟩ := s
  congr
  exact Array.eq_empty_of_size_eq_zero h
theorem mk_back (s : ByteArray) : (⟨s.data.toList.toArray⟩ : ByteArray) = s := by obtain ⟨d⟩ := s; rfl
theorem itemF_item (x : It) (rest : List UInt8) (h : faultF x = 0) (h0 : 0 ≤ x.n) : itemF (letterF x.k) (itemB x ++ rest) = (x, rest, 0) := by
  have hk := fault_kind x h
  have hlt := numOf_lt x h h0
  have hl : (Lib.beBytes (widthN x.k) (numOf x)).length = widthN x.k := Lib.beBytes_length _ _
  unfold itemF itemB
  rw [kindOfL_letterF x.k hk, List.append_assoc]
  rw [if_neg (by rw [List.length_append, hl]; omega)]
  rcases fault_shape x h with ⟨h4, hs, _⟩ | ⟨h4, hn, hs⟩
  · rw [if_neg h4, List.take_left' hl, List.drop_left' hl, beNat_beBytes _ _ hlt]
    have e1 : x.s.data.toList = [] := List.eq_nil_of_length_eq_zero (by simpa using hs)
    have e2 : ((numOf x : Nat) : Int) = x.n := by unfold numOf; rw [if_neg h4]; omega
    rw [e1, List.nil_append, e2, ← mk_empty x.s hs]
  · have w4 : widthN x.k = 4 := by rw [h4]; rfl
    rw [w4] at hl hlt ⊢
    have e1 : numOf x = x.s.size := by unfold numOf; rw [if_pos h4]
    rw [if_pos h4, List.take_left' hl, List.drop_left' hl, beNat_beBytes _ _ hlt, e1]
    have e2 : x.s.data.toList.length = x.s.size := by simp
    rw [if_neg (by omega), if_neg (by rw [List.length_append, e2]; omega), List.take_left' e2, List.drop_left' e2, mk_back]
    obtain ⟨k, n, s⟩ := x
    simp only at h4 hn
    subst h4 hn
    rfl
theorem readF_back (l : List It) (m f : Nat) (hm : m + l.length ≤ 1000) (hl : ∀ x ∈ l, faultF x = 0 ∧ 0 ≤ x.n) (hf : l.length < f) :
    readF f [] m (l.map fun x => letterF x.k) (l.flatMap itemB) = (l, 0) := by
  induction l generalizing m f with
  | nil =>
    obtain ⟨g, rfl⟩ : ∃ g, f = g + 1 := ⟨f - 1, by simp at hf; omega⟩
    simp [readF]
  | cons x l ih =>
    obtain ⟨g, rfl⟩ : ∃ g, f = g + 1 := ⟨f - 1, by simp at hf; omega⟩
    obtain ⟨h1, h2⟩ := hl x (by simp)
    have h3 := ih (m + 1) g (by simp at hm; omega) (fun y hy => hl y (by simp [hy])) (by simp at hf; omega)
    rw [List.map_cons, List.flatMap_cons, readF, itemF_item x _ h1 h2]
    simp only [List.length_cons] at hm
    rw [if_neg (by omega), if_pos rfl, h3, if_pos rfl]
theorem indexByte_none (l : List UInt8) (c : UInt8) (h : ∀ x ∈ l, x ≠ c) : Lib.indexByte l c = -1 := by
  induction l with
  | nil => rfl
  | cons b l ih =>
    have h1 : (b == c) = false := by simpa using h b (by simp)
    have h2 := ih fun x hx => h x (by simp [hx])
    simp [Lib.indexByte, h1, h2]
theorem cutStar_letters (l : List UInt8) (h : ∀ x ∈ l, x ≠ 42) : cutStar l = (l, [], false) := by
  unfold cutStar
  rw [indexByte_none l 42 h, if_pos (by omega)]
theorem letters_star (l : List It) : ∀ x ∈ (l.map fun x => letterF x.k), x ≠ 42 := by
  intro x hx
  obtain ⟨y, _, rfl⟩ := List.mem_map.1 hx
  exact letterF_ne y.k
theorem letters_all (l : List It) (h : ∀ x ∈ l, kindB x.k = true) : allL (l.map fun x => letterF x.k) = true := by
  unfold allL
  rw [List.all_eq_true]
  intro x hx
  obtain ⟨y, hy, rfl⟩ := List.mem_map.1 hx
  exact isLetter_letterF y.k (h y hy)
theorem shapeOk_letters (l : List It) (h : ∀ x ∈ l, kindB x.k = true) : shapeOk (l.map fun x => letterF x.k) = true := by
  unfold shapeOk
  rw [cutStar_letters _ (letters_star l)]
  simp only [Bool.false_and, Bool.not_false, Bool.true_and]
  rw [letters_all l h]
  rfl
theorem decF_letters (l : List It) (s : List UInt8) (h : ∀ x ∈ l, kindB x.k = true) : decF (l.map fun x => letterF x.k) s = readF (2 * s.length + 2) [] 0 (l.map fun x => letterF x.k) s := by
  unfold decF
  rw [shapeOk_letters l h, if_pos rfl, cutStar_letters _ (letters_star l)]
theorem firstFault_zero (l : List It) : firstFault l = 0 ↔ ∀ x ∈ l, faultF x = 0 := by
  induction l with
  | nil => simp [firstFault]
  | cons x l ih =>
    simp only [firstFault, List.mem_cons, forall_eq_or_imp]
    by_cases h : faultF x = 0
    · rw [if_pos h, ih]; simp [h]
    · rw [if_neg h]; simp [h]
theorem itemB_pos (x : It) : 1 ≤ (itemB x).length := by
  unfold itemB
  rw [List.length_append, Lib.beBytes_length]
  have : 1 ≤ widthN x.k := by
    unfold widthN
    split
    · omega
    · split <;> omega
  omega
theorem items_le (l : List It) : l.length ≤ (l.flatMap itemB).length := by
  induction l with
  | nil => simp
  | cons x l ih =>
    have := itemB_pos x
    rw [List.flatMap_cons, List.length_append, List.length_cons]
    omega
theorem encF_zero (l : List It) (h : (encF l).2 = 0) : l.length ≤ 1000 ∧ (∀ x ∈ l, faultF x = 0) ∧ encF l = (l.flatMap itemB, 0) := by
  unfold encF at *
  by_cases h1 : 1000 < l.length
  · rw [if_pos h1] at h; simp at h
  · rw [if_neg h1] at h ⊢
    by_cases h2 : firstFault l = 0
    · rw [if_pos h2]
      exact ⟨by omega, (firstFault_zero l).1 h2, rfl⟩
    · rw [if_neg h2] at h
      exact absurd h h2
theorem shapeF_ok (l : List It) (h : ∀ x ∈ l, kindB x.k = true) : shapeF l = (l.map fun x => letterF x.k, 0) := by
  unfold shapeF
  rw [if_pos]
  rw [List.all_eq_true]
  exact h
theorem back_pure (l : List It) (h : (encF l).2 = 0) (hn : ∀ x ∈ l, 0 ≤ x.n) : (shapeF l).2 = 0 ∧ decF (shapeF l).1 (encF l).1 = (l, 0) := by
  obtain ⟨h1, h2, h3⟩ := encF_zero l h
  have hk : ∀ x ∈ l, kindB x.k = true := fun x hx => fault_kind x (h2 x hx)
  rw [shapeF_ok l hk, h3]
  refine ⟨rfl, ?_⟩
  show decF (l.map fun x => letterF x.k) (l.flatMap itemB) = (l, 0)
  rw [decF_letters l _ hk]
  exact readF_back l 0 _ (by omega) (fun x hx => ⟨h2 x hx, hn x hx⟩) (by have := items_le l; omega)
end Go.Proofs.YtlfodldlkchmoaaGreat.K
namespace Go.Proofs.YtlfodldlkchmoaaGreat.K
theorem letter_cases (c : UInt8) (h : isLetter c = true) : c = 98 ∨ c = 119 ∨ c = 108 ∨ c = 116 := by
  by_cases h1 : c = 98
  · exact Or.inl h1
  by_cases h2 : c = 119
  · exact Or.inr (Or.inl h2)
  by_cases h3 : c = 108
  · exact Or.inr (Or.inr (Or.inl h3))
  by_cases h4 : c = 116
  · exact Or.inr (Or.inr (Or.inr h4))
  have e := indexByte_none letters c (by
    intro x hx
    simp [letters] at hx
    rcases hx with rfl | rfl | rfl | rfl
    · exact fun e => h1 e.symm
    · exact fun e => h2 e.symm
    · exact fun e => h3 e.symm
    · exact fun e => h4 e.symm)
  unfold isLetter at h
  rw [e] at h
  simp at h
theorem letter_back (c : UInt8) (h : isLetter c = true) : letterF (kindOfL c) = c ∧ kindB (kindOfL c) = true := by
  rcases letter_cases c h with rfl | rfl | rfl | rfl <;> exact ⟨rfl, rfl⟩
theorem widthN_le' (k : Int) : widthN k ≤ 8 := by
  unfold widthN
  split
  · omega
  · split <;> omega
theorem pow_le8 (z : Nat) (h : z ≤ 8) : 256 ^ z ≤ 18446744073709551616 := by
  have : 256 ^ z ≤ 256 ^ 8 := Nat.pow_le_pow_right (by omega) h
  omega
theorem itemF_inv (c : UInt8) (s : List UInt8) (hc : isLetter c = true) (h : (itemF c s).2.2 = 0) :
    s = itemB (itemF c s).1 ++ (itemF c s).2.1 ∧ faultF (itemF c s).1 = 0 ∧ (itemF c s).1.ok ∧ letterF (itemF c s).1.k = c := by
  obtain ⟨hb, hk⟩ := letter_back c hc
  have hz := widthN_le' (kindOfL c)
  unfold itemF at *
  by_cases h1 : s.length < widthN (kindOfL c)
  · rw [if_pos h1] at h; simp at h
  · rw [if_neg h1] at h ⊢
    by_cases h2 : kindOfL c = 4
    · rw [if_pos h2] at h ⊢
      rw [h2] at h1 hb
      have w4 : widthN 4 = 4 := rfl
      rw [w4] at h1
      by_cases h3 : 100000 < Lib.beNat (s.take 4)
      · rw [if_pos h3] at h; simp at h
      · rw [if_neg h3] at h ⊢
        by_cases h4 : (s.drop 4).length < Lib.beNat (s.take 4)
        · rw [if_pos h4] at h; simp at h
        · rw [if_neg h4]
          have ht : (s.take 4).length = 4 := by rw [List.length_take]; omega
          generalize hN : Lib.beNat (s.take 4) = N at *
          have hl : ((s.drop 4).take N).length = N := by rw [List.length_take]; omega
          have hsz : (⟨((s.drop 4).take N).toArray⟩ : ByteArray).size = N := by
            show ((s.drop 4).take N).toArray.size = N
            rw [List.size_toArray]; exact hl
          refine ⟨?_, ?_, ?_, hb⟩
          · unfold itemB numOf
            rw [if_pos rfl, hsz, w4, ← hN, beBytes_beNat 4 _ ht, hN]
            simp only [List.append_assoc]
            show s = s.take 4 ++ ((s.drop 4).take N ++ (s.drop 4).drop N)
            rw [List.take_append_drop, List.take_append_drop]
          · unfold faultF
            rw [hsz]
            simp [kindB]
            omega
          · unfold It.ok
            rw [hsz]
            simp
            omega
    · rw [if_neg h2] at h ⊢
      have ht : (s.take (widthN (kindOfL c))).length = widthN (kindOfL c) := by rw [List.length_take]; omega
      have hlt := beNat_lt (s.take (widthN (kindOfL c)))
      rw [ht] at hlt
      have h8 := pow_le8 _ hz
      refine ⟨?_, ?_, ?_, hb⟩
      · unfold itemB numOf
        rw [if_neg h2, Int.toNat_natCast, beBytes_beNat _ _ ht]
        show s = s.take (widthN (kindOfL c)) ++ [] ++ s.drop (widthN (kindOfL c))
        rw [List.append_nil, List.take_append_drop]
      · have e : ((256 ^ widthN (kindOfL c) : Nat) : Int) = (256 : Int) ^ widthN (kindOfL c) := Int.natCast_pow 256 _
        have hlt' : ((Lib.beNat (s.take (widthN (kindOfL c))) : Nat) : Int) < (256 : Int) ^ widthN (kindOfL c) := by rw [← e]; omega
        have hsz : (⟨#[]⟩ : ByteArray).size = 0 := rfl
        unfold faultF
        simp only [hk, h2, hsz, hlt', Bool.true_eq_false, if_false, ne_eq, not_true, not_false_iff, or_false, and_false, false_and]
        rfl
      · have k1 : 1 ≤ kindOfL c ∧ kindOfL c ≤ 4 := by simpa [kindB] using hk
        unfold It.ok
        refine ⟨by simp only; omega, by simp only; omega, by simp only; omega, by simp only; omega, Nat.zero_le _⟩
theorem allL_cons (c : UInt8) (t : List UInt8) (h : allL (c :: t) = true) : isLetter c = true ∧ allL t = true := by
  simpa [allL] using h
theorem itemF_less' (c : UInt8) (s : List UInt8) (hc : isLetter c = true) (h : (itemF c s).2.2 = 0) : (itemF c s).2.1.length < s.length := by
  have h1 := congrArg List.length (itemF_inv c s hc h).1
  have h2 := itemB_pos (itemF c s).1
  rw [List.length_append] at h1
  omega
theorem readF_again (f : Nat) (again : List UInt8) (m : Nat) (todo rest : List UInt8) (ha : allL again = true) (ht : allL todo = true) (hm : m ≤ 1000)
    (hf : 2 * rest.length + (if todo = [] then 1 else 0) < f) (h : (readF f again m todo rest).2 = 0) :
    rest = (readF f again m todo rest).1.flatMap itemB ∧ (∀ x ∈ (readF f again m todo rest).1, faultF x = 0 ∧ x.ok) ∧ m + (readF f again m todo rest).1.length ≤ 1000 := by
  induction f generalizing m todo rest with
  | zero => omega
  | succ f ih =>
    cases todo with
    | nil =>
      rw [readF] at h ⊢
      by_cases h1 : rest = []
      · subst h1
        rw [if_pos rfl]
        exact ⟨rfl, by simp, by simpa using hm⟩
      · rw [if_neg h1] at h ⊢
        by_cases h2 : again = []
        · rw [if_pos h2] at h; simp at h
        · rw [if_neg h2] at h ⊢
          rw [if_pos rfl] at hf
          exact ih m again rest ha hm (by rw [if_neg h2]; omega) h
    | cons c t =>
      obtain ⟨hc, ht⟩ := allL_cons c t ht
      rw [readF] at h ⊢
      by_cases h1 : m = 1000
      · rw [if_pos h1] at h; simp at h
      · rw [if_neg h1] at h ⊢
        by_cases h2 : (itemF c rest).2.2 = 0
        · rw [if_pos h2] at h ⊢
          by_cases h3 : (readF f again (m + 1) t (itemF c rest).2.1).2 = 0
          · rw [if_pos h3]
            have hl := itemF_less' c rest hc h2
            rw [if_neg (by simp)] at hf
            obtain ⟨g1, g2, g3⟩ := ih (m + 1) t (itemF c rest).2.1 ht (by omega) (by split <;> omega) h3
            obtain ⟨e1, e2, e3, _⟩ := itemF_inv c rest hc h2
            refine ⟨?_, ?_, ?_⟩
            · show rest = List.flatMap itemB ((itemF c rest).1 :: _)
              rw [List.flatMap_cons, ← g1]
              exact e1
            · intro x hx
              rcases List.mem_cons.1 hx with rfl | hx
              · exact ⟨e2, e3⟩
              · exact g2 x hx
            · show m + (List.length ((itemF c rest).1 :: _)) ≤ 1000
              rw [List.length_cons]
              omega
          · rw [if_neg h3] at h; exact absurd h h3
        · rw [if_neg h2] at h; exact absurd h h2
theorem shapeOk_parts (s : List UInt8) (h : shapeOk s = true) : allL (cutStar s).1 = true ∧ allL (cutStar s).2.1 = true := by
  unfold shapeOk at h
  simp only [Bool.and_eq_true] at h
  exact h.2
theorem again_pure (shape s : List UInt8) (h : (decF shape s).2 = 0) :
    encF (decF shape s).1 = (s, 0) ∧ (∀ x ∈ (decF shape s).1, x.ok) ∧ (decF shape s).1.length ≤ 1000 := by
  unfold decF at *
  by_cases h1 : shapeOk shape = true
  · rw [if_pos h1] at h ⊢
    obtain ⟨ha, hb⟩ := shapeOk_parts shape h1
    obtain ⟨g1, g2, g3⟩ := readF_again _ _ 0 _ s hb ha (by omega) (by split <;> omega) h
    refine ⟨?_, fun x hx => (g2 x hx).2, by omega⟩
    unfold encF
    rw [if_neg (by omega), if_pos ((firstFault_zero _).2 fun x hx => (g2 x hx).1), ← g1]
  · rw [if_neg h1] at h; simp at h
end Go.Proofs.YtlfodldlkchmoaaGreat.K
namespace Go.Proofs.YtlfodldlkchmoaaGreat.K
end Go.Proofs.YtlfodldlkchmoaaGreat.K
namespace Go.Proofs.YtlfodldlkchmoaaGreat.K
end Go.Proofs.YtlfodldlkchmoaaGreat.K
