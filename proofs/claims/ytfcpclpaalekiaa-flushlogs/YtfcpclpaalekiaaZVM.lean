/-
  Views and members in memory (mkvr.py).
-/
import Derived.WalkKit
import Derived.OwnWalk
import Derived.Below
import Derived.Deep.AppendLies
import Derived.Lib.AppendStr
import Derived.Lib.SliceRun
import Derived.Lib.Builder
import Derived.Maps.OwnSet
import Derived.Deep.RegionLaw
import Derived.ScopeJumps
import Derived.WalkMore
import Derived.WalkSmall
import Derived.KernelRfl
import Derived.Deep.DrawnRows
import Derived.Deep.RegionHeldLaw
import Derived.Shelf.Abstract
import Derived.Deep.QuietTactic
import Derived.BigRegion
import Derived.Maps.AppendAt
import Derived.Laws.OwnMore
import Derived.Laws.AppendOwnNone
import Derived.Lib.QuietBelow
import Derived.Deep.DeepCutAuto
namespace Go.Proofs.Ytfcpclpaalekiaa
structure MB where
  node : Int
  life : Int
deriving DecidableEq
structure VW where
  num : Int
  mem : List MB
abbrev big : Int := 9007199254740991
def MB.right (m : MB) : Prop := 0 ≤ m.node ∧ m.node < 7 ∧ 1 ≤ m.life ∧ m.life ≤ big
instance (m : MB) : Decidable m.right := by unfold MB.right; infer_instance
def okAt (L : List MB) (i : Nat) : Prop := ∀ m, L[i]? = some m → m.right ∧ ∀ k, 0 < i → L[i - 1]? = some k → k.node < m.node
instance (L : List MB) (i : Nat) : Decidable (okAt L i) := by
  unfold okAt
  cases h : L[i]? with
  | none => exact .isTrue fun m e => by cases e
  | some m =>
    by_cases hm : m.right
    · by_cases hi : 0 < i
      · cases h2 : L[i - 1]? with
        | none => exact .isTrue fun x e => by cases e; exact ⟨hm, fun k _ e => by cases e⟩
        | some k =>
          by_cases hk : k.node < m.node
          · exact .isTrue fun x e => by cases e; exact ⟨hm, fun y _ e => by cases e; exact hk⟩
          · exact .isFalse fun c => hk ((c m rfl).2 k hi rfl)
      · exact .isTrue fun x e => by cases e; exact ⟨hm, fun k c => absurd c hi⟩
    · exact .isFalse fun c => hm (c m rfl).1
def VW.right (v : VW) : Prop := 1 ≤ v.num ∧ v.num ≤ big ∧ 1 ≤ v.mem.length ∧ v.mem.length ≤ 7 ∧ ∀ i, i < v.mem.length → okAt v.mem i
instance (v : VW) : Decidable v.right := by unfold VW.right; infer_instance
def VW.maj (v : VW) : Nat := v.mem.length / 2 + 1
def comm (L M : List MB) : Nat := (L.filter fun m => decide (m ∈ M)).length
def lifeOf (A : List MB) (n : Int) : Int := A.foldl (fun x m => if m.node = n then max x m.life else x) 0
def nextOne (A : List MB) (wanted : List Int) (n : Nat) : List MB := if (n : Int) ∈ wanted ∧ 0 < lifeOf A n then [⟨n, lifeOf A n⟩] else []
def nextUpto (A : List MB) (wanted : List Int) (n : Nat) : List MB := (List.range n).flatMap (nextOne A wanted)
def VW.next (v : VW) (A : List MB) (wanted : List Int) : VW × Int :=
  if ¬ v.right ∨ v.num = big then (⟨0, []⟩, 1)
  else if ¬ (∀ m ∈ A, m.right) then (⟨0, []⟩, 1)
  else if comm v.mem (nextUpto A wanted 7) < v.maj then (⟨0, []⟩, 12)
  else (⟨v.num + 1, nextUpto A wanted 7⟩, 0)
theorem ok_rise {L : List MB} (h : ∀ i, i < L.length → okAt L i) : (L.Pairwise fun a b => a.node < b.node) ∧ ∀ m ∈ L, m.right := by
  constructor
  · rw [List.pairwise_iff_getElem]
    intro i j hi hj hij
    induction j with
    | zero => omega
    | succ j ih =>
      have h1 := (h (j + 1) hj L[j + 1] (List.getElem?_eq_getElem hj)).2 L[j] (by omega) (List.getElem?_eq_getElem (by omega))
      by_cases e : i = j
      · subst e; exact h1
      · have := ih (by omega) (by omega)
        omega
  · intro m hm
    obtain ⟨i, hi, rfl⟩ := List.getElem_of_mem hm
    exact (h i hi _ (List.getElem?_eq_getElem hi)).1
end Go.Proofs.Ytfcpclpaalekiaa
namespace Go.Proofs.Ytfcpclpaalekiaa
end Go.Proofs.Ytfcpclpaalekiaa
namespace Go.Proofs.Ytfcpclpaalekiaa
open Go.RowKit
theorem hide {p : Prop} (h : p) : Hid p := h
structure Touch (own : Nat → Prop) (w w' : World) : Prop where
  os : w'.os = w.os
  tape : w'.tape = w.tape
  output : w'.output = w.output
  size : w.heap.size ≤ w'.heap.size
  block : ∀ k, k < w.heap.size → ¬ own k → w'.heap[k]? = w.heap[k]?
section
variable {own own' : Nat → Prop} {w w1 w2 : World}
theorem Touch.refl (own : Nat → Prop) (w : World) : Touch own w w := ⟨rfl, rfl, rfl, Nat.le_refl _, fun _ _ _ => rfl⟩
theorem Touch.of_below (h : Below w.heap.size w w1) : Touch own w w1 := ⟨h.os, h.tape, h.output, h.size, fun k hk _ => h.block k hk⟩
theorem Touch.mono (h : Touch own w w1) (hs : ∀ k, k < w.heap.size → own k → own' k) : Touch own' w w1 := ⟨h.os, h.tape, h.output, h.size, fun k hk hn => h.block k hk fun e => hn (hs k hk e)⟩
theorem Touch.andThen (h : Touch own w w1) (h2 : Touch own' w1 w2) (hs : ∀ k, k < w.heap.size → own' k → own k) : Touch own w w2 :=
  ⟨h2.os.trans h.os, h2.tape.trans h.tape, h2.output.trans h.output, Nat.le_trans h.size h2.size, fun k hk hn => (h2.block k (Nat.lt_of_lt_of_le hk h.size) fun e => hn (hs k hk e)).trans (h.block k hk hn)⟩
theorem Touch.alloc (h : Touch own w w1) (o : Obj) : Touch own w (w1.alloc o) :=
  ⟨h.os, h.tape, h.output, Nat.le_trans h.size (by simp), fun k hk hn => (Below.heap_alloc w1 o k (Nat.lt_of_lt_of_le hk h.size)).trans (h.block k hk hn)⟩
theorem Touch.drew (h : Touch own w w1) : Touch own w w1.drew := ⟨h.os, h.tape, h.output, h.size, h.block⟩
theorem Touch.setCell (h : Touch own w w1) (a : Addr) (v : Value) (ha : a.block < w.heap.size → own a.block) : Touch own w (w1.setCell a v) :=
  ⟨h.os, h.tape, h.output, by rw [World.size_setCell]; exact h.size, fun k hk hn => by
    rw [Below.heap_setCell _ _ _ _ (fun e => hn (by subst e; exact ha hk))]
    exact h.block k hk hn⟩
theorem Touch.grown (h : Touch own w w1) {row : Option Nat} (hg : w1.grownBy w2 row) (hr : ∀ k, row = some k → k < w.heap.size → own k) : Touch own w w2 :=
  ⟨hg.os.trans h.os, hg.tape.trans h.tape, hg.output.trans h.output, Nat.le_trans h.size hg.size, fun k hk hn => (hg.block k (Nat.lt_of_lt_of_le hk h.size) fun e => hn (hr k e.symm hk)).trans (h.block k hk hn)⟩
theorem Touch.below (h : Touch own w w1) (hb : Below w1.heap.size w1 w2) : Touch own w w2 := h.andThen (Touch.of_below (own := own) hb) fun _ _ e => e
theorem Touch.cell (h : Touch own w w1) (a : Addr) {v : Value} (hv : w.cell? a = some v) (hn : ¬ own a.block) : w1.cell? a = some v :=
  (World.cell?_of_block (h.block a.block (World.block_lt_of_cell? w a hv) hn)).trans hv
theorem Touch.at (h : Touch own w w1) {k : Nat} {o : Obj} (hv : w.heap[k]? = some o) (hn : ¬ own k) : w1.heap[k]? = some o :=
  (h.block k (Array.getElem?_eq_some_iff.1 hv).1 hn).trans hv
theorem Touch.row (h : Touch own w w1) {base : Nat} {e : TypeId} {size : Nat} {v : Value} {n : Nat} {xs : List Value} (hv : w.ownsRow base e size v n xs) (hn : ∀ k, v.ownBlock = some k → ¬ own k) : w1.ownsRow base e size v n xs := by
  refine ⟨hv.1, ?_⟩
  rcases hv.2 with h0 | ⟨g, cap, cur, rfl, hb, hg, rest⟩
  · exact .inl h0
  · exact .inr ⟨g, cap, cur, rfl, hb, h.at hg (hn g rfl), rest⟩
theorem Touch.map (h : Touch own w w1) {H : Type} {P : Program} {k : TypeId} {R : Value → Option (DataW H × List MemPlace)} {b n : Nat} {D : DataW H} (hv : w.ownsMap P k R b n D) (hn : ¬ own b) : w1.ownsMap P k R b n D := by
  obtain ⟨es, clock, hb, rest⟩ := hv
  exact ⟨es, clock, h.at hb hn, rest⟩
end
theorem heap_lt {w : World} {k : Nat} {o : Obj} (h : w.heap[k]? = some o) : k < w.heap.size := (Array.getElem?_eq_some_iff.1 h).1
theorem Below.at {w w1 : World} (h : Below w.heap.size w w1) {k : Nat} {o : Obj} (hv : w.heap[k]? = some o) : w1.heap[k]? = some o := (h.block k (heap_lt hv)).trans hv
theorem below_row {w w1 : World} (h : Below w.heap.size w w1) {base : Nat} {e : TypeId} {size : Nat} {v : Value} {n : Nat} {xs : List Value} (hv : w.ownsRow base e size v n xs) : w1.ownsRow base e size v n xs :=
  (Touch.of_below (own := fun _ => False) h).row hv fun _ _ e => e
theorem box_cell {w : World} {b : Nat} {cs : Array Value} {t : TypeId} (h : w.heap[b]? = some (.cells cs t (0, 0))) (o : Nat) {v : Value} (hv : cs[o]? = some v) : w.cell? ⟨b, o, none⟩ = some v := by rw [Lib.cell_of_heap h]; exact hv
theorem box_free {w : World} {b : Nat} {cs : Array Value} {t : TypeId} (h : w.heap[b]? = some (.cells cs t (0, 0))) (o : Nat) : w.frozen? ⟨b, o, none⟩ = false := Lib.frozen_of_heap h o
theorem box_set {w : World} {b : Nat} {cs : Array Value} {t : TypeId} (h : w.heap[b]? = some (.cells cs t (0, 0))) (o : Nat) (v : Value) : (w.setCell ⟨b, o, none⟩ v).heap[b]? = some (.cells (cs.setIfInBounds o v) t (0, 0)) := by
  unfold World.setCell
  simp [Array.getElem?_modify, h]
theorem row_slice {w : World} {base : Nat} {e : TypeId} {size : Nat} {v : Value} {n : Nat} {xs : List Value} (h : w.ownsRow base e size v n xs) : ∃ ao cp, v = .slice ao n cp := by
  rcases h.2 with ⟨rfl, rfl⟩ | ⟨g, cap, cur, rfl, _⟩
  · exact ⟨none, 0, rfl⟩
  · exact ⟨_, _, rfl⟩
section
variable {P : Program} (w : World)
end
end Go.Proofs.Ytfcpclpaalekiaa
namespace Go.Proofs.Ytfcpclpaalekiaa
open Go.RowKit
end Go.Proofs.Ytfcpclpaalekiaa
namespace Go.Proofs.Ytfcpclpaalekiaa
open Go.RowKit
def regOf : Code → Nat → Option Code
  | .region i ops d, k => match i == k with
    | true => some (.region i ops d)
    | false => none
  | .seq a b, k => match regOf a k with
    | some c => some c
    | none => regOf b k
  | .cond _ a b, k => match regOf a k with
    | some c => some c
    | none => regOf b k
  | .block _ c, k => regOf c k
  | .loop c, k => regOf c k
  | .scope c, k => regOf c k
  | _, _ => none
theorem reg_mono {P : Program} {K : Act → World → Prop} {Q : Exit → Act → World → Prop} {c : Code} {a : Act} {w : World} (h : Code.wp P c (Exit.then K fun _ _ _ => False) a w) : Code.wp P c (Exit.then K Q) a w :=
  wp_mono h fun e a w q => by
    cases e with
    | normal => exact q
    | _ => exact False.elim q
theorem reg_all {P : Program} {Q : Exit → Act → World → Prop} {c : Code} {a : Act} {w : World} (h : Code.wp P c (Exit.then (fun a w => Q .normal a w) fun _ _ _ => False) a w) : Code.wp P c Q a w :=
  wp_mono h fun e a w q => by
    cases e with
    | normal => exact q
    | _ => exact False.elim q
theorem slot_get {a : Act} {n : Nat} {v : Value} (h : a.tmps.getD n undef = v) : a.tmps[n]?.getD undef = v := by
  have := h
  rw [Array.getD_eq_getD_getElem?] at this
  exact this
end Go.Proofs.Ytfcpclpaalekiaa
namespace Go.Proofs.Ytfcpclpaalekiaa
open Go.RowKit
attribute [local go_sem ↓] Go.wp_at_zero Go.wp_at_succ
set_option linter.unusedSimpArgs false
set_option linter.unusedVariables false
abbrev tMember : TypeId := 53
abbrev tView : TypeId := 35
def MemsAt (w : World) (ao : Option Addr) (L : List MB) : Prop := ∀ i (hi : i < L.length), ∃ b off, ao = some ⟨b, off, none⟩ ∧ b < w.heap.size ∧ w.cell? ⟨b, off + i * 2, none⟩ = some (.int .i64 L[i].node) ∧ w.cell? ⟨b, off + i * 2 + 1, none⟩ = some (.int .i64 L[i].life)
theorem MemsAt.below {w w1 : World} {ao : Option Addr} {L : List MB} (h : MemsAt w ao L) (hb : Below w.heap.size w w1) : MemsAt w1 ao L := fun i hi => by
  obtain ⟨b, off, h1, h2, h3, h4⟩ := h i hi
  exact ⟨b, off, h1, Nat.lt_of_lt_of_le h2 hb.size, (hb.cell (p := ⟨b, _, none⟩) h2).trans h3, (hb.cell (p := ⟨b, _, none⟩) h2).trans h4⟩
def IntsAt (w : World) (ao : Option Addr) (L : List Int) : Prop := ∀ i (hi : i < L.length), ∃ b off, ao = some ⟨b, off, none⟩ ∧ b < w.heap.size ∧ w.cell? ⟨b, off + i, none⟩ = some (.int .i64 L[i])
theorem IntsAt.below {w w1 : World} {ao : Option Addr} {L : List Int} (h : IntsAt w ao L) (hb : Below w.heap.size w w1) : IntsAt w1 ao L := fun i hi => by
  obtain ⟨b, off, h1, h2, h3⟩ := h i hi
  exact ⟨b, off, h1, Nat.lt_of_lt_of_le h2 hb.size, (hb.cell (p := ⟨b, _, none⟩) h2).trans h3⟩
def MB.v (m : MB) : Value := .agg #[.int .i64 m.node, .int .i64 m.life]
def MB.cells (m : MB) : List Value := [.int .i64 m.node, .int .i64 m.life]
def mbCells (L : List MB) : List Value := L.flatMap MB.cells
theorem mbCells_append (a b : List MB) : mbCells (a ++ b) = mbCells a ++ mbCells b := by simp [mbCells]
theorem mbCells_get (L : List MB) (i j : Nat) (hi : i < L.length) (hj : j < 2) : (mbCells L)[i * 2 + j]? = (L[i].cells)[j]? := by
  induction L generalizing i with
  | nil => cases hi
  | cons a L ih =>
    have e : mbCells (a :: L) = a.cells ++ mbCells L := rfl
    rw [e]
    cases i with
    | zero => rw [List.getElem?_append_left (by simp [MB.cells]; omega)]; simp
    | succ i =>
      rw [List.getElem?_append_right (by simp [MB.cells]; omega)]
      have := ih i (by simpa using hi)
      simp only [List.getElem_cons_succ]
      rw [← this]
      congr 1
      simp [MB.cells]
      omega
def VW.v (v : VW) (ao : Option Addr) (cp : Nat) : Value := .agg #[.int .i64 v.num, .slice ao v.mem.length cp]
theorem mems_of_row {w : World} {B : Nat} {ao : Option Addr} {n cp : Nat} {L : List MB} (h : w.ownsRow B tMember 2 (.slice ao n cp) n (mbCells L)) (hn : L.length = n) : MemsAt w ao L := by
  subst hn
  intro i hi
  rcases h.2 with ⟨_, h2⟩ | ⟨g, cap, cur, hv, hg, hh, _⟩
  · omega
  · injection hv with h1 _ h3
    subst h1
    have hc := h.cells (g := g) rfl
    refine ⟨g, 0, rfl, heap_lt hh, ?_, ?_⟩
    · have := hc (i * 2) (.int .i64 L[i].node) (by rw [show i * 2 = i * 2 + 0 by omega, mbCells_get L i 0 hi (by omega)]; rfl)
      rw [Addr.add_lit] at this
      simpa using this
    · have := hc (i * 2 + 1) (.int .i64 L[i].life) (by rw [mbCells_get L i 1 hi (by omega)]; rfl)
      rw [Addr.add_lit] at this
      simpa using this
end Go.Proofs.Ytfcpclpaalekiaa
