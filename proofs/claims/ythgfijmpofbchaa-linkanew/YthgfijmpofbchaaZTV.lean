/-
  A turn, of any kind: what it does, and what holds behind it.
-/
import Derived.Test.YthgfijmpofbchaaZTU
namespace Go.Proofs.Ythgfijmpofbchaa
open Go.RowKit
set_option linter.unusedSectionVars false
variable [Ep]

theorem inv_turn {p : PR} (h : Inv p) (x : Bool) (k : Nat) (i : Int) (s : ByteArray) (hm : ∀ x, (p.sent x).length < 1000000) : Inv (p.turn x k i s) := by
  unfold PR.turn
  split
  · exact inv_send h x s (hm x)
  split
  · exact inv_put h x
  split
  · exact inv_tick h x
  split
  · exact h
  rename_i f hf
  have hfr := h.frames x f (List.mem_of_getElem? hf)
  split
  · exact (take_of (inv_lose h x _) (w := x) (f := f) ⟨hfr.epoch, hfr.peer, hfr.ack, hfr.seq⟩).2
  split
  · exact inv_lose h x _
  · exact (take_of h hfr).2
/-- How long the lists may be behind n turns. -/
structure Lz (n : Nat) (p : PR) : Prop where
  way : ∀ x, (p.way x).length ≤ 8 * n
  sent : ∀ x, (p.sent x).length ≤ n
theorem Lz.lens {n : Nat} {p : PR} (h : Lz n p) (hI : Inv p) (hn : n ≤ 10000) : Lens p :=
  ⟨fun x => by have := h.way x; omega, fun x => by have := h.sent x; omega, fun x => by have := (hI.pre x).length_le; have := h.sent (!x); omega⟩
theorem set_len {α : Type} {f : Bool → List α} {x : Bool} {l : List α} {n m : Nat} (h : ∀ y, (f y).length ≤ n) (hl : l.length ≤ m) (hn : n ≤ m) (y : Bool) : (set f x l y).length ≤ m := by
  unfold set
  split
  · exact hl
  · exact Nat.le_trans (h y) hn
theorem Lz.turn {n : Nat} {p : PR} (h : Lz n p) (x : Bool) (k : Nat) (i : Int) (s : ByteArray) : Lz (n + 1) (p.turn x k i s) := by
  have up : Lz (n + 1) p := ⟨fun y => by have := h.way y; omega, fun y => by have := h.sent y; omega⟩
  have lose : ∀ j y, ((p.lose x j).way y).length ≤ 8 * (n + 1) := fun j y => by
    refine set_len h.way ?_ (by omega) y
    have := h.way x
    rw [List.length_append, List.length_take, List.length_drop]
    omega
  unfold PR.turn
  split
  · refine ⟨up.way, fun y => ?_⟩
    dsimp only
    split
    · refine set_len h.sent ?_ (by omega) y
      have := h.sent x
      simp only [List.length_append, List.length_cons, List.length_nil]
      omega
    · exact up.sent y
  split
  · refine ⟨fun y => set_len h.way ?_ (by omega) y, up.sent⟩
    have := h.way (!x)
    have := outs_len (p.l x)
    rw [List.length_append]
    omega
  split
  · exact ⟨up.way, up.sent⟩
  split
  · exact up
  split
  · exact ⟨lose _, up.sent⟩
  split
  · exact ⟨lose _, up.sent⟩
  · exact ⟨up.way, up.sent⟩
theorem TN.k_lt (t : TN) : t.k < 6 := by
  have := pickZ_range t.kind 6 (by omega)
  unfold TN.k
  omega
theorem turn_any {B : BE} {w : World} {G : PG} {r : Nat → Nat} {p : PR} {n : Nat} (t : TN) (ht : t.ok) (hP : PA B w G r p) (hI : Inv p) (hL : Lz n p) (hn : n ≤ 10000) :
    Calls Try.prog 22 #[.pointer (some ⟨G.pb, 0, none⟩), t.v] w fun e w' => e = .returned (.bool true) ∧ (∃ G' r', PA B w' G' r' (p.turn t.x t.k t.i t.s) ∧ G'.pb = G.pb) ∧ Inv (p.turn t.x t.k t.i t.s) ∧ Lz (n + 1) (p.turn t.x t.k t.i t.s) ∧ Below B w w' := by
  have hl := hL.lens hI hn
  have key : Calls Try.prog 22 #[.pointer (some ⟨G.pb, 0, none⟩), t.v] w fun e w' => e = .returned (.bool true) ∧ ∃ G' r', PA B w' G' r' (p.turn t.x t.k t.i t.s) ∧ G'.pb = G.pb ∧ Below B w w' := by
    have hk := t.k_lt
    rcases (by omega : t.k = 0 ∨ t.k = 1 ∨ t.k = 2 ∨ t.k = 3 ∨ t.k = 4 ∨ t.k = 5) with e | e | e | e | e | e
    · exact turn_send t ht hP hl e
    · exact turn_out t ht hP hl e
    · exact turn_tick t ht hP hl e
    · exact turn_k3 t ht hP hI hl e
    · exact turn_k4 t ht hP hI hl e
    · exact turn_k5 t ht hP hI hl e
  refine key.mono fun e w' ⟨h1, G', r', h2, h3, h4⟩ => ⟨h1, ⟨G', r', h2, h3⟩, inv_turn hI _ _ _ _ fun x => ?_, hL.turn _ _ _ _, h4⟩
  have := hL.sent x
  omega
theorem lz_begin : Lz 0 PR.begin := ⟨fun _ => Nat.zero_le _, fun _ => Nat.zero_le _⟩
end Go.Proofs.Ythgfijmpofbchaa
