/-
  The program's Take as one law; two ends that lie apart.
-/
import Derived.Test.YthgfijmpofbchaaZDT
import Derived.Test.YthgfijmpofbchaaZD2
namespace Go.Proofs.Ythgfijmpofbchaa
open Go.RowKit

theorem FR.nums {f : FR} (h : f.rightP) : FN f f.epoch.toNat f.peer.toNat f.seq.toNat f.ack.toNat := by
  obtain ⟨h1, h2, h3, h4, h5, h6, h7, h8, _⟩ := h
  exact ⟨by omega, by omega, by omega, by omega⟩
section
variable {w : World} {b : Nat} {v : Value} {l : LK}
theorem ptake (h : PL w b v l) (f : FR) (hf : f.ok) : Calls Try.prog 16 #[.pointer (some ⟨b, 0, none⟩), f.v] w fun e w' => ∃ ao cp v', e = .returned (.tuple #[.slice ao (l.take f).1.1.length cp, .bool (l.take f).1.2]) ∧ Took w w' b v v' (.slice ao (l.take f).1.1.length cp) (l.take f).2 (l.take f).1.1 := by
  by_cases hr : f.rightP
  · by_cases he : f.epoch < l.peer
    · have e1 : l.take f = (([], false), l) := by unfold LK.take; rw [if_pos (.inr he)]
      rw [e1]
      refine (ptake_elder h f hf hr he).mono ?_
      rintro e w' ⟨rfl, hb⟩
      exact ⟨none, 0, v, rfl, h.below hb, PStep.below hb, World.ownsRow_nil _ _ _ _⟩
    · have hn := FR.nums hr
      have h3 := hr.1
      have e0 : l.take f = (let h := l.hear f.epoch.toNat
        if f.peer ≠ h.2.epoch then (([], h.1), { h.2 with owes := true }) else
        let g := (h.2.ackd f.ack.toNat).get f.seq.toNat f.body
        ((g.1, h.1), g.2)) := by unfold LK.take; rw [if_neg (by rintro (e | e); exact e hr; exact he e)]
      by_cases hE : f.epoch.toNat = l.peer
      · have e2 : l.hear f.epoch.toNat = (false, l) := by unfold LK.hear; rw [if_pos (by omega)]
        by_cases hp : f.peer.toNat = l.epoch
        · have e1 : l.take f = ((((l.ackd f.ack.toNat).get f.seq.toNat f.body).1, false), ((l.ackd f.ack.toNat).get f.seq.toNat f.body).2) := by
            rw [e0, e2]
            simp only
            rw [if_neg (by have := hn.p; omega)]
          rw [e1]
          refine (ptake_same_heard h f hf hr hn hE hp).mono ?_
          rintro e w' ⟨ao, cp, rfl, v', ht⟩
          exact ⟨ao, cp, v', rfl, ht⟩
        · have e1 : l.take f = (([], false), { l with owes := true }) := by
            rw [e0, e2]
            simp only
            rw [if_pos (by have := hn.p; omega)]
          rw [e1]
          refine (ptake_same_stale h f hf hr hn hE hp).mono ?_
          rintro e w' ⟨rfl, v', ht⟩
          exact ⟨none, 0, v', rfl, ht⟩
      · have hE2 : l.peer < f.epoch.toNat := by omega
        have e2 : (l.hear f.epoch.toNat).2.epoch = l.epoch := by unfold LK.hear; rw [if_neg (by omega)]; split <;> rfl
        by_cases hp : f.peer.toNat = l.epoch
        · have e1 : l.take f = (((((l.hear f.epoch.toNat).2.ackd f.ack.toNat).get f.seq.toNat f.body).1, (l.hear f.epoch.toNat).1), (((l.hear f.epoch.toNat).2.ackd f.ack.toNat).get f.seq.toNat f.body).2) := by
            rw [e0]
            simp only
            rw [if_neg (by have := hn.p; rw [e2]; omega)]
          rw [e1]
          refine (ptake_greater_heard h f hf hr hn hE2 hp).mono ?_
          rintro e w' ⟨ao, cp, rfl, v', ht⟩
          exact ⟨ao, cp, v', rfl, ht⟩
        · have e1 : l.take f = (([], (l.hear f.epoch.toNat).1), { (l.hear f.epoch.toNat).2 with owes := true }) := by
            rw [e0]
            simp only
            rw [if_pos (by have := hn.p; rw [e2]; omega)]
          rw [e1]
          refine (ptake_greater_stale h f hf hr hn hE2 hp).mono ?_
          rintro e w' ⟨rfl, v', ht⟩
          exact ⟨none, 0, v', rfl, ht⟩
  · have e1 : l.take f = (([], false), l) := by unfold LK.take; rw [if_pos (.inl hr)]
    rw [e1]
    refine (ptake_wrong b w f hf hr).mono ?_
    rintro e w' ⟨rfl, hb⟩
    exact ⟨none, 0, v, rfl, h.below hb, PStep.below hb, World.ownsRow_nil _ _ _ _⟩
end
/-- Two ends that lie apart, beside blocks that are neither's. -/
structure Ends (F : Nat → Prop) (w : World) (a : Nat) (va : Value) (la : LK) (b : Nat) (vb : Value) (lb : LK) : Prop where
  one : PL w a va la
  two : PL w b vb lb
  apart : ∀ j, pown a va j → ¬ pown b vb j
  fone : ∀ j, pown a va j → ¬ F j
  ftwo : ∀ j, pown b vb j → ¬ F j
section
variable {F : Nat → Prop} {w w' : World} {a b : Nat} {va vb va' vb' : Value} {la lb la' lb' : LK}
/-- The first one is called. -/
theorem Ends.call1 (h : Ends F w a va la b vb lb) (hF : ∀ j, F j → j < w.heap.size) (hp : PL w' a va' la') (hs : PStep w w' a va va') : Ends F w' a va' la' b vb lb := by
  refine ⟨hp, h.two.keep hs.touch fun j hj e => h.apart j e hj, fun j hj e => ?_, fun j hj e => ?_, h.ftwo⟩
  · rcases hs.grew j hj with e2 | e2
    · exact h.apart j e2 e
    · have := h.two.lt e; omega
  · rcases hs.grew j hj with e2 | e2
    · exact h.fone j e2 e
    · have := hF j e; omega
theorem Ends.swap (h : Ends F w a va la b vb lb) : Ends F w b vb lb a va la := ⟨h.two, h.one, fun j hj e => h.apart j e hj, h.ftwo, h.fone⟩
theorem Ends.call2 (h : Ends F w a va la b vb lb) (hF : ∀ j, F j → j < w.heap.size) (hp : PL w' b vb' lb') (hs : PStep w w' b vb vb') : Ends F w' a va la b vb' lb' := (h.swap.call1 hF hp hs).swap
theorem Ends.below (h : Ends F w a va la b vb lb) (hb : Below w.heap.size w w') : Ends F w' a va la b vb lb := ⟨h.one.below hb, h.two.below hb, h.apart, h.fone, h.ftwo⟩
/-- Other blocks that are not theirs. -/
theorem Ends.other {F' : Nat → Prop} (h : Ends F w a va la b vb lb) (hF : ∀ j, F' j → F j ∨ w.heap.size ≤ j) : Ends F' w a va la b vb lb :=
  ⟨h.one, h.two, h.apart, fun j hj e => by
    rcases hF j e with e2 | e2
    · exact h.fone j hj e2
    · have := h.one.lt hj; omega, fun j hj e => by
    rcases hF j e with e2 | e2
    · exact h.ftwo j hj e2
    · have := h.two.lt hj; omega⟩
/-- Memory of others is moved on. -/
theorem Ends.keep {own : Nat → Prop} (h : Ends F w a va la b vb lb) (ht : Touch own w w') (hn : ∀ j, pown a va j ∨ pown b vb j → ¬ own j) : Ends F w' a va la b vb lb :=
  ⟨h.one.keep ht fun j hj => hn j (.inl hj), h.two.keep ht fun j hj => hn j (.inr hj), h.apart, h.fone, h.ftwo⟩
end
end Go.Proofs.Ythgfijmpofbchaa
