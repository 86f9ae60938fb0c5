/-
  A frame to another epoch; an end that begins again: what is told then; nothing of the program is in this text.
-/
import Derived.Test.YtiealipplckfnaaZL4
namespace Go.Proofs.Ytiealipplckfnaa

/-- What LinkDeaf asks. -/
theorem deaf_of {l : LK} (he : l.epoch = 3) (hp : l.peer = 0 ∨ l.peer = 5) {f : FR} (h5 : f.epoch ≤ 5) (h53 : ¬ (f.epoch = 5 ∧ f.peer = 3)) : (l.take f).1.2 = false ∧ (l.peer ≠ 0 → f.epoch ≤ l.peer) ∧ (¬ (f.peer = 3 ∧ (l.peer : Int) < f.epoch) → (l.take f).1.1 = [] ∧ (l.take f).2.wait = l.wait) := by
  refine and_assoc.1 ⟨?_, ?_⟩
  · refine ⟨?_, fun e => by rcases hp with e2 | e2 <;> omega⟩
    unfold LK.take
    by_cases c : ¬ f.rightP ∨ f.epoch < l.peer
    · rw [if_pos c]
    · rw [if_neg c]
      have hh : (l.hear f.epoch.toNat).1 = false := by
        unfold LK.hear
        by_cases c1 : f.epoch.toNat ≤ l.peer
        · rw [if_pos c1]
        · rw [if_neg c1, if_pos (by omega)]
      simp only [hh]
      split <;> rfl
  · intro hn
    unfold LK.take
    by_cases c : ¬ f.rightP ∨ f.epoch < l.peer
    · rw [if_pos c]; exact ⟨rfl, rfl⟩
    · rw [if_neg c]
      have hr : f.rightP := Classical.byContradiction fun e => c (.inl e)
      have hle : ¬ f.epoch < l.peer := fun e => c (.inr e)
      have h1 := hr.1
      have hx : f.peer ≠ 3 := fun e => by
        rcases hp with e2 | e2
        · exact hn ⟨e, by omega⟩
        · exact h53 ⟨by omega, e⟩
      have hw : (l.hear f.epoch.toNat).2.wait = l.wait ∧ (l.hear f.epoch.toNat).2.epoch = l.epoch := by
        unfold LK.hear
        by_cases c1 : f.epoch.toNat ≤ l.peer
        · rw [if_pos c1]; exact ⟨rfl, rfl⟩
        · rw [if_neg c1, if_pos (by omega)]; exact ⟨rfl, rfl⟩
      simp only [hw.2, he]
      rw [if_pos (by exact hx)]
      exact ⟨rfl, hw.1⟩
@[reducible] def Ep.a : Ep := ⟨fun w => if w then 5 else 3, fun w => by cases w <;> decide⟩
@[reducible] def Ep.b : Ep := ⟨fun w => if w then 9 else 3, fun w => by cases w <;> decide⟩
theorem hear_le {l : LK} {e : Nat} (h : e ≤ l.peer) : l.hear e = (false, l) := by
  unfold LK.hear
  rw [if_pos h]
/-- A frame comes: first of a greater epoch, then as of the one that is known. -/
theorem take_hear {l : LK} {f : FR} (hr : f.rightP) (he : (l.peer : Int) < f.epoch) : l.take f = ((((l.hear f.epoch.toNat).2.take f).1.1, decide (l.peer ≠ 0)), ((l.hear f.epoch.toNat).2.take f).2) := by
  have c : ¬ (¬ f.rightP ∨ f.epoch < l.peer) := fun e => by
    rcases e with e | e
    · exact e hr
    · omega
  have hp : (l.hear f.epoch.toNat).2.peer = f.epoch.toNat := by
    unfold LK.hear
    rw [if_neg (by omega)]
    split <;> rfl
  have h1 : (l.hear f.epoch.toNat).1 = decide (l.peer ≠ 0) := by
    unfold LK.hear
    rw [if_neg (by omega)]
    by_cases e : l.peer = 0
    · rw [if_pos e]; simp [e]
    · rw [if_neg e]; simp [e]
  have c2 : ¬ (¬ f.rightP ∨ f.epoch < (l.hear f.epoch.toNat).2.peer) := fun e => by
    rcases e with e | e
    · exact e hr
    · omega
  have h2 : (l.hear f.epoch.toNat).2.hear f.epoch.toNat = (false, (l.hear f.epoch.toNat).2) := hear_le (Nat.le_of_eq hp.symm)
  have e1 : l.take f = if f.peer ≠ (l.hear f.epoch.toNat).2.epoch then (([], (l.hear f.epoch.toNat).1), { (l.hear f.epoch.toNat).2 with owes := true }) else (((((l.hear f.epoch.toNat).2.ackd f.ack.toNat).get f.seq.toNat f.body).1, (l.hear f.epoch.toNat).1), (((l.hear f.epoch.toNat).2.ackd f.ack.toNat).get f.seq.toNat f.body).2) := by
    unfold LK.take
    rw [if_neg c]
  generalize l.hear f.epoch.toNat = H at *
  have e2 : H.2.take f = if f.peer ≠ H.2.epoch then (([], false), { H.2 with owes := true }) else ((((H.2.ackd f.ack.toNat).get f.seq.toNat f.body).1, false), ((H.2.ackd f.ack.toNat).get f.seq.toNat f.body).2) := by
    unfold LK.take
    rw [if_neg c2, h2]
  rw [e1, e2, h1]
  split <;> rfl
end Go.Proofs.Ytiealipplckfnaa
