/-
  Frames that come to an end that knows its peer; nothing of the program is in this text.
-/
import Derived.Test.YtiealipplckfnaaZL4
namespace Go.Proofs.Ytiealipplckfnaa

def takeL (l : LK) (fs : List FR) : LK := fs.foldl (fun l f => (l.take f).2) l
theorem take_known {l : LK} {f : FR} (hr : f.rightP) (he : f.epoch = l.peer) (hp : f.peer = l.epoch) (_h0 : l.peer ≠ 0) : (l.take f).2 = ((l.ackd f.ack.toNat).get f.seq.toNat f.body).2 := by
  unfold LK.take
  rw [if_neg (fun e => by rcases e with e | e; exact e hr; omega)]
  have hh : l.hear f.epoch.toNat = (false, l) := by
    unfold LK.hear
    rw [if_pos (by omega)]
  rw [hh]
  simp only
  rw [if_neg (fun e => e hp)]
/-- What acknowledging is about. -/
structure AC where
  wait : List ByteArray
  first : Nat
  out : Nat
  due : Nat
  ticks : Nat
def LK.ac (l : LK) : AC := ⟨l.wait, l.first, l.out, l.due, l.ticks⟩
def AC.ackd (c : AC) (a : Nat) : AC := if c.first ≤ a ∧ a + 1 ≤ c.first + c.out then ⟨c.wait.drop (a + 1 - c.first), a + 1, c.out - (a + 1 - c.first), c.due - (a + 1 - c.first), 0⟩ else c
theorem AC.twice (c : AC) (a : Nat) : (c.ackd a).ackd a = c.ackd a := by
  unfold AC.ackd
  by_cases h : c.first ≤ a ∧ a + 1 ≤ c.first + c.out
  · rw [if_pos h, if_neg (fun e => by have := e.1; simp only at this; omega)]
  · rw [if_neg h, if_neg h]
theorem ackd_ac (l : LK) (a : Nat) : (l.ackd a).ac = l.ac.ackd a ∧ (l.ackd a).epoch = l.epoch ∧ (l.ackd a).peer = l.peer ∧ (l.ackd a).taken = l.taken ∧ (l.ackd a).owes = l.owes := by
  unfold LK.ackd AC.ackd LK.ac
  by_cases h : l.first ≤ a ∧ a + 1 ≤ l.first + l.out
  · rw [if_pos h, if_pos h]; exact ⟨rfl, rfl, rfl, rfl, rfl⟩
  · rw [if_neg h, if_neg h]; exact ⟨rfl, rfl, rfl, rfl, rfl⟩
def tk (t s : Nat) : Nat := if s = t + 1 then t + 1 else t
theorem get_ac (l : LK) (s : Nat) (b : ByteArray) : (l.get s b).2.ac = l.ac ∧ (l.get s b).2.epoch = l.epoch ∧ (l.get s b).2.peer = l.peer ∧ (l.get s b).2.taken = tk l.taken s ∧ (l.get s b).2.owes = (l.owes || decide (s ≠ 0)) := by
  unfold LK.get tk
  by_cases h : s = l.taken + 1
  · rw [if_pos h, if_pos h]
    refine ⟨rfl, rfl, rfl, rfl, ?_⟩
    have : decide (s ≠ 0) = true := decide_eq_true (by omega)
    rw [this, Bool.or_true]
  · rw [if_neg h, if_neg h]
    by_cases h0 : s = 0
    · rw [if_pos h0]
      refine ⟨rfl, rfl, rfl, rfl, ?_⟩
      have : decide (s ≠ 0) = false := decide_eq_false (fun e => e h0)
      rw [this, Bool.or_false]
    · rw [if_neg h0]
      refine ⟨rfl, rfl, rfl, rfl, ?_⟩
      have : decide (s ≠ 0) = true := decide_eq_true h0
      rw [this, Bool.or_true]
/-- Frames of one acknowledgement, one behind the other. -/
theorem takeL_known (a : Nat) : ∀ (F : List FR) (l : LK), l.peer ≠ 0 → (∀ f ∈ F, f.rightP ∧ f.epoch = l.peer ∧ f.peer = l.epoch ∧ f.ack.toNat = a) → (takeL l F).epoch = l.epoch ∧ (takeL l F).peer = l.peer ∧ (takeL l F).ac = (if F = [] then l.ac else l.ac.ackd a) ∧ (takeL l F).taken = (F.map fun f => f.seq.toNat).foldl tk l.taken ∧ (takeL l F).owes = (l.owes || F.any fun f => decide (f.seq.toNat ≠ 0))
  | [], l, _, _ => ⟨rfl, rfl, rfl, rfl, by simp [takeL]⟩
  | f :: F, l, h0, hF => by
    obtain ⟨hr, he, hp, ha⟩ := hF f List.mem_cons_self
    have e1 := take_known hr he hp h0
    obtain ⟨a1, a2, a3, a4, a5⟩ := ackd_ac l f.ack.toNat
    obtain ⟨g1, g2, g3, g4, g5⟩ := get_ac (l.ackd f.ack.toNat) f.seq.toNat f.body
    rw [← e1] at g1 g2 g3 g4 g5
    rw [a1, ha] at g1
    rw [a2] at g2
    rw [a3] at g3
    rw [a4] at g4
    rw [a5] at g5
    have ih := takeL_known a F (l.take f).2 (by rw [g3]; exact h0) (fun q hq => by
      obtain ⟨q1, q2, q3, q4⟩ := hF q (List.mem_cons_of_mem _ hq)
      exact ⟨q1, by rw [g3]; exact q2, by rw [g2]; exact q3, q4⟩)
    obtain ⟨i1, i2, i3, i4, i5⟩ := ih
    have hstep : takeL l (f :: F) = takeL (l.take f).2 F := rfl
    rw [hstep]
    refine ⟨i1.trans g2, i2.trans g3, ?_, ?_, ?_⟩
    · rw [i3, g1, if_neg (List.cons_ne_nil f F)]
      split
      · rfl
      · exact AC.twice _ _
    · rw [i4, g4]; rfl
    · rw [i5, g5, List.any_cons, Bool.or_assoc]
/-- Numbers one behind the other. -/
theorem tk_run (t s m : Nat) : ((List.range m).map fun j => s + j).foldl tk t = if s ≤ t + 1 then max t (s + m - 1) else t := by
  induction m with
  | zero =>
    simp only [List.range_zero, List.map_nil, List.foldl_nil]
    split <;> omega
  | succ m ih =>
    rw [List.range_succ, List.map_append, List.foldl_append, ih]
    simp only [List.map_cons, List.map_nil, List.foldl_cons, List.foldl_nil]
    unfold tk
    split
    · split <;> omega
    · split <;> omega
end Go.Proofs.Ytiealipplckfnaa
