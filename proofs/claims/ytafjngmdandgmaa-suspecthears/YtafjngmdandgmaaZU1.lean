/-
  Who was heard of late, on plain states; nothing of the program is in this text.
-/
import Derived.Test.YtafjngmdandgmaaZV1
namespace Go.Proofs.Ytafjngmdandgmaa

/-- self; of each node the life that was heard and the ticks since; how many ticks went by. -/
structure SU where
  self : MB
  life : Nat → Int
  age : Nat → Nat
  now : Nat
def SU.new (m : MB) : SU := ⟨m, fun _ => 0, fun _ => 0, 0⟩
def SU.hears (s : SU) (m : MB) : Bool := decide (m.right ∧ m.node ≠ s.self.node ∧ s.life m.node.toNat ≤ m.life)
def SU.heard (s : SU) (m : MB) : SU := if s.hears m = true then { s with life := fun n => if n = m.node.toNat then m.life else s.life n, age := fun n => if n = m.node.toNat then 0 else s.age n } else s
def SU.tick (s : SU) : SU := { s with age := fun n => s.age n + 1, now := s.now + 1 }
def SU.is (s : SU) (m : MB) : Bool := decide (m.right ∧ if m.node = s.self.node then m = s.self else s.life m.node.toNat = m.life ∧ s.age m.node.toNat < 5)
def SU.at (s : SU) (n : Nat) : MB := if (n : Int) = s.self.node then s.self else ⟨n, s.life n⟩
def SU.upto (s : SU) (n : Nat) : List MB := (List.range n).flatMap fun k => if s.is (s.at k) = true then [s.at k] else []
def SU.alive (s : SU) : List MB := s.upto 7
theorem SU.upto_succ (s : SU) (n : Nat) : s.upto (n + 1) = s.upto n ++ if s.is (s.at n) = true then [s.at n] else [] := by
  unfold SU.upto
  rw [List.range_succ, List.flatMap_append]
  simp
theorem SU.at_node (s : SU) (n : Nat) : (s.at n).node = (n : Int) := by
  unfold SU.at
  split
  · rename_i h; exact h.symm
  · rfl
theorem SU.mem_upto {s : SU} {n : Nat} {m : MB} (h : m ∈ s.upto n) : ∃ k, k < n ∧ m = s.at k ∧ s.is m = true := by
  obtain ⟨k, hk, hm⟩ := List.mem_flatMap.1 h
  split at hm
  · rename_i c
    obtain rfl := List.mem_singleton.1 hm
    exact ⟨k, List.mem_range.1 hk, rfl, c⟩
  · cases hm
theorem SU.upto_len (s : SU) (n : Nat) : (s.upto n).length ≤ n := by
  induction n with
  | zero => exact Nat.le_refl _
  | succ n ih =>
    rw [SU.upto_succ, List.length_append]
    split
    · simp; omega
    · simp; omega
theorem SU.upto_rise (s : SU) (n : Nat) : (s.upto n).Pairwise fun a b => a.node < b.node := by
  induction n with
  | zero => exact List.Pairwise.nil
  | succ n ih =>
    rw [SU.upto_succ, List.pairwise_append]
    refine ⟨ih, ?_, fun a ha b hb => ?_⟩
    · split
      · exact List.pairwise_singleton _ _
      · exact List.Pairwise.nil
    · obtain ⟨k, hk, rfl, _⟩ := SU.mem_upto ha
      split at hb
      · obtain rfl := List.mem_singleton.1 hb
        rw [SU.at_node, SU.at_node]
        omega
      · cases hb
theorem SU.is_self {s : SU} (h : s.self.right) : s.is s.self = true := by
  unfold SU.is
  exact decide_eq_true ⟨h, by rw [if_pos rfl]⟩
theorem SU.self_alive {s : SU} (h : s.self.right) : s.self ∈ s.alive := by
  obtain ⟨h1, h2, _⟩ := h
  obtain ⟨k, hk⟩ : ∃ k : Nat, s.self.node = (k : Int) := ⟨s.self.node.toNat, by omega⟩
  have ha : s.at k = s.self := by unfold SU.at; rw [if_pos hk.symm]
  refine List.mem_flatMap.2 ⟨k, List.mem_range.2 (by omega), ?_⟩
  rw [ha, if_pos (SU.is_self ⟨h1, h2, by assumption⟩)]
  exact List.mem_singleton.2 rfl
theorem SU.heard_self (s : SU) (m : MB) : (s.heard m).self = s.self ∧ (s.heard m).now = s.now := by
  unfold SU.heard
  split <;> exact ⟨rfl, rfl⟩
theorem SU.alive_get {s : SU} {k : Nat} (h : k < s.alive.length) : s.is (s.alive[k]) = true := by
  obtain ⟨_, _, _, h⟩ := SU.mem_upto (List.getElem_mem h)
  exact h
theorem SU.alive_up {s : SU} {k : Nat} (h : k < s.alive.length) (h0 : 0 < k) : (s.alive[k - 1]'(by omega)).node < s.alive[k].node :=
  List.pairwise_iff_getElem.1 (SU.upto_rise s 7) (k - 1) k (by unfold SU.alive at h; omega) h (by omega)
/-- What SuspectHears knows of the other one. -/
structure SU.Has (s : SU) (me other : MB) (a : Nat) : Prop where
  who : s.self = me
  life : s.life other.node.toNat = other.life
  age : s.age other.node.toNat = a
theorem SU.Has.is {s : SU} {me other : MB} {a : Nat} (h : s.Has me other a) (hr : other.right) (hn : other.node ≠ me.node) : s.is other = decide (a < 5) := by
  unfold SU.is
  have e : ¬ other.node = s.self.node := by rw [h.who]; exact hn
  have e1 := h.life
  have e2 := h.age
  apply decide_eq_decide.2
  rw [if_neg e, e1, e2]
  exact ⟨fun c => c.2.2, fun c => ⟨hr, rfl, c⟩⟩
theorem SU.Has.hears {s : SU} {me other : MB} {a : Nat} (h : s.Has me other a) (hr : other.right) (hn : other.node ≠ me.node) : s.hears other = true := by
  unfold SU.hears
  rw [h.who, h.life]
  exact decide_eq_true ⟨hr, hn, Int.le_refl _⟩
theorem SU.Has.heard {s : SU} {me other : MB} {a : Nat} (h : s.Has me other a) (hr : other.right) (hn : other.node ≠ me.node) : (s.heard other).Has me other 0 := by
  unfold SU.heard
  rw [if_pos (h.hears hr hn)]
  exact ⟨h.who, by simp, by simp⟩
theorem SU.Has.tick {s : SU} {me other : MB} {a : Nat} (h : s.Has me other a) : s.tick.Has me other (a + 1) := ⟨h.who, h.life, by show s.age _ + 1 = _; rw [h.age]⟩
theorem SU.new_hears (me other : MB) : (SU.new me).hears other = decide (other.right ∧ other.node ≠ me.node) := by
  unfold SU.hears SU.new
  apply decide_eq_decide.2
  constructor
  · exact fun h => ⟨h.1, h.2.1⟩
  · exact fun h => ⟨h.1, h.2, by have := h.1.2.2.1; show (0 : Int) ≤ _; omega⟩
theorem SU.new_heard {me other : MB} (h : other.right ∧ other.node ≠ me.node) : ((SU.new me).heard other).Has me other 0 := by
  unfold SU.heard
  rw [if_pos (by rw [SU.new_hears]; exact decide_eq_true h)]
  exact ⟨rfl, by simp, by simp⟩
theorem SU.new_is {me other : MB} (h : ¬ other.right) : (SU.new me).is other = false := by
  unfold SU.is
  exact decide_eq_false fun e => h e.1
theorem SU.Has.elder {s : SU} {me other : MB} {a : Nat} (h : s.Has me other a) : s.hears ⟨other.node, other.life - 1⟩ = false := by
  unfold SU.hears
  refine decide_eq_false fun e => ?_
  have := e.2.2
  simp only at this
  rw [h.life] at this
  omega
theorem SU.heard_no {s : SU} {m : MB} (h : s.hears m = false) : s.heard m = s := by
  unfold SU.heard
  rw [if_neg (by rw [h]; simp)]
end Go.Proofs.Ytafjngmdandgmaa
