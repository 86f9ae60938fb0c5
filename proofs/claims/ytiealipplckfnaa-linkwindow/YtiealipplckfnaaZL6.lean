/-
  A round of two ends that know one another: what waits grows less; nothing of the program is in this text.
-/
import Derived.Test.YtiealipplckfnaaZL6n
namespace Go.Proofs.Ytiealipplckfnaa

theorem tick_known {x : LK} (hp : x.peer ≠ 0) : x.tick = { x with ticks := (if x.out = 0 then x.ticks else if x.ticks = 2 then 0 else x.ticks + 1), due := (if x.out ≠ 0 ∧ x.ticks = 2 then 0 else x.due) } := by
  unfold LK.tick
  simp only [if_neg hp]
  by_cases c : x.out = 0
  · rw [if_pos c, if_pos c, if_neg (fun e => e.1 c)]
  · rw [if_neg c, if_neg c]
    by_cases d : x.ticks = 2
    · rw [if_pos (by omega), if_pos d, if_pos ⟨c, d⟩]
    · rw [if_neg (by omega), if_neg d, if_neg (fun e => d e.2)]
def LK.due1 (x : LK) : Nat := if x.out ≠ 0 ∧ x.ticks = 2 then 0 else x.due
def LK.ticks1 (x : LK) : Nat := if x.out = 0 then x.ticks else if x.ticks = 2 then 0 else x.ticks + 1
theorem put_known {x : LK} (hp : x.peer ≠ 0) : x.tick.put.ac = ⟨x.wait, x.first, if x.due1 < x.top then max x.out x.top else x.out, if x.due1 < x.top then x.top else x.due1, if x.due1 < x.top ∧ x.out = 0 then 0 else x.ticks1⟩ ∧ x.tick.put.epoch = x.epoch ∧ x.tick.put.peer = x.peer ∧ x.tick.put.taken = x.taken ∧ x.tick.put.owes = false := by
  rw [tick_known hp]
  unfold LK.put LK.due1 LK.ticks1 LK.ac
  generalize hd : (if x.out ≠ 0 ∧ x.ticks = 2 then 0 else x.due) = d
  generalize ht : (if x.out = 0 then x.ticks else if x.ticks = 2 then 0 else x.ticks + 1) = t
  have htop : ({ x with ticks := t, due := d } : LK).top = x.top := rfl
  simp only [htop]
  by_cases c : x.top ≤ d
  · rw [if_pos (.inr c), if_neg (by omega), if_neg (by omega), if_neg (fun e => by omega)]
    exact ⟨rfl, rfl, rfl, rfl, rfl⟩
  · have hc : d < x.top := by omega
    have hn : ¬ (x.peer = 0 ∨ x.top ≤ d) := fun e => by rcases e with e | e; exact hp e; exact c e
    rw [if_neg hn]
    refine ⟨?_, rfl, rfl, rfl, rfl⟩
    by_cases c2 : x.out = 0 <;> simp [c2, hc]
theorem outs_known {x : LK} (hp : x.peer ≠ 0) : (x.tick.outs.map fun f => f.seq.toNat) = (if x.due1 < x.top then (List.range (x.top - x.due1)).map fun j => (x.first + x.due1) + j else if x.owes = true then [0] else []) ∧ ∀ f ∈ x.tick.outs, f.epoch = x.epoch ∧ f.peer = x.peer ∧ f.ack = x.taken := by
  rw [tick_known hp]
  unfold LK.due1
  generalize hd : (if x.out ≠ 0 ∧ x.ticks = 2 then 0 else x.due) = d
  generalize ht : (if x.out = 0 then x.ticks else if x.ticks = 2 then 0 else x.ticks + 1) = t
  have htop : ({ x with ticks := t, due := d } : LK).top = x.top := rfl
  constructor
  · unfold LK.outs LK.frames
    simp only [if_neg hp, htop]
    by_cases c : d < x.top
    · rw [if_pos c]
      have hne : ((List.range (x.top - d)).map fun j => ({ x with ticks := t, due := d } : LK).frame (d + j)) ≠ [] := fun e => by
        have := congrArg List.length e
        simp only [List.length_map, List.length_range, List.length_nil] at this
        omega
      rw [if_neg (fun e => hne e.1), List.map_map]
      refine List.map_congr_left fun j _ => ?_
      show ((x.first : Int) + ((d + j : Nat) : Int)).toNat = x.first + d + j
      omega
    · rw [if_neg c]
      have e0 : x.top - d = 0 := by omega
      rw [e0]
      simp only [List.range_zero, List.map_nil, true_and]
      by_cases o : x.owes = true
      · rw [if_pos o, if_pos o]; rfl
      · rw [if_neg o, if_neg o]; rfl
  · intro f hf
    rcases mem_outs hf with rfl | ⟨_, k, _, _, rfl⟩
    · exact ⟨rfl, rfl, rfl⟩
    · exact ⟨rfl, rfl, rfl⟩
def fr (y : LK) : Bool := !(y.tick.outs).isEmpty
theorem fr_owes {y : LK} (hp : y.peer ≠ 0) (h : y.owes = true) : fr y = true := by
  have h1 := (outs_known hp).1
  unfold fr
  cases ho : y.tick.outs with
  | nil =>
    rw [ho] at h1
    simp only [List.map_nil] at h1
    split at h1
    · have := congrArg List.length h1
      simp only [List.length_map, List.length_range, List.length_nil] at this
      omega
    · cases h1
  | cons f F => rfl
def frN (y : LK) : Nat := if fr y = true then 1 else 0
/-- What is left to do, for x, whose peer is y. -/
def phi (x y : LK) : Nat := phiN x.wait.length x.due x.ticks (y.taken + 1 - x.first) (frN y)
structure Two2 (x y : LK) : Prop where
  px : x.peer ≠ 0
  py : y.peer ≠ 0
  ep : (x.peer = y.epoch ∧ y.peer = x.epoch)
  one : 1 ≤ x.first
  lo : x.first ≤ y.taken + 1
  hi : y.taken + 1 ≤ x.first + x.out
  outw : x.out ≤ x.wait.length
  due : x.due ≤ x.out
  win : x.out ≤ 8
  tk : x.ticks ≤ 2
  most : x.wait.length ≤ 32
/-- Both ends behind a round. -/
theorem round_phi {x y : LK} (h : Two2 x y) (hx : ∀ f ∈ x.tick.outs, f.rightP) (hy : ∀ f ∈ y.tick.outs, f.rightP) :
    (phi (takeL x.tick.put y.tick.outs) (takeL y.tick.put x.tick.outs) < phi x y ∨ (x.wait.length = 0 ∧ (takeL x.tick.put y.tick.outs).wait.length = 0)) ∧ Two2 (takeL x.tick.put y.tick.outs) (takeL y.tick.put x.tick.outs) := by
  obtain ⟨hpx, hpy, ⟨hep1, hep2⟩, h1, h2, h3, h4, h5, h6, h7, h8⟩ := h
  obtain ⟨p1, p2, p3, p4, p5⟩ := put_known hpx
  obtain ⟨r1, r2, r3, r4, r5⟩ := put_known hpy
  obtain ⟨o1, o2⟩ := outs_known hpx
  obtain ⟨v1, v2⟩ := outs_known hpy
  obtain ⟨a1, a2, a3, a4, a5⟩ := takeL_known y.taken y.tick.outs x.tick.put (by rw [p3]; exact hpx) (fun f hf => by
    obtain ⟨q1, q2, q3⟩ := v2 f hf
    exact ⟨hy f hf, by rw [q1, p3, hep1], by rw [q2, p2, hep2], by rw [q3]; rfl⟩)
  obtain ⟨b1, b2, b3, b4, b5⟩ := takeL_known x.taken x.tick.outs y.tick.put (by rw [r3]; exact hpy) (fun f hf => by
    obtain ⟨q1, q2, q3⟩ := o2 f hf
    exact ⟨hx f hf, by rw [q1, r3, hep2], by rw [q2, r2, hep1], by rw [q3]; rfl⟩)
  rw [o1, r4] at b4
  have hb4 : (takeL y.tick.put x.tick.outs).taken = if x.due1 < x.top then (if x.first + x.due1 ≤ y.taken + 1 then max y.taken (x.first + x.top - 1) else y.taken) else y.taken := by
    rw [b4]
    by_cases c : x.due1 < x.top
    · rw [if_pos c, if_pos c, tk_run]
      have : x.first + x.due1 + (x.top - x.due1) - 1 = x.first + x.top - 1 := by omega
      rw [this]
    · rw [if_neg c, if_neg c]
      split
      · show tk y.taken 0 = y.taken
        unfold tk
        rw [if_neg (by omega)]
      · rfl
  have hb5 : x.due1 < x.top → fr (takeL y.tick.put x.tick.outs) = true := fun c => by
    refine fr_owes (by rw [b2, r3]; exact hpy) ?_
    rw [b5, r5, Bool.false_or, List.any_eq_true]
    rw [if_pos c] at o1
    have h0 : (x.first + x.due1) + 0 ∈ x.tick.outs.map fun f => f.seq.toNat := by
      rw [o1]
      exact List.mem_map.2 ⟨0, List.mem_range.2 (by omega), rfl⟩
    obtain ⟨f, hf, e⟩ := List.mem_map.1 h0
    exact ⟨f, hf, decide_eq_true (by omega)⟩
  have hfr : fr y = decide (y.tick.outs ≠ []) := by
    unfold fr
    cases y.tick.outs with
    | nil => rfl
    | cons f F => rfl
  have hXa : (takeL x.tick.put y.tick.outs).ac = if fr y = true then (x.tick.put.ac).ackd y.taken else x.tick.put.ac := by
    rw [a3, hfr]
    by_cases e : y.tick.outs = []
    · rw [if_pos e, if_neg (by simp [e])]
    · rw [if_neg e, if_pos (by simp [e])]
  rw [p1] at hXa
  have hpX : (takeL x.tick.put y.tick.outs).peer = x.peer := a2.trans p3
  have heX : (takeL x.tick.put y.tick.outs).epoch = x.epoch := a1.trans p2
  have hpY : (takeL y.tick.put x.tick.outs).peer = y.peer := b2.trans r3
  have heY : (takeL y.tick.put x.tick.outs).epoch = y.epoch := b1.trans r2
  clear a1 a2 a3 a4 a5 b1 b2 b3 b4 b5 p1 p2 p3 p4 p5 r1 r2 r3 r4 r5 o1 o2 v1 v2 hfr hx hy
  generalize takeL x.tick.put y.tick.outs = X at *
  generalize takeL y.tick.put x.tick.outs = Y at *
  have htop : x.top = min 8 x.wait.length := rfl
  rw [htop] at hXa hb4 hb5
  have ho2 : x.out ≤ if x.due1 < min 8 x.wait.length then max x.out (min 8 x.wait.length) else x.out := by split <;> omega
  have hfN : frN y ≤ 1 := by unfold frN; split <;> omega
  have hfN' : frN Y ≤ 1 := by unfold frN; split <;> omega
  have hc : (fr y = true ∧ x.first ≤ y.taken) ↔ (frN y = 1 ∧ 1 ≤ y.taken + 1 - x.first) := by
    unfold frN
    by_cases e : fr y = true
    · rw [if_pos e]; exact ⟨fun h => ⟨rfl, by have := h.2; omega⟩, fun h => ⟨e, by have := h.2; omega⟩⟩
    · rw [if_neg e]; exact ⟨fun h => absurd h.1 e, fun h => absurd h.1 (by decide)⟩
  have hnum : X.wait.length = (if frN y = 1 ∧ 1 ≤ y.taken + 1 - x.first then x.wait.length - (y.taken + 1 - x.first) else x.wait.length) ∧ X.first = (if frN y = 1 ∧ 1 ≤ y.taken + 1 - x.first then y.taken + 1 else x.first) ∧ X.out = (if frN y = 1 ∧ 1 ≤ y.taken + 1 - x.first then (if x.due1 < min 8 x.wait.length then max x.out (min 8 x.wait.length) else x.out) - (y.taken + 1 - x.first) else (if x.due1 < min 8 x.wait.length then max x.out (min 8 x.wait.length) else x.out)) ∧ X.due = (if frN y = 1 ∧ 1 ≤ y.taken + 1 - x.first then (if x.due1 < min 8 x.wait.length then min 8 x.wait.length else x.due1) - (y.taken + 1 - x.first) else (if x.due1 < min 8 x.wait.length then min 8 x.wait.length else x.due1)) ∧ X.ticks = (if frN y = 1 ∧ 1 ≤ y.taken + 1 - x.first then 0 else (if x.due1 < min 8 x.wait.length ∧ x.out = 0 then 0 else x.ticks1)) := by
    have k1 : X.wait = X.ac.wait := rfl
    have k2 : X.first = X.ac.first := rfl
    have k3 : X.out = X.ac.out := rfl
    have k4 : X.due = X.ac.due := rfl
    have k5 : X.ticks = X.ac.ticks := rfl
    rw [k1, k2, k3, k4, k5, hXa]
    by_cases e : frN y = 1 ∧ 1 ≤ y.taken + 1 - x.first
    · have e1 := hc.2 e
      rw [if_pos e1.1]
      unfold AC.ackd
      rw [if_pos ⟨e1.2, by show y.taken + 1 ≤ x.first + (if x.due1 < min 8 x.wait.length then max x.out (min 8 x.wait.length) else x.out); omega⟩, if_pos e, if_pos e, if_pos e, if_pos e, if_pos e]
      exact ⟨List.length_drop, rfl, rfl, rfl, rfl⟩
    · rw [if_neg e, if_neg e, if_neg e, if_neg e, if_neg e]
      by_cases e1 : fr y = true
      · rw [if_pos e1]
        unfold AC.ackd
        rw [if_neg (fun e2 => e (hc.1 ⟨e1, e2.1⟩))]
        exact ⟨rfl, rfl, rfl, rfl, rfl⟩
      · rw [if_neg e1]
        exact ⟨rfl, rfl, rfl, rfl, rfl⟩
  obtain ⟨n1, n2, n3, n4, n5⟩ := hnum
  have hT : Y.taken + 1 - X.first = if frN y = 1 ∧ 1 ≤ y.taken + 1 - x.first then (if x.due1 < min 8 x.wait.length then (if x.due1 ≤ y.taken + 1 - x.first then max (y.taken + 1 - x.first) (min 8 x.wait.length) else y.taken + 1 - x.first) else y.taken + 1 - x.first) - (y.taken + 1 - x.first) else (if x.due1 < min 8 x.wait.length then (if x.due1 ≤ y.taken + 1 - x.first then max (y.taken + 1 - x.first) (min 8 x.wait.length) else y.taken + 1 - x.first) else y.taken + 1 - x.first) := by
    rw [n2, hb4]
    by_cases e : frN y = 1 ∧ 1 ≤ y.taken + 1 - x.first
    · rw [if_pos e, if_pos e]
      by_cases c : x.due1 < min 8 x.wait.length
      · rw [if_pos c, if_pos c]
        by_cases d : x.first + x.due1 ≤ y.taken + 1
        · rw [if_pos d, if_pos (by omega)]; omega
        · rw [if_neg d, if_neg (by omega)]; omega
      · rw [if_neg c, if_neg c]; omega
    · rw [if_neg e, if_neg e]
      by_cases c : x.due1 < min 8 x.wait.length
      · rw [if_pos c, if_pos c]
        by_cases d : x.first + x.due1 ≤ y.taken + 1
        · rw [if_pos d, if_pos (by omega)]; omega
        · rw [if_neg d, if_neg (by omega)]
      · rw [if_neg c, if_neg c]
  have hYt : y.taken ≤ Y.taken := by
    rw [hb4]
    (repeat' split) <;> omega
  have hR := round_num (N := x.wait.length) (out := x.out) (due := x.due) (ticks := x.ticks) (t := y.taken + 1 - x.first) (fr := frN y) (d1 := x.due1) (t1 := x.ticks1) (fr' := frN Y) hfN hfN' (by omega) h4 h5 h6 h7 h8 rfl rfl rfl rfl rfl rfl n1 n3 n4 n5 hT (fun c => by unfold frN; rw [if_pos (hb5 c)])
  obtain ⟨m1, m2, m3, m4, m5, m6, m7⟩ := hR
  have hf1 : X.first ≤ Y.taken + 1 := by rw [n2]; split <;> omega
  have hf2 : 1 ≤ X.first := by rw [n2]; split <;> omega
  exact ⟨m1, ⟨by rw [hpX]; exact hpx, by rw [hpY]; exact hpy, ⟨by rw [hpX, heY]; exact hep1, by rw [hpY, heX]; exact hep2⟩, hf2, hf1, by omega, m3, m4, m5, m6, m7⟩⟩
end Go.Proofs.Ytiealipplckfnaa
