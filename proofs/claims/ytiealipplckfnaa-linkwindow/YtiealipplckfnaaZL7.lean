/-
  Rounds: all that was sent is told; nothing of the program is in this text.
-/
import Derived.Test.YtiealipplckfnaaZL6
namespace Go.Proofs.Ytiealipplckfnaa
set_option linter.unusedSectionVars false
variable [Ep]

def PR.tk (p : PR) (w : Bool) : PR := { p with l := set p.l w (p.l w).tick }
def PR.pt (p : PR) (w : Bool) : PR := { p with l := set p.l w (p.l w).put, way := set p.way (!w) (p.way (!w) ++ (p.l w).outs) }
/-- The first frame on the way comes. -/
def PR.one (p : PR) (w : Bool) (f : FR) (fs : List FR) : PR := { p with way := set p.way w fs, l := set p.l w ((p.l w).take f).2, told := set p.told w (p.told w ++ ((p.l w).take f).1.1) }
/-- All that are on the way come. -/
def PR.all (p : PR) (w : Bool) : List FR → PR
  | [] => p
  | f :: fs => PR.all (p.one w f fs) w fs
def PR.round (p : PR) : PR :=
  let a := (((p.tk false).pt false).tk true).pt true
  let c := a.all false (a.way false)
  c.all true (c.way true)
theorem inv_one {p : PR} (h : Inv p) {w : Bool} {f : FR} {fs : List FR} (hw : p.way w = f :: fs) : Inv (p.one w f fs) ∧ ((p.l w).take f).1.2 = false := by
  have hf := h.frames w f (by rw [hw]; exact List.mem_cons_self)
  have h1 : Inv { p with way := set p.way w fs } := by
    have := inv_lose h w 0
    rw [hw] at this
    simpa using this
  have h2 := take_of h1 (w := w) (f := f) ⟨hf.epoch, hf.peer, hf.ack, hf.seq⟩
  exact ⟨h2.2, h2.1⟩
theorem inv_all : ∀ {fs : List FR} {p : PR} {w : Bool}, Inv p → p.way w = fs → Inv (p.all w fs) ∧ (p.all w fs).way = set p.way w [] ∧ (p.all w fs).sent = p.sent ∧ (p.all w fs).l = set p.l w (takeL (p.l w) fs)
  | [], p, w, h, hw => by
    refine ⟨h, ?_, rfl, ?_⟩
    · show p.way = _
      rw [← hw, set_id]
    · show p.l = _
      exact (set_id p.l w).symm
  | f :: fs, p, w, h, hw => by
    have h1 := (inv_one h hw).1
    obtain ⟨i1, i2, i3, i4⟩ := inv_all (fs := fs) (p := p.one w f fs) (w := w) h1 (set_same _ _ _)
    refine ⟨i1, ?_, i3, ?_⟩
    · show (PR.all (p.one w f fs) w fs).way = _
      rw [i2]
      exact set_set _ _ _ _
    · show (PR.all (p.one w f fs) w fs).l = _
      rw [i4]
      show set (set p.l w ((p.l w).take f).2) w (takeL ((set p.l w ((p.l w).take f).2) w) fs) = _
      rw [set_set, set_same]
      rfl
theorem round_of {p : PR} (h : Inv p) : Inv p.round ∧ (∀ w, p.round.way w = []) ∧ p.round.sent = p.sent ∧ p.round.l false = takeL (p.l false).tick.put (p.way false ++ (p.l true).tick.outs) ∧ p.round.l true = takeL (p.l true).tick.put (p.way true ++ (p.l false).tick.outs) := by
  have h1 := inv_put (inv_tick (inv_put (inv_tick h false) false) true) true
  have ha : Inv ((((p.tk false).pt false).tk true).pt true) := h1
  generalize haE : (((p.tk false).pt false).tk true).pt true = a at *
  have wf : a.way false = p.way false ++ (p.l true).tick.outs := by rw [← haE]; rfl
  have wt : a.way true = p.way true ++ (p.l false).tick.outs := by rw [← haE]; rfl
  have lf : a.l false = (p.l false).tick.put := by rw [← haE]; rfl
  have lt : a.l true = (p.l true).tick.put := by rw [← haE]; rfl
  have sa : a.sent = p.sent := by rw [← haE]; rfl
  obtain ⟨i1, i2, i3, i4⟩ := inv_all (fs := a.way false) ha rfl
  generalize hcE : a.all false (a.way false) = c at *
  obtain ⟨j1, j2, j3, j4⟩ := inv_all (fs := c.way true) i1 rfl
  have hround : p.round = c.all true (c.way true) := by
    unfold PR.round
    simp only [haE, hcE]
  rw [hround]
  have wct : c.way true = a.way true := by rw [i2]; rfl
  refine ⟨j1, fun w => ?_, by rw [j3, i3, sa], ?_, ?_⟩
  · rw [j2]
    cases w with
    | false => show c.way false = []; rw [i2]; rfl
    | true => rfl
  · rw [j4]
    show c.l false = _
    rw [i4]
    show takeL (a.l false) (a.way false) = _
    rw [lf, wf]
  · rw [j4]
    show takeL (c.l true) (c.way true) = _
    rw [wct, i4]
    show takeL (a.l true) (a.way true) = _
    rw [lt, wt]
/-- Frames that come leave an end knowing whom it knows. -/
theorem take_peer (l : LK) (f : FR) (h : l.peer ≠ 0) : (l.take f).2.peer ≠ 0 := by
  unfold LK.take
  split
  · exact h
  · have hh : (l.hear f.epoch.toNat).2.peer ≠ 0 := by
      unfold LK.hear
      by_cases e1 : f.epoch.toNat ≤ l.peer
      · rw [if_pos e1]; exact h
      · rw [if_neg e1, if_neg h]
        show f.epoch.toNat ≠ 0
        omega
    simp only
    split
    · exact hh
    · obtain ⟨_, _, g3, _, _⟩ := get_ac ((l.hear f.epoch.toNat).2.ackd f.ack.toNat) f.seq.toNat f.body
      obtain ⟨_, _, a3, _, _⟩ := ackd_ac (l.hear f.epoch.toNat).2 f.ack.toNat
      rw [g3, a3]
      exact hh
theorem takeL_peer (l : LK) (fs : List FR) (h : l.peer ≠ 0) : (takeL l fs).peer ≠ 0 := by
  induction fs generalizing l with
  | nil => exact h
  | cons f fs ih => exact ih _ (take_peer l f h)
/-- A right frame makes its sender known. -/
theorem take_hears (l : LK) (f : FR) (hr : f.rightP) (he : ¬ f.epoch < l.peer) : (l.take f).2.peer ≠ 0 := by
  have h1 := hr.1
  unfold LK.take
  rw [if_neg (fun e => by rcases e with e | e; exact e hr; exact he e)]
  have hh : (l.hear f.epoch.toNat).2.peer ≠ 0 := by
    unfold LK.hear
    by_cases e1 : f.epoch.toNat ≤ l.peer
    · rw [if_pos e1]
      show l.peer ≠ 0
      omega
    · rw [if_neg e1]
      by_cases e2 : l.peer = 0
      · rw [if_pos e2]; show f.epoch.toNat ≠ 0; omega
      · rw [if_neg e2]; show f.epoch.toNat ≠ 0; omega
  simp only
  split
  · exact hh
  · obtain ⟨_, _, g3, _, _⟩ := get_ac ((l.hear f.epoch.toNat).2.ackd f.ack.toNat) f.seq.toNat f.body
    obtain ⟨_, _, a3, _, _⟩ := ackd_ac (l.hear f.epoch.toNat).2 f.ack.toNat
    rw [g3, a3]
    exact hh
theorem takeL_append (l : LK) (a b : List FR) : takeL l (a ++ b) = takeL (takeL l a) b := List.foldl_append
theorem ep_lt (p : PR) (h : Inv p) (w : Bool) : (p.l w).peer = 0 ∨ (p.l w).peer = ep (!w) := h.peer w
/-- What an end that knows nobody puts out. -/
theorem outs_deaf {x : LK} (hp : x.peer = 0) (ho : x.out = 0) : x.tick.outs = [x.tick.bare] ∧ x.tick.bare.peer = 0 ∧ x.tick.bare.epoch = x.epoch ∧ x.tick.peer = 0 := by
  have e : x.tick = { x with owes := true } := by
    unfold LK.tick
    simp only [if_pos hp]
    rw [if_pos ho]
  rw [e]
  refine ⟨?_, ?_, rfl, hp⟩
  · unfold LK.outs LK.frames
    simp only [if_pos hp]
    rfl
  · show (x.peer : Int) = 0
    rw [hp]; rfl
/-- A frame to another epoch leaves it owing. -/
theorem take_owes (l : LK) (f : FR) (hr : f.rightP) (he : ¬ f.epoch < l.peer) (hp : f.peer ≠ l.epoch) : (l.take f).2.owes = true := by
  unfold LK.take
  rw [if_neg (fun e => by rcases e with e | e; exact e hr; exact he e)]
  have hh : (l.hear f.epoch.toNat).2.epoch = l.epoch := by
    unfold LK.hear
    by_cases e1 : f.epoch.toNat ≤ l.peer
    · rw [if_pos e1]
    · rw [if_neg e1]
      by_cases e2 : l.peer = 0
      · rw [if_pos e2]
      · rw [if_neg e2]
  simp only [hh]
  rw [if_pos hp]
/-- The round's ends, by which one. -/
theorem round_l {p : PR} (h : Inv p) (w : Bool) : p.round.l w = takeL (p.l w).tick.put (p.way w ++ (p.l (!w)).tick.outs) := by
  obtain ⟨_, _, _, h1, h2⟩ := round_of h
  cases w with
  | false => exact h1
  | true => exact h2
theorem tickput_peer {p : PR} (h : Inv p) (w : Bool) : (p.l w).tick.put.peer = (p.l w).peer := by
  have h1 := inv_tick h w
  obtain ⟨_, q2, _⟩ := put_out (p.l w).tick (by have := h1.outw w; simpa [set_same] using this) (by have := h1.due w; simpa [set_same] using this) (by have := h1.win w; simpa [set_same] using this)
  rw [q2]
  unfold LK.tick
  by_cases c : (p.l w).peer = 0
  · simp only [if_pos c]
    by_cases d : (p.l w).out = 0
    · rw [if_pos d]
    · rw [if_neg d]; split <;> rfl
  · simp only [if_neg c]
    by_cases d : (p.l w).out = 0
    · rw [if_pos d]
    · rw [if_neg d]; split <;> rfl
/-- Frames of the other end, in a round, are right, and not of an elder epoch. -/
theorem round_frames {p : PR} (h : Inv p) (w : Bool) {f : FR} (hf : f ∈ p.way w ++ (p.l (!w)).tick.outs) : f.rightP ∧ f.epoch = ep (!w) := by
  rcases List.mem_append.1 hf with e | e
  · have := h.frames w f e
    exact ⟨this.right h, this.epoch⟩
  · have h1 := inv_put (inv_tick h (!w)) (!w)
    have hm := h1.frames w f (by
      show f ∈ set p.way (!(!w)) (p.way (!(!w)) ++ ((set p.l (!w) (p.l (!w)).tick) (!w)).outs) w
      rw [Bool.not_not, set_same, set_same]
      exact List.mem_append_right _ e)
    exact ⟨hm.right h1, hm.epoch⟩
theorem round_keeps {p : PR} (h : Inv p) (w : Bool) (hk : (p.l w).peer ≠ 0) : (p.round.l w).peer ≠ 0 := by
  rw [round_l h w]
  exact takeL_peer _ _ (by rw [tickput_peer h w]; exact hk)
/-- Whoever hears anything knows its peer. -/
theorem round_hears {p : PR} (h : Inv p) (w : Bool) (hne : p.way w ++ (p.l (!w)).tick.outs ≠ []) : (p.round.l w).peer ≠ 0 := by
  rw [round_l h w]
  cases hF : p.way w ++ (p.l (!w)).tick.outs with
  | nil => exact absurd hF hne
  | cons f fs =>
    obtain ⟨hr, he⟩ := round_frames h w (f := f) (by rw [hF]; exact List.mem_cons_self)
    have hp : (p.l w).tick.put.peer = (p.l w).peer := tickput_peer h w
    show (takeL ((p.l w).tick.put.take f).2 fs).peer ≠ 0
    refine takeL_peer _ _ (take_hears _ f hr ?_)
    rw [hp, he]
    have := h.peer w
    have := ep_pos (!w)
    rcases h.peer w with e | e <;> omega
/-- An end, behind what was on the way to it. -/
theorem mid_of {p : PR} (h : Inv p) (v : Bool) : ∃ r : PR, Inv r ∧ r.l v = takeL (p.l v).tick.put (p.way v) := by
  have h1 := inv_put (inv_tick h v) v
  have hq : Inv ((p.tk v).pt v) := h1
  have hw : ((p.tk v).pt v).way v = p.way v := by
    show set p.way (!v) _ v = p.way v
    exact set_other' _ _ _
  have hl : ((p.tk v).pt v).l v = (p.l v).tick.put := by
    show set (set p.l v (p.l v).tick) v (set p.l v (p.l v).tick v).put v = _
    rw [set_same, set_same]
  obtain ⟨i1, _, _, i4⟩ := inv_all (fs := p.way v) hq hw
  exact ⟨_, i1, by rw [i4, set_same, hl]⟩
theorem outs_owes {x : LK} (hm : x.peer = 0 → x.out = 0) (ho : x.owes = true) : x.tick.outs ≠ [] := by
  by_cases hp : x.peer = 0
  · rw [(outs_deaf hp (hm hp)).1]
    exact List.cons_ne_nil _ _
  · have := fr_owes hp ho
    unfold fr at this
    intro e
    rw [e] at this
    exact absurd this (by decide)
/-- Behind two rounds both know one another. -/
theorem known_two {p : PR} (h : Inv p) (w : Bool) : (p.round.round.l w).peer ≠ 0 := by
  have h1 := (round_of h).1
  by_cases hk : (p.round.l w).peer ≠ 0
  · exact round_keeps h1 w hk
  · have hp0 : (p.l w).peer = 0 := Classical.byContradiction fun e => hk (round_keeps h w e)
    obtain ⟨o1, o2, o3, _⟩ := outs_deaf hp0 (h.mute w hp0)
    have hown : (p.round.l (!w)).owes = true := by
      rw [round_l h (!w), Bool.not_not, o1, takeL_append]
      obtain ⟨hr, _⟩ := round_frames h (!w) (f := (p.l w).tick.bare) (by rw [Bool.not_not, o1]; exact List.mem_append_right _ List.mem_cons_self)
      obtain ⟨r, hi, hl⟩ := mid_of h (!w)
      have he := hi.ep (!w)
      have hp := hi.peer (!w)
      rw [Bool.not_not] at hp
      rw [hl] at he hp
      have hpw := ep_pos (!w)
      have hpp := ep_pos w
      have hew := h.ep w
      show ((takeL (p.l (!w)).tick.put (p.way (!w))).take (p.l w).tick.bare).2.owes = true
      refine take_owes _ _ hr ?_ ?_
      · rw [o3, hew]
        rcases hp with e | e <;> omega
      · rw [o2, he]
        omega
    refine round_hears h1 w ?_
    intro e
    exact outs_owes (h1.mute (!w)) hown (List.append_eq_nil_iff.1 e).2
/-- Rounds. -/
def PR.rounds (p : PR) : Nat → PR
  | 0 => p
  | n + 1 => (p.rounds n).round
theorem inv_rounds {p : PR} (h : Inv p) (n : Nat) : Inv (p.rounds n) := by
  induction n with
  | zero => exact h
  | succ n ih => exact (round_of ih).1
theorem sent_rounds {p : PR} (h : Inv p) (n : Nat) : (p.rounds n).sent = p.sent := by
  induction n with
  | zero => rfl
  | succ n ih => exact (round_of (inv_rounds h n)).2.2.1.trans ih
/-- Two ends that know one another, and nothing on the way. -/
theorem two2_of {p : PR} (h : Inv p) (hk : ∀ w, (p.l w).peer ≠ 0) (w : Bool) : Two2 (p.l w) (p.l (!w)) := by
  have hp : ∀ v, (p.l v).peer = ep (!v) := fun v => by
    rcases h.peer v with e | e
    · exact absurd e (hk v)
    · exact e
  refine ⟨hk w, hk (!w), ⟨by rw [hp w, h.ep (!w)], by rw [hp (!w), h.ep w, Bool.not_not]⟩, h.one w, ?_, ?_, h.outw w, h.due w, h.win w, h.tks w, h.most w⟩
  · have := h.ackd w
    have := h.took (!w)
    omega
  · have := h.put w
    have := h.took (!w)
    omega
theorem round_less {p : PR} (h : Inv p) (hk : ∀ w, (p.l w).peer ≠ 0) (hw : ∀ w, p.way w = []) (w : Bool) : phi (p.round.l w) (p.round.l (!w)) < phi (p.l w) (p.l (!w)) ∨ ((p.l w).wait.length = 0 ∧ (p.round.l w).wait.length = 0) := by
  have hx : ∀ f ∈ (p.l w).tick.outs, f.rightP := fun f hf => (round_frames h (!w) (f := f) (by rw [Bool.not_not]; exact List.mem_append_right _ hf)).1
  have hy : ∀ f ∈ (p.l (!w)).tick.outs, f.rightP := fun f hf => (round_frames h w (f := f) (List.mem_append_right _ hf)).1
  have := (round_phi (two2_of h hk w) hx hy).1
  rw [round_l h w, round_l h (!w), hw w, hw (!w), Bool.not_not, List.nil_append, List.nil_append]
  exact this
theorem phi_le (x y : LK) (h1 : x.wait.length ≤ 32) (_h2 : x.ticks ≤ 2) : phi x y ≤ 76 := by
  unfold phi phiN
  (repeat' split) <;> omega
theorem phi_zero {x y : LK} (h2 : x.ticks ≤ 2) (h : phi x y = 0) : x.wait.length = 0 := by
  unfold phi phiN at h
  refine Classical.byContradiction fun e => ?_
  rw [if_neg e] at h
  revert h
  (repeat' split) <;> omega
/-- Behind enough rounds nothing waits. -/
theorem none_waits {p : PR} (h : Inv p) (n : Nat) (w : Bool) : ((p.rounds (2 + n)).l w).wait.length = 0 ∨ phi ((p.rounds (2 + n)).l w) ((p.rounds (2 + n)).l (!w)) + n ≤ 76 := by
  have hk : ∀ n v, ((p.rounds (2 + n)).l v).peer ≠ 0 := fun n v => by
    induction n with
    | zero => exact known_two h v
    | succ n ih => exact round_keeps (inv_rounds h (2 + n)) v ih
  have hway : ∀ n v, (p.rounds (2 + n)).way v = [] := fun n v => by
    have e : p.rounds (2 + n) = (p.rounds (1 + n)).round := by
      have : 2 + n = (1 + n) + 1 := by omega
      rw [this]; rfl
    rw [e]
    exact (round_of (inv_rounds h (1 + n))).2.1 v
  induction n with
  | zero => exact .inr (phi_le _ _ ((inv_rounds h 2).most w) ((inv_rounds h 2).tks w))
  | succ n ih =>
    have e : p.rounds (2 + (n + 1)) = (p.rounds (2 + n)).round := rfl
    rw [e]
    have hi := inv_rounds h (2 + n)
    rcases round_less hi (hk n) (hway n) w with hl | ⟨_, hz⟩
    · rcases ih with hz | hb
      · have h0 : phi ((p.rounds (2 + n)).l w) ((p.rounds (2 + n)).l (!w)) = 0 := by
          unfold phi phiN
          rw [if_pos hz]
        omega
      · exact .inr (by omega)
    · exact .inl hz
theorem all_told_n {p : PR} (h : Inv p) (n : Nat) (hn : 77 ≤ n) (w : Bool) : ((p.rounds (2 + n)).l w).wait.length = 0 ∧ ((p.rounds (2 + n)).told (!w)).length = ((p.rounds (2 + n)).sent w).length := by
  have hi := inv_rounds h (2 + n)
  have hz : ((p.rounds (2 + n)).l w).wait.length = 0 := by
    rcases none_waits h n w with e | e
    · exact e
    · omega
  refine ⟨hz, ?_⟩
  have h1 := hi.len w
  have h2 := hi.ackd w
  have h3 := (hi.pre (!w)).length_le
  rw [Bool.not_not] at h3
  omega
/-- Enough rounds, in which all that goes out comes: each end told all that was sent at the other one. -/
theorem all_told {p : PR} (h : Inv p) (m : Nat) (hm : 79 ≤ m) (w : Bool) : ((p.rounds m).l w).wait.length = 0 ∧ ((p.rounds m).told (!w)).length = ((p.rounds m).sent w).length := by
  have e : m = 2 + (m - 2) := by omega
  rw [e]
  exact all_told_n h (m - 2) (by omega) w
end Go.Proofs.Ytiealipplckfnaa
