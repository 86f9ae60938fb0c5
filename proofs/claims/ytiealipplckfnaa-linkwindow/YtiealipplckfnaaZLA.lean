/-
  One end begins again: what holds of both, deed by deed; nothing of the program is in this text.
-/
import Derived.Test.YtiealipplckfnaaZL9
namespace Go.Proofs.Ytiealipplckfnaa

/-- The first end (false), the new one (true); what was sent at the first one, at the new one; what the new one was told, the first one of it. -/
structure AN where
  l : Bool → LK
  way : Bool → List FR
  sent : List ByteArray
  own : List ByteArray
  told : List ByteArray
  mine : List ByteArray
  first : Nat
  resets : Nat
/-- The first one did not hear of the new one yet: with the old one it is q, the new one with nobody is r. -/
structure PhA (x : AN) (q r : PR) : Prop where
  qa : @Inv Ep.a q
  rb : @Inv Ep.b r
  ql : q.l false = x.l false
  qs : q.sent false = x.sent
  rl : r.l true = x.l true
  re : (r.l false).epoch = 3
  rs : r.sent false = []
  ro : r.sent true = x.own
  rt : ∀ w, r.told w = []
  way0 : ∀ f ∈ x.way false, @FOK Ep.a q false f ∨ @FOK Ep.b r false f
  way1 : ∀ f ∈ x.way true, f.rightP ∧ f.epoch = 3 ∧ f.peer ≠ 9
  none : x.told = [] ∧ x.mine = [] ∧ x.resets = 0
/-- It did: both are s. -/
structure PhB (x : AN) (s : PR) : Prop where
  sb : @Inv Ep.b s
  sl : s.l = x.l
  sp : (x.l false).peer ≠ 0
  so : s.sent true = x.own
  sm : s.told false = x.mine
  st : s.told true = x.told
  ss : ∃ pre, x.sent = pre ++ s.sent false ∧ (0 < x.resets → pre.length = x.first)
  re : x.resets ≤ 1
  way0 : ∀ f ∈ x.way false, @FOK Ep.b s false f ∨ f.epoch < 9
  way1 : ∀ f ∈ x.way true, @FOK Ep.b s true f ∨ (f.rightP ∧ f.epoch = 3 ∧ f.peer ≠ 9)
def AI (x : AN) : Prop := (∃ q r, PhA x q r) ∨ ∃ s, PhB x s
def AN.send (x : AN) (w : Bool) (b : ByteArray) : AN := { x with l := set x.l w ((x.l w).send b).2, sent := if ((x.l w).send b).1 = 0 ∧ w = false then x.sent ++ [b] else x.sent, own := if ((x.l w).send b).1 = 0 ∧ w = true then x.own ++ [b] else x.own }
def AN.put (x : AN) (w : Bool) : AN := { x with l := set x.l w (x.l w).put, way := set x.way (!w) (x.way (!w) ++ (x.l w).outs) }
def AN.tick (x : AN) (w : Bool) : AN := { x with l := set x.l w (x.l w).tick }
def AN.take (x : AN) (w : Bool) (f : FR) : AN := { x with l := set x.l w ((x.l w).take f).2, resets := if ((x.l w).take f).1.2 = true then x.resets + 1 else x.resets, first := if ((x.l w).take f).1.2 = true then x.sent.length else x.first, told := if w = true then x.told ++ ((x.l w).take f).1.1 else x.told, mine := if w = false ∧ f.epoch = 9 then x.mine ++ ((x.l w).take f).1.1 else x.mine }
/-- What LinkAnew asks in the end. -/
theorem AI.fin {x : AN} (h : AI x) : x.resets ≤ 1 ∧ (0 < x.resets → x.told <+: x.sent.drop x.first) ∧ x.mine <+: x.own := by
  rcases h with ⟨q, r, h⟩ | ⟨s, h⟩
  · obtain ⟨e1, e2, e3⟩ := h.none
    refine ⟨by omega, fun e => by omega, ?_⟩
    rw [e2]
    exact List.nil_prefix
  · refine ⟨h.re, fun e => ?_, ?_⟩
    · obtain ⟨pre, e1, e2⟩ := h.ss
      rw [e1, ← e2 e, List.drop_left, ← h.st]
      exact @Inv.pre Ep.b s h.sb true
    · rw [← h.sm, ← h.so]
      exact @Inv.pre Ep.b s h.sb false
theorem tick_peer (l : LK) : l.tick.peer = l.peer := by
  unfold LK.tick
  by_cases e : l.peer = 0
  · simp only [if_pos e]
    (repeat' split) <;> first | exact e.symm | rfl
  · simp only [if_neg e]
    (repeat' split) <;> rfl
theorem put_peer (l : LK) : l.put.peer = l.peer := by
  unfold LK.put
  split <;> rfl
theorem send_peer (l : LK) (b : ByteArray) : (l.send b).2.peer = l.peer := by
  unfold LK.send
  (repeat' split) <;> rfl
theorem ai_tick {x : AN} (h : AI x) (w : Bool) : AI (x.tick w) := by
  rcases h with ⟨q, r, h⟩ | ⟨s, h⟩
  · refine .inl ?_
    cases w
    · obtain ⟨k1, k2⟩ := @tick_step Ep.a q h.qa false
      exact ⟨q.tk false, r, k1, h.rb, by show (q.l false).tick = (x.l false).tick; rw [h.ql], h.qs, h.rl, h.re, h.rs, h.ro, h.rt, fun f hf => (h.way0 f hf).imp (k2 false f) id, h.way1, h.none⟩
    · obtain ⟨k1, k2⟩ := @tick_step Ep.b r h.rb true
      exact ⟨q, r.tk true, h.qa, k1, h.ql, h.qs, by show (r.l true).tick = (x.l true).tick; rw [h.rl], h.re, h.rs, h.ro, h.rt, fun f hf => (h.way0 f hf).imp id (k2 false f), h.way1, h.none⟩
  · refine .inr ?_
    obtain ⟨k1, k2⟩ := @tick_step Ep.b s h.sb w
    refine ⟨s.tk w, k1, by show set s.l w (s.l w).tick = set x.l w (x.l w).tick; rw [h.sl], ?_, h.so, h.sm, h.st, h.ss, h.re, fun f hf => (h.way0 f hf).imp (k2 false f) id, fun f hf => (h.way1 f hf).imp (k2 true f) id⟩
    cases w
    · show (x.l false).tick.peer ≠ 0
      rw [tick_peer]
      exact h.sp
    · exact h.sp
theorem ai_put {x : AN} (h : AI x) (w : Bool) : AI (x.put w) := by
  rcases h with ⟨q, r, h⟩ | ⟨s, h⟩
  · refine .inl ?_
    cases w
    · obtain ⟨k1, k2, k3⟩ := @put_step Ep.a q h.qa false
      refine ⟨q.ptt false, r, k1, h.rb, by show (q.l false).put = (x.l false).put; rw [h.ql], h.qs, h.rl, h.re, h.rs, h.ro, h.rt, fun f hf => (h.way0 f hf).imp (k2 false f) id, fun f hf => ?_, h.none⟩
      have hf2 : f ∈ x.way true ++ (x.l false).outs := hf
      rcases List.mem_append.1 hf2 with e | e
      · exact h.way1 f e
      · have k4 := k3 f (by rw [h.ql]; exact e)
        refine ⟨@FOK.right Ep.a _ k1 _ f k4, @FOK.epoch Ep.a _ _ f k4, fun e9 => ?_⟩
        rcases @FOK.peer Ep.a _ _ f k4 with e2 | e2
        · rw [e2] at e9; omega
        · have e3 : f.peer = 5 := e2
          omega
    · obtain ⟨k1, k2, k3⟩ := @put_step Ep.b r h.rb true
      refine ⟨q, r.ptt true, h.qa, k1, h.ql, h.qs, by show (r.l true).put = (x.l true).put; rw [h.rl], h.re, h.rs, h.ro, h.rt, fun f hf => ?_, h.way1, h.none⟩
      have hf2 : f ∈ x.way false ++ (x.l true).outs := hf
      rcases List.mem_append.1 hf2 with e | e
      · exact (h.way0 f e).imp id (k2 false f)
      · exact .inr (k3 f (by rw [h.rl]; exact e))
  · refine .inr ?_
    obtain ⟨k1, k2, k3⟩ := @put_step Ep.b s h.sb w
    refine ⟨s.ptt w, k1, by show set s.l w (s.l w).put = set x.l w (x.l w).put; rw [h.sl], ?_, h.so, h.sm, h.st, h.ss, h.re, fun f hf => ?_, fun f hf => ?_⟩
    · cases w
      · show (x.l false).put.peer ≠ 0
        rw [put_peer]
        exact h.sp
      · exact h.sp
    · cases w
      · exact (h.way0 f hf).imp (k2 false f) id
      · have hf2 : f ∈ x.way false ++ (x.l true).outs := hf
        rcases List.mem_append.1 hf2 with e | e
        · exact (h.way0 f e).imp (k2 false f) id
        · exact .inl (k3 f (by rw [h.sl]; exact e))
    · cases w
      · have hf2 : f ∈ x.way true ++ (x.l false).outs := hf
        rcases List.mem_append.1 hf2 with e | e
        · exact (h.way1 f e).imp (k2 true f) id
        · exact .inl (k3 f (by rw [h.sl]; exact e))
      · exact (h.way1 f hf).imp (k2 true f) id
theorem ai_send {x : AN} (h : AI x) (w : Bool) (b : ByteArray) (hm : x.sent.length < 1000000) (hn : x.own.length < 1000000) : AI (x.send w b) := by
  rcases h with ⟨q, r, h⟩ | ⟨s, h⟩
  · refine .inl ?_
    cases w
    · obtain ⟨k1, k2⟩ := @send_step Ep.a q h.qa false b (by rw [h.qs]; exact hm)
      refine ⟨q.snd false b, r, k1, h.rb, by show ((q.l false).send b).2 = ((x.l false).send b).2; rw [h.ql], ?_, h.rl, h.re, h.rs, ?_, h.rt, fun f hf => (h.way0 f hf).imp (k2 false f) id, h.way1, h.none⟩
      · show (if ((q.l false).send b).1 = 0 then set q.sent false (q.sent false ++ [b]) else q.sent) false = if ((x.l false).send b).1 = 0 ∧ false = false then x.sent ++ [b] else x.sent
        rw [h.ql, ← h.qs]
        by_cases e : ((x.l false).send b).1 = 0
        · rw [if_pos e, if_pos ⟨e, rfl⟩]; rfl
        · rw [if_neg e, if_neg (fun e2 => e e2.1)]
      · show r.sent true = if ((x.l false).send b).1 = 0 ∧ false = true then x.own ++ [b] else x.own
        rw [if_neg (fun e2 => by cases e2.2)]
        exact h.ro
    · obtain ⟨k1, k2⟩ := @send_step Ep.b r h.rb true b (by rw [h.ro]; exact hn)
      refine ⟨q, r.snd true b, h.qa, k1, h.ql, ?_, by show ((r.l true).send b).2 = ((x.l true).send b).2; rw [h.rl], h.re, ?_, ?_, h.rt, fun f hf => (h.way0 f hf).imp id (k2 false f), h.way1, h.none⟩
      · show q.sent false = if ((x.l true).send b).1 = 0 ∧ true = false then x.sent ++ [b] else x.sent
        rw [if_neg (fun e2 => by cases e2.2)]
        exact h.qs
      · show (if ((r.l true).send b).1 = 0 then set r.sent true (r.sent true ++ [b]) else r.sent) false = []
        split
        · exact h.rs
        · exact h.rs
      · show (if ((r.l true).send b).1 = 0 then set r.sent true (r.sent true ++ [b]) else r.sent) true = if ((x.l true).send b).1 = 0 ∧ true = true then x.own ++ [b] else x.own
        rw [h.rl, ← h.ro]
        by_cases e : ((x.l true).send b).1 = 0
        · rw [if_pos e, if_pos ⟨e, rfl⟩]; rfl
        · rw [if_neg e, if_neg (fun e2 => e e2.1)]
  · refine .inr ?_
    obtain ⟨pre, e1, e2⟩ := h.ss
    have hle : (s.sent false).length ≤ x.sent.length := by rw [e1, List.length_append]; omega
    obtain ⟨k1, k2⟩ := @send_step Ep.b s h.sb w b (by
      cases w with
      | false => omega
      | true => rw [h.so]; exact hn)
    refine ⟨s.snd w b, k1, by show set s.l w ((s.l w).send b).2 = set x.l w ((x.l w).send b).2; rw [h.sl], ?_, ?_, h.sm, h.st, ⟨pre, ?_, e2⟩, h.re, fun f hf => (h.way0 f hf).imp (k2 false f) id, fun f hf => (h.way1 f hf).imp (k2 true f) id⟩
    · cases w
      · show ((x.l false).send b).2.peer ≠ 0
        rw [send_peer]
        exact h.sp
      · exact h.sp
    · show (if ((s.l w).send b).1 = 0 then set s.sent w (s.sent w ++ [b]) else s.sent) true = if ((x.l w).send b).1 = 0 ∧ w = true then x.own ++ [b] else x.own
      rw [h.sl, ← h.so]
      by_cases e : ((x.l w).send b).1 = 0
      · rw [if_pos e]
        cases w
        · rw [if_neg (fun e2 => by cases e2.2)]; rfl
        · rw [if_pos ⟨e, rfl⟩]; rfl
      · rw [if_neg e, if_neg (fun e2 => e e2.1)]
    · show (if ((x.l w).send b).1 = 0 ∧ w = false then x.sent ++ [b] else x.sent) = pre ++ (if ((s.l w).send b).1 = 0 then set s.sent w (s.sent w ++ [b]) else s.sent) false
      rw [h.sl, e1]
      by_cases e : ((x.l w).send b).1 = 0
      · rw [if_pos e]
        cases w
        · rw [if_pos ⟨e, rfl⟩, List.append_assoc]; rfl
        · rw [if_neg (fun e2 => by cases e2.2)]; rfl
      · rw [if_neg e, if_neg (fun e2 => e e2.1)]
end Go.Proofs.Ytiealipplckfnaa
