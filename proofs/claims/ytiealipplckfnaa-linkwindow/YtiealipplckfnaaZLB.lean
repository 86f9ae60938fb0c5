/-
  A frame comes, at two ends of which one began again; nothing of the program is in this text.
-/
import Derived.Test.YtiealipplckfnaaZLA
namespace Go.Proofs.Ytiealipplckfnaa

/-- A frame of the known peer, or of the first one heard of, to another epoch. -/
theorem take_stale {l : LK} {f : FR} {e : Nat} (hr : f.rightP) (he : f.epoch = e) (hp : l.peer = 0 ∨ l.peer = e) (ht : l.peer = 0 → l.taken = 0) (hn : f.peer ≠ l.epoch) : l.take f = (([], false), { l with peer := e, owes := true }) := by
  have h1 := hr.1
  have hh : l.hear f.epoch.toNat = (false, { l with peer := e }) := by
    have e1 : f.epoch.toNat = e := by omega
    rw [e1]
    unfold LK.hear
    rcases hp with e2 | e2
    · rw [if_neg (by omega), if_pos e2, ← ht e2]
    · rw [if_pos (by omega), ← e2]
  unfold LK.take
  rw [if_neg (fun c => by rcases c with c | c; exact c hr; rcases hp with e2 | e2 <;> omega), hh]
  exact if_pos hn
/-- A frame of an elder epoch. -/
theorem take_elder {l : LK} {f : FR} (h : f.epoch < l.peer) : l.take f = (([], false), l) := by
  unfold LK.take
  exact if_pos (.inr h)
theorem an_take_quiet {x : AN} {w : Bool} {f : FR} (h : (x.l w).take f = (([], false), ((x.l w).take f).2)) : x.take w f = { x with l := set x.l w ((x.l w).take f).2 } := by
  unfold AN.take
  have e1 : ((x.l w).take f).1.2 = false := by rw [h]
  have e2 : ((x.l w).take f).1.1 = [] := by rw [h]
  rw [e1, e2]
  simp only [List.append_nil, ite_self, Bool.false_eq_true, if_false]
theorem ai_take_new {x : AN} (h : AI x) {f : FR} (hf : f ∈ x.way true) : AI (x.take true f) ∧ ((x.l true).take f).1.2 = false := by
  rcases h with ⟨q, r, h⟩ | ⟨s, h⟩
  · obtain ⟨hr, he, hp⟩ := h.way1 f hf
    have hq := @Inv.peer Ep.b r h.rb true
    have hk := @Inv.took Ep.b r h.rb true
    have hE := @Inv.ep Ep.b r h.rb true
    rw [h.rl] at hq hk hE
    have hE9 : (x.l true).epoch = 9 := hE
    have e1 : (x.l true).take f = (([], false), { x.l true with peer := 3, owes := true }) := take_stale hr he hq (fun _ => by rw [hk, h.rt]; rfl) (by rw [hE9]; exact hp)
    refine ⟨?_, by rw [e1]⟩
    rw [an_take_quiet (by rw [e1]), e1]
    obtain ⟨k1, k2⟩ := @stale_step Ep.b r h.rb true
    exact .inl ⟨q, @PR.stale Ep.b r true, h.qa, k1, h.ql, h.qs, by show ({ r.l true with peer := 3, owes := true } : LK) = { x.l true with peer := 3, owes := true }; rw [h.rl], h.re, h.rs, h.ro, h.rt, fun g hg => (h.way0 g hg).imp id (k2 false g), h.way1, h.none⟩
  · rcases h.way1 f hf with hF | ⟨hr, he, hp⟩
    · obtain ⟨k0, k1, k2⟩ := @take_step Ep.b s h.sb true f hF
      rw [h.sl] at k0
      refine ⟨.inr ⟨s.tke true f, k1, by show set s.l true ((s.l true).take f).2 = set x.l true ((x.l true).take f).2; rw [h.sl], h.sp, h.so, ?_, ?_, ?_, ?_, fun g hg => (h.way0 g hg).imp (k2 false g) id, fun g hg => (h.way1 g hg).imp (k2 true g) id⟩, k0⟩
      · show s.told false = if true = false ∧ f.epoch = 9 then x.mine ++ ((x.l true).take f).1.1 else x.mine
        rw [if_neg (fun e => by cases e.1)]
        exact h.sm
      · show s.told true ++ ((s.l true).take f).1.1 = if true = true then x.told ++ ((x.l true).take f).1.1 else x.told
        rw [if_pos rfl, h.st, h.sl]
      · show ∃ pre, x.sent = pre ++ s.sent false ∧ (0 < (if ((x.l true).take f).1.2 = true then x.resets + 1 else x.resets) → pre.length = if ((x.l true).take f).1.2 = true then x.sent.length else x.first)
        rw [k0]
        exact h.ss
      · show (if ((x.l true).take f).1.2 = true then x.resets + 1 else x.resets) ≤ 1
        rw [k0]
        exact h.re
    · have hq := @Inv.peer Ep.b s h.sb true
      have hE := @Inv.ep Ep.b s h.sb true
      have hk := @Inv.took Ep.b s h.sb true
      have hd := @Inv.deaf Ep.b s h.sb true
      rw [h.sl] at hq hE hk hd
      have hE9 : (x.l true).epoch = 9 := hE
      have e1 : (x.l true).take f = (([], false), { x.l true with peer := 3, owes := true }) := take_stale hr he hq (fun e0 => by rw [hk, hd e0]; rfl) (by rw [hE9]; exact hp)
      refine ⟨?_, by rw [e1]⟩
      rw [an_take_quiet (by rw [e1]), e1]
      obtain ⟨k1, k2⟩ := @stale_step Ep.b s h.sb true
      exact .inr ⟨@PR.stale Ep.b s true, k1, by show set s.l true ({ s.l true with peer := 3, owes := true } : LK) = set x.l true { x.l true with peer := 3, owes := true }; rw [h.sl], h.sp, h.so, h.sm, h.st, h.ss, h.re, fun g hg => (h.way0 g hg).imp (k2 false g) id, fun g hg => (h.way1 g hg).imp (k2 true g) id⟩
theorem ai_take_first {x : AN} (h : AI x) {f : FR} (hf : f ∈ x.way false) : AI (x.take false f) := by
  rcases h with ⟨q, r, h⟩ | ⟨s, h⟩
  · rcases h.way0 f hf with hF | hF
    · -- of the old one
      obtain ⟨k0, k1, k2⟩ := @take_step Ep.a q h.qa false f hF
      have he : f.epoch = 5 := @FOK.epoch Ep.a q false f hF
      rw [h.ql] at k0
      obtain ⟨n1, n2, n3⟩ := h.none
      refine .inl ⟨q.tke false f, r, k1, h.rb, by show ((q.l false).take f).2 = ((x.l false).take f).2; rw [h.ql], h.qs, h.rl, h.re, h.rs, h.ro, h.rt, fun g hg => (h.way0 g hg).imp (k2 false g) id, h.way1, n1, ?_, ?_⟩
      · show (if false = false ∧ f.epoch = 9 then x.mine ++ ((x.l false).take f).1.1 else x.mine) = []
        rw [if_neg (fun e => by have := e.2; omega)]
        exact n2
      · show (if ((x.l false).take f).1.2 = true then x.resets + 1 else x.resets) = 0
        rw [k0]
        exact n3
    · -- of the new one
      have he : f.epoch = 9 := @FOK.epoch Ep.b r false f hF
      have hr := @FOK.right Ep.b r h.rb false f hF
      have hq := @Inv.peer Ep.a q h.qa false
      have hE := @Inv.ep Ep.a q h.qa false
      have hmint := @Inv.mint Ep.a q h.qa false
      have hmute := @Inv.mute Ep.a q h.qa false
      have hdue := @Inv.due Ep.a q h.qa false
      have htk := @Inv.tks Ep.a q h.qa false
      have hmost := @Inv.most Ep.a q h.qa false
      have hsm := @Inv.small Ep.a q h.qa false
      have hwt := @Inv.wait Ep.a q h.qa false
      rw [h.ql] at hq hE hmint hmute hdue htk hmost hwt
      rw [h.qs] at hsm hwt
      have hq5 : (x.l false).peer = 0 ∨ (x.l false).peer = 5 := hq
      have hlt : ((x.l false).peer : Int) < f.epoch := by rcases hq5 with e | e <;> omega
      have hT := take_hear (l := x.l false) hr hlt
      have hn : f.epoch.toNat = 9 := by omega
      obtain ⟨n1, n2, n3⟩ := h.none
      rw [hn] at hT
      have hA : ∃ a : LK, ((x.l false).hear 9).2 = a ∧ a.epoch = 3 ∧ a.peer = 9 ∧ a.first = 1 ∧ a.out = 0 ∧ a.due = 0 ∧ a.taken = 0 ∧ a.ticks ≤ 2 ∧ a.wait.length ≤ 32 ∧ (∀ s ∈ a.wait, s.size ≤ 100000) ∧ ∃ pre, x.sent = pre ++ a.wait ∧ ((x.l false).peer ≠ 0 → pre.length = x.sent.length) := by
        refine ⟨_, rfl, ?_⟩
        unfold LK.hear
        rcases hq5 with e | e
        · rw [if_neg (by omega), if_pos e]
          have h1 := hmint e
          have h2 := hmute e
          have hw : (x.l false).wait = x.sent := by rw [hwt, h1]; rfl
          exact ⟨hE, rfl, h1, h2, by show (x.l false).due = 0; omega, rfl, htk, hmost, fun s hs => hsm s (by rw [← hw]; exact hs), [], by show x.sent = [] ++ (x.l false).wait; rw [hw]; rfl, fun e2 => absurd e e2⟩
        · rw [if_neg (by omega), if_neg (by omega)]
          exact ⟨hE, rfl, rfl, rfl, rfl, rfl, Nat.zero_le _, Nat.zero_le _, fun _ hs => absurd hs (List.not_mem_nil), x.sent, (List.append_nil _).symm, fun _ => rfl⟩
      obtain ⟨a, ha, a1, a2, a3, a4, a5, a6, a7, a8, a9, pre, a10, a11⟩ := hA
      rw [ha] at hT
      have hj := @inv_join Ep.b r h.rb h.rs h.rt a (by rw [a1, h.re]) a2 a3 a4 a5 a6 a7 a8 a9
      have hFj : @FOK Ep.b { r with l := set r.l false a, sent := set r.sent false a.wait, way := fun _ => [] } false f := @FOK.mono Ep.b r _ false f hF (Nat.le_refl _) (List.prefix_refl _) (Nat.le_refl _)
      obtain ⟨k0, k1, k2⟩ := @take_step Ep.b _ hj false f hFj
      refine .inr ⟨_, k1, ?_, ?_, h.ro, ?_, ?_, ⟨pre, ?_, ?_⟩, ?_, fun g hg => ?_, fun g hg => .inr (h.way1 g hg)⟩
      · funext v
        cases v
        · show (a.take f).2 = ((x.l false).take f).2
          rw [hT]
        · exact h.rl
      · show ((x.l false).take f).2.peer ≠ 0
        rw [hT]
        exact @take_peer Ep.b a f (by rw [a2]; decide)
      · show r.told false ++ (a.take f).1.1 = if false = false ∧ f.epoch = 9 then x.mine ++ ((x.l false).take f).1.1 else x.mine
        rw [if_pos ⟨rfl, he⟩, h.rt, n2, hT]
      · show r.told true = if false = true then x.told ++ ((x.l false).take f).1.1 else x.told
        rw [if_neg (by decide), h.rt, n1]
      · exact a10
      · show 0 < (if ((x.l false).take f).1.2 = true then x.resets + 1 else x.resets) → pre.length = if ((x.l false).take f).1.2 = true then x.sent.length else x.first
        rw [hT, n3]
        intro hpos
        by_cases e : (x.l false).peer = 0
        · simp [e] at hpos
        · simp only [ne_eq, e, not_false_iff, decide_true, if_true]
          exact a11 e
      · show (if ((x.l false).take f).1.2 = true then x.resets + 1 else x.resets) ≤ 1
        split <;> omega
      · rcases h.way0 g hg with hG | hG
        · have : g.epoch = 5 := @FOK.epoch Ep.a q false g hG
          exact .inr (by omega)
        · exact .inl (k2 false g (@FOK.mono Ep.b r _ false g hG (Nat.le_refl _) (List.prefix_refl _) (Nat.le_refl _)))
  · have hq := @Inv.peer Ep.b s h.sb false
    rw [h.sl] at hq
    have h9 : (x.l false).peer = 9 := hq.resolve_left h.sp
    rcases h.way0 f hf with hF | hF
    · obtain ⟨k0, k1, k2⟩ := @take_step Ep.b s h.sb false f hF
      have he : f.epoch = 9 := @FOK.epoch Ep.b s false f hF
      rw [h.sl] at k0
      refine .inr ⟨s.tke false f, k1, by show set s.l false ((s.l false).take f).2 = set x.l false ((x.l false).take f).2; rw [h.sl], ?_, h.so, ?_, ?_, ?_, ?_, fun g hg => (h.way0 g hg).imp (k2 false g) id, fun g hg => (h.way1 g hg).imp (k2 true g) id⟩
      · exact @take_peer Ep.b _ f h.sp
      · show s.told false ++ ((s.l false).take f).1.1 = if false = false ∧ f.epoch = 9 then x.mine ++ ((x.l false).take f).1.1 else x.mine
        rw [if_pos ⟨rfl, he⟩, h.sm, h.sl]
      · show s.told true = if false = true then x.told ++ ((x.l false).take f).1.1 else x.told
        rw [if_neg (by decide)]
        exact h.st
      · show ∃ pre, x.sent = pre ++ s.sent false ∧ (0 < (if ((x.l false).take f).1.2 = true then x.resets + 1 else x.resets) → pre.length = if ((x.l false).take f).1.2 = true then x.sent.length else x.first)
        rw [k0]
        exact h.ss
      · show (if ((x.l false).take f).1.2 = true then x.resets + 1 else x.resets) ≤ 1
        rw [k0]
        exact h.re
    · have e1 := take_elder (l := x.l false) (f := f) (by omega)
      rw [an_take_quiet (by rw [e1]), e1]
      have e2 : set x.l false (x.l false) = x.l := by funext v; cases v <;> rfl
      refine .inr ⟨s, h.sb, by rw [e2]; exact h.sl, by rw [e2]; exact h.sp, h.so, h.sm, h.st, h.ss, h.re, h.way0, h.way1⟩
/-- The new one begins. -/
theorem ai_begin {q : PR} (h : @Inv Ep.a q) : AI ⟨set q.l true (LK.new 9), q.way, q.sent false, [], [], [], (q.sent false).length, 0⟩ := by
  refine .inl ⟨q, @PR.begin Ep.b, h, @inv_begin Ep.b, rfl, rfl, rfl, rfl, rfl, rfl, fun _ => rfl, fun f hf => .inl (@Inv.frames Ep.a q h false f hf), fun f hf => ?_, rfl, rfl, rfl⟩
  have k := @Inv.frames Ep.a q h true f hf
  refine ⟨@FOK.right Ep.a q h true f k, @FOK.epoch Ep.a q true f k, fun e9 => ?_⟩
  rcases @FOK.peer Ep.a q true f k with e2 | e2
  · rw [e2] at e9; omega
  · have e3 : f.peer = 5 := e2
    omega
end Go.Proofs.Ytiealipplckfnaa
