/-
  What holds of two ends is kept by each turn; nothing of the program is in this text.
-/
import Derived.Test.YtiealipplckfnaaZL2
namespace Go.Proofs.Ytiealipplckfnaa
set_option linter.unusedSectionVars false
variable [Ep]

/-- One end is another, and nothing of what waits is. -/
theorem inv_end {p : PR} (h : Inv p) (w : Bool) (a : LK) (e1 : a.epoch = (p.l w).epoch) (e2 : a.peer = (p.l w).peer ∨ a.peer = ep (!w)) (e3 : a.taken = (p.l w).taken) (e4 : a.first = (p.l w).first) (e5 : a.wait = (p.l w).wait) (e6 : (p.l w).out ≤ a.out) (e7 : a.out ≤ a.wait.length) (e8 : a.due ≤ a.out) (e9 : a.out ≤ 8) (e10 : a.peer = 0 → a.out = 0) (e11 : a.ticks ≤ 2) : Inv { p with l := set p.l w a } := by
  have hl : ∀ v, (p.l v).first + (p.l v).out ≤ ((set p.l w a) v).first + ((set p.l w a) v).out := fun v => by
    unfold set
    by_cases e : v = w
    · subst e; simp only [if_true]; omega
    · simp only [if_neg e]; exact Nat.le_refl _
  have key : ∀ (q : Bool → LK → Prop), (∀ v, q v (p.l v)) → q w a → ∀ v, q v ((set p.l w a) v) := fun q hq hw v => by
    unfold set
    by_cases e : v = w
    · subst e; simp only [if_true]; exact hw
    · simp only [if_neg e]; exact hq v
  refine ⟨key (fun v l => l.epoch = ep v) h.ep (by rw [e1]; exact h.ep w), key (fun v l => l.peer = 0 ∨ l.peer = ep (!v)) h.peer ?_, key (fun v l => l.taken = (p.told v).length) h.took (by rw [e3]; exact h.took w), h.pre, key (fun v l => 1 ≤ l.first) h.one (by rw [e4]; exact h.one w), key (fun v l => (p.sent v).length + 1 = l.first + l.wait.length) h.len (by rw [e4, e5]; exact h.len w), key (fun v l => l.wait = (p.sent v).drop (l.first - 1)) h.wait (by rw [e4, e5]; exact h.wait w), key (fun v l => l.first ≤ (p.told (!v)).length + 1) h.ackd (by rw [e4]; exact h.ackd w), key (fun v l => l.out ≤ l.wait.length) h.outw e7, key (fun v l => l.due ≤ l.out) h.due e8, key (fun v l => l.out ≤ 8) h.win e9, fun v => Nat.le_trans (h.put v) (hl v), fun v f hf => (h.frames v f hf).mono (Nat.le_refl _) (List.prefix_refl _) (hl (!v)), h.small, h.many, key (fun v l => l.peer = 0 → p.told v = []) h.deaf (fun e => ?_), key (fun v l => l.peer = 0 → l.out = 0) h.mute e10, key (fun _ l => l.wait.length ≤ 32) h.most (by rw [e5]; exact h.most w), key (fun _ l => l.ticks ≤ 2) h.tks e11, key (fun _ l => l.peer = 0 → l.first = 1) h.mint (fun e => by rw [e4]; exact h.mint w (by have := ep_pos (!w); rcases e2 with e2 | e2 <;> omega))⟩
  rotate_left
  · rcases e2 with e2 | e2
    · exact h.deaf w (by rw [← e2]; exact e)
    · have := ep_pos (!w); omega
  rcases e2 with e | e
  · rw [e]; exact h.peer w
  · exact .inr e
theorem inv_tick {p : PR} (h : Inv p) (w : Bool) : Inv { p with l := set p.l w (p.l w).tick } := by
  have h1 := h.outw w
  have h2 := h.due w
  have h3 := h.win w
  have h4 := h.tks w
  unfold LK.tick
  by_cases c1 : (p.l w).peer = 0
  · simp only [if_pos c1]
    by_cases c2 : (p.l w).out = 0
    · simp only [if_pos c2]
      exact inv_end h w _ rfl (.inl rfl) rfl rfl rfl (Nat.le_refl _) h1 h2 h3 (h.mute w) h4
    · simp only [if_neg c2]
      by_cases c3 : (p.l w).ticks + 1 = 3
      · simp only [if_pos c3]
        exact inv_end h w _ rfl (.inl rfl) rfl rfl rfl (Nat.le_refl _) h1 (Nat.zero_le _) h3 (h.mute w) (Nat.zero_le _)
      · simp only [if_neg c3]
        exact inv_end h w _ rfl (.inl rfl) rfl rfl rfl (Nat.le_refl _) h1 h2 h3 (h.mute w) (by show (p.l w).ticks + 1 ≤ 2; omega)
  · simp only [if_neg c1]
    by_cases c2 : (p.l w).out = 0
    · simp only [if_pos c2]
      exact inv_end h w _ rfl (.inl rfl) rfl rfl rfl (Nat.le_refl _) h1 h2 h3 (h.mute w) h4
    · simp only [if_neg c2]
      by_cases c3 : (p.l w).ticks + 1 = 3
      · simp only [if_pos c3]
        exact inv_end h w _ rfl (.inl rfl) rfl rfl rfl (Nat.le_refl _) h1 (Nat.zero_le _) h3 (h.mute w) (Nat.zero_le _)
      · simp only [if_neg c3]
        exact inv_end h w _ rfl (.inl rfl) rfl rfl rfl (Nat.le_refl _) h1 h2 h3 (h.mute w) (by show (p.l w).ticks + 1 ≤ 2; omega)
/-- Frames more on the way. -/
theorem inv_way {p : PR} (h : Inv p) (way : Bool → List FR) (hw : ∀ v, ∀ f ∈ way v, FOK p v f) : Inv { p with way := way } :=
  ⟨h.ep, h.peer, h.took, h.pre, h.one, h.len, h.wait, h.ackd, h.outw, h.due, h.win, h.put, fun v f hf => ⟨(hw v f hf).epoch, (hw v f hf).peer, (hw v f hf).ack, (hw v f hf).seq⟩, h.small, h.many, h.deaf, h.mute, h.most, h.tks, h.mint⟩
theorem put_out (l : LK) (h1 : l.out ≤ l.wait.length) (h2 : l.due ≤ l.out) (h3 : l.out ≤ 8) : l.put.epoch = l.epoch ∧ l.put.peer = l.peer ∧ l.put.taken = l.taken ∧ l.put.first = l.first ∧ l.put.wait = l.wait ∧ l.out ≤ l.put.out ∧ l.put.out ≤ l.put.wait.length ∧ l.put.due ≤ l.put.out ∧ l.put.out ≤ 8 ∧ (l.peer ≠ 0 → ∀ k, k < l.top → l.due ≤ k → k < l.put.out) ∧ (l.peer = 0 → l.out = 0 → l.put.out = 0) ∧ l.put.ticks ≤ l.ticks := by
  unfold LK.put LK.top
  by_cases c : l.peer = 0 ∨ min 8 l.wait.length ≤ l.due
  · rw [if_pos c]
    exact ⟨rfl, rfl, rfl, rfl, rfl, Nat.le_refl _, h1, h2, h3, fun hp k hk hd => by rcases c with c | c <;> omega, fun _ e => e, Nat.le_refl _⟩
  · rw [if_neg c]
    exact ⟨rfl, rfl, rfl, rfl, rfl, by show l.out ≤ max l.out _; omega, by show max l.out _ ≤ l.wait.length; omega, by show min 8 l.wait.length ≤ max l.out _; omega, by show max l.out _ ≤ 8; omega, fun _ k hk _ => by show k < max l.out _; omega, fun e _ => absurd (.inl e) c, by show (if l.out = 0 then 0 else l.ticks) ≤ l.ticks; split <;> omega⟩
theorem inv_put {p : PR} (h : Inv p) (w : Bool) : Inv { p with l := set p.l w (p.l w).put, way := set p.way (!w) (p.way (!w) ++ (p.l w).outs) } := by
  obtain ⟨q1, q2, q3, q4, q5, q6, q7, q8, q9, q10, q11, q12⟩ := put_out (p.l w) (h.outw w) (h.due w) (h.win w)
  have hi := inv_end h w (p.l w).put q1 (.inl q2) q3 q4 q5 q6 q7 q8 q9 (fun e => q11 (by rw [← q2]; exact e) (h.mute w (by rw [← q2]; exact e))) (Nat.le_trans q12 (h.tks w))
  refine inv_way hi _ fun v f hf => ?_
  by_cases e : v = !w
  · subst e
    rw [set_same'] at hf
    rcases List.mem_append.1 hf with e2 | e2
    · exact hi.frames (!w) f e2
    · have hep := h.ep w
      have hpe := h.peer w
      have htk := h.took w
      have hww : (!(!w)) = w := Bool.not_not w
      rcases mem_outs e2 with rfl | ⟨hp, k, hk1, hk2, rfl⟩
      · refine ⟨?_, ?_, ?_, .inl ⟨rfl, rfl⟩⟩
        · show ((p.l w).epoch : Int) = _
          rw [hww, hep]
        · show ((p.l w).peer : Int) = 0 ∨ ((p.l w).peer : Int) = _
          rcases hpe with e3 | e3
          · exact .inl (by rw [e3]; rfl)
          · exact .inr (by rw [e3])
        · show 0 ≤ ((p.l w).taken : Int) ∧ ((p.l w).taken : Int) ≤ _
          rw [hww, htk]
          exact ⟨by omega, Int.le_refl _⟩
      · have hlen := h.len w
        have hone := h.one w
        have hwt := h.wait w
        have hkl : k < (p.l w).wait.length := by unfold LK.top at hk1; omega
        have hpe2 : (p.l w).peer = ep (!w) := by rcases hpe with e3 | e3
                                                 · exact absurd e3 hp
                                                 · exact e3
        refine ⟨?_, ?_, ?_, .inr ?_⟩
        · show ((p.l w).epoch : Int) = _
          rw [hww, hep]
        · exact .inr (by show ((p.l w).peer : Int) = _; rw [hpe2])
        · show 0 ≤ ((p.l w).taken : Int) ∧ ((p.l w).taken : Int) ≤ _
          rw [hww, htk]
          exact ⟨by omega, Int.le_refl _⟩
        · have hb : (p.l w).first - 1 + k < (p.sent w).length := by omega
          refine ⟨(p.l w).first - 1 + k, by rw [hww]; exact hb, ?_, ?_, ?_, ?_⟩
          · show ((p.l w).first : Int) + (k : Int) = _
            omega
          · show (p.l w).wait.getD k ⟨#[]⟩ = _
            have e5 : (p.l w).wait.getD k ⟨#[]⟩ = (p.sent w)[(p.l w).first - 1 + k] := by
              rw [List.getD_eq_getElem?_getD, hwt, List.getElem?_drop, List.getElem?_eq_getElem hb]
              rfl
            rw [e5]
            simp only [hww]
          · show ((p.l w).peer : Int) = _
            rw [hpe2]
          · show (p.l w).first - 1 + k + 2 ≤ (set p.l w (p.l w).put (!(!w))).first + (set p.l w (p.l w).put (!(!w))).out
            rw [hww, set_same, q4]
            have := q10 hp k hk1 hk2
            omega
  · have e3 : set p.way (!w) (p.way (!w) ++ (p.l w).outs) v = p.way v := if_neg e
    rw [e3] at hf
    exact hi.frames v f hf
/-- Bodies are acknowledged. -/
theorem inv_ack {p : PR} (h : Inv p) (w : Bool) (a : Nat) (ha : a ≤ (p.told (!w)).length) : Inv { p with l := set p.l w ((p.l w).ackd a) } := by
  unfold LK.ackd
  by_cases c : (p.l w).first ≤ a ∧ a + 1 ≤ (p.l w).first + (p.l w).out
  · rw [if_pos c]
    have hl : ∀ v, ((set p.l w { p.l w with wait := (p.l w).wait.drop (a + 1 - (p.l w).first), first := a + 1, out := (p.l w).out - (a + 1 - (p.l w).first), due := (p.l w).due - (a + 1 - (p.l w).first), ticks := 0 }) v).first + ((set p.l w { p.l w with wait := (p.l w).wait.drop (a + 1 - (p.l w).first), first := a + 1, out := (p.l w).out - (a + 1 - (p.l w).first), due := (p.l w).due - (a + 1 - (p.l w).first), ticks := 0 }) v).out = (p.l v).first + (p.l v).out := fun v => by
      unfold set
      by_cases e : v = w
      · subst e; simp only [if_true]; omega
      · simp only [if_neg e]
    have key : ∀ (q : Bool → LK → Prop), (∀ v, q v (p.l v)) → q w { p.l w with wait := (p.l w).wait.drop (a + 1 - (p.l w).first), first := a + 1, out := (p.l w).out - (a + 1 - (p.l w).first), due := (p.l w).due - (a + 1 - (p.l w).first), ticks := 0 } → ∀ v, q v ((set p.l w { p.l w with wait := (p.l w).wait.drop (a + 1 - (p.l w).first), first := a + 1, out := (p.l w).out - (a + 1 - (p.l w).first), due := (p.l w).due - (a + 1 - (p.l w).first), ticks := 0 }) v) := fun q hq hw v => by
      unfold set
      by_cases e : v = w
      · subst e; simp only [if_true]; exact hw
      · simp only [if_neg e]; exact hq v
    have h1 := h.len w
    have h2 := h.outw w
    have h3 := h.due w
    have h4 := h.win w
    have h5 := h.wait w
    have h6 := h.one w
    refine ⟨key (fun v l => l.epoch = ep v) h.ep (h.ep w), key (fun v l => l.peer = 0 ∨ l.peer = ep (!v)) h.peer (h.peer w), key (fun v l => l.taken = (p.told v).length) h.took (h.took w), h.pre, key (fun v l => 1 ≤ l.first) h.one (by show 1 ≤ a + 1; omega), key (fun v l => (p.sent v).length + 1 = l.first + l.wait.length) h.len ?_, key (fun v l => l.wait = (p.sent v).drop (l.first - 1)) h.wait ?_, key (fun v l => l.first ≤ (p.told (!v)).length + 1) h.ackd (by show a + 1 ≤ _; omega), key (fun v l => l.out ≤ l.wait.length) h.outw ?_, key (fun v l => l.due ≤ l.out) h.due (by show (p.l w).due - (a + 1 - (p.l w).first) ≤ (p.l w).out - (a + 1 - (p.l w).first); omega), key (fun v l => l.out ≤ 8) h.win (by show (p.l w).out - (a + 1 - (p.l w).first) ≤ 8; omega), fun v => by rw [hl v]; exact h.put v, fun v f hf => (h.frames v f hf).mono (Nat.le_refl _) (List.prefix_refl _) (by rw [hl (!v)]; exact Nat.le_refl _), h.small, h.many, key (fun v l => l.peer = 0 → p.told v = []) h.deaf (h.deaf w), key (fun v l => l.peer = 0 → l.out = 0) h.mute (fun e => by have := h.mute w e; show (p.l w).out - _ = 0; omega), key (fun _ l => l.wait.length ≤ 32) h.most (by show ((p.l w).wait.drop _).length ≤ 32; rw [List.length_drop]; have := h.most w; omega), key (fun _ l => l.ticks ≤ 2) h.tks (Nat.zero_le _), key (fun _ l => l.peer = 0 → l.first = 1) h.mint (fun e => by have := h.mute w e; omega)⟩
    · show (p.sent w).length + 1 = a + 1 + ((p.l w).wait.drop (a + 1 - (p.l w).first)).length
      rw [List.length_drop]
      omega
    · show (p.l w).wait.drop (a + 1 - (p.l w).first) = (p.sent w).drop (a + 1 - 1)
      rw [h5, List.drop_drop]
      congr 1
      omega
    · show (p.l w).out - (a + 1 - (p.l w).first) ≤ ((p.l w).wait.drop (a + 1 - (p.l w).first)).length
      rw [List.length_drop]
      omega
  · rw [if_neg c]
    exact inv_end h w _ rfl (.inl rfl) rfl rfl rfl (Nat.le_refl _) (h.outw w) (h.due w) (h.win w) (h.mute w) (h.tks w)
/-- A body is told. -/
theorem inv_told {p : PR} (h : Inv p) (w : Bool) (hk : (p.told w).length < (p.sent (!w)).length) (hp : (p.l w).peer ≠ 0) (ho : (p.told w).length + 2 ≤ (p.l (!w)).first + (p.l (!w)).out) : Inv { p with l := set p.l w { p.l w with taken := (p.l w).taken + 1, owes := true }, told := set p.told w (p.told w ++ [(p.sent (!w))[(p.told w).length]]) } := by
  have hl : ∀ v, ((set p.l w { p.l w with taken := (p.l w).taken + 1, owes := true }) v).first = (p.l v).first ∧ ((set p.l w { p.l w with taken := (p.l w).taken + 1, owes := true }) v).out = (p.l v).out ∧ ((set p.l w { p.l w with taken := (p.l w).taken + 1, owes := true }) v).wait = (p.l v).wait ∧ ((set p.l w { p.l w with taken := (p.l w).taken + 1, owes := true }) v).due = (p.l v).due ∧ ((set p.l w { p.l w with taken := (p.l w).taken + 1, owes := true }) v).epoch = (p.l v).epoch ∧ ((set p.l w { p.l w with taken := (p.l w).taken + 1, owes := true }) v).peer = (p.l v).peer := fun v => by
    unfold set
    by_cases e : v = w
    · subst e; simp only [if_true]; exact ⟨trivial, trivial, trivial, trivial, trivial, trivial⟩
    · simp only [if_neg e]; exact ⟨trivial, trivial, trivial, trivial, trivial, trivial⟩
  have ht : ∀ v, (p.told v).length ≤ ((set p.told w (p.told w ++ [(p.sent (!w))[(p.told w).length]])) v).length := fun v => by
    unfold set
    by_cases e : v = w
    · subst e; simp only [if_true, List.length_append]; omega
    · simp only [if_neg e]; exact Nat.le_refl _
  refine ⟨fun v => by rw [(hl v).2.2.2.2.1]; exact h.ep v, fun v => by rw [(hl v).2.2.2.2.2]; exact h.peer v, fun v => ?_, fun v => ?_, fun v => by rw [(hl v).1]; exact h.one v, fun v => by rw [(hl v).1, (hl v).2.2.1]; exact h.len v, fun v => by rw [(hl v).1, (hl v).2.2.1]; exact h.wait v, fun v => by rw [(hl v).1]; exact Nat.le_trans (h.ackd v) (Nat.succ_le_succ (ht (!v))), fun v => by rw [(hl v).2.1, (hl v).2.2.1]; exact h.outw v, fun v => by rw [(hl v).2.1, (hl v).2.2.2.1]; exact h.due v, fun v => by rw [(hl v).2.1]; exact h.win v, fun v => ?_, fun v f hf => (h.frames v f hf).mono (ht (!v)) (List.prefix_refl _) (by rw [(hl (!v)).1, (hl (!v)).2.1]; exact Nat.le_refl _), h.small, h.many, fun v hv => ?_, fun v hv => by rw [(hl v).2.2.2.2.2] at hv; rw [(hl v).2.1]; exact h.mute v hv, fun v => by rw [(hl v).2.2.1]; exact h.most v, fun v => by have := h.tks v; unfold set; by_cases e : v = w <;> simp_all, fun v hv => by rw [(hl v).2.2.2.2.2] at hv; rw [(hl v).1]; exact h.mint v hv⟩
  · have := h.took v
    unfold set
    by_cases e : v = w
    · subst e; simp only [if_true, List.length_append, List.length_singleton]; omega
    · simp only [if_neg e]; exact this
  · unfold set
    by_cases e : v = w
    · subst e
      simp only [if_true]
      obtain ⟨t, ht2⟩ := h.pre v
      have hne : t ≠ [] := fun e2 => by rw [e2, List.append_nil] at ht2; rw [ht2] at hk; omega
      cases t with
      | nil => exact absurd rfl hne
      | cons a t =>
        have e3 : (p.sent (!v))[(p.told v).length] = a := by
          simp only [← ht2]
          rw [List.getElem_append_right (Nat.le_refl _)]
          simp
        rw [e3]
        exact ⟨t, by rw [List.append_assoc]; exact ht2⟩
    · simp only [if_neg e]; exact h.pre v
  · rw [(hl v).1, (hl v).2.1]
    have := h.put v
    unfold set
    by_cases e : (!v) = w
    · have e2 : v = !w := by rw [← e, Bool.not_not]
      subst e2
      simp only [Bool.not_not, if_true, List.length_append, List.length_singleton]
      omega
    · simp only [if_neg e]; exact this
  · rw [(hl v).2.2.2.2.2] at hv
    unfold set
    by_cases e : v = w
    · subst e; exact absurd hv hp
    · simp only [if_neg e]; exact h.deaf v hv
theorem set_set {α : Type} (f : Bool → α) (w : Bool) (a c : α) : set (set f w a) w c = set f w c := by
  funext v
  unfold set
  split <;> rfl
theorem set_id {α : Type} (f : Bool → α) (w : Bool) : set f w (f w) = f := by
  funext v
  unfold set
  split <;> simp_all
/-- A frame that is on the way comes. -/
theorem take_of {p : PR} (h : Inv p) {w : Bool} {f : FR} (hf : FOK p w f) : ((p.l w).take f).1.2 = false ∧ Inv { p with l := set p.l w ((p.l w).take f).2, told := set p.told w (p.told w ++ ((p.l w).take f).1.1) } := by
  have hr := hf.right h
  have hep := h.ep w
  have hpe := h.peer w
  have hfe := hf.epoch
  have hpos := ep_pos (!w)
  have hpw := ep_pos w
  have htn : f.epoch.toNat = ep (!w) := by omega
  have hhear : (p.l w).hear f.epoch.toNat = (false, { p.l w with peer := ep (!w) }) := by
    unfold LK.hear
    rw [htn]
    rcases hpe with e | e
    · rw [if_neg (by omega), if_pos e]
      have h0 : (p.l w).taken = 0 := by rw [h.took w, h.deaf w e]; rfl
      rw [← h0]
    · rw [if_pos (by omega), ← e]
  have hnot : ¬ (¬ f.rightP ∨ f.epoch < (p.l w).peer) := fun e => by
    rcases e with e | e
    · exact e hr
    · rcases hpe with e2 | e2 <;> omega
  have h1 : Inv { p with l := set p.l w { p.l w with peer := ep (!w) } } := inv_end h w _ rfl (.inr rfl) rfl rfl rfl (Nat.le_refl _) (h.outw w) (h.due w) (h.win w) (fun e => absurd e (by show ep (!w) ≠ 0; omega)) (h.tks w)
  unfold LK.take
  rw [if_neg hnot, hhear]
  by_cases c : f.peer ≠ (p.l w).epoch
  · rw [if_pos c]
    refine ⟨rfl, ?_⟩
    have h2 := inv_end h w { p.l w with peer := ep (!w), owes := true } rfl (.inr rfl) rfl rfl rfl (Nat.le_refl _) (h.outw w) (h.due w) (h.win w) (fun e => absurd e (by show ep (!w) ≠ 0; omega)) (h.tks w)
    simp only [List.append_nil, set_id]
    exact h2
  · rw [if_neg c]
    refine ⟨rfl, ?_⟩
    have hak := hf.ack
    have h2 := inv_ack h1 w f.ack.toNat (by show f.ack.toNat ≤ (p.told (!w)).length; omega)
    simp only [set_set, set_same] at h2
    generalize hA : LK.ackd { p.l w with peer := ep (!w) } f.ack.toNat = A at *
    have ht : A.taken = (p.told w).length := by have := h2.took w; simpa [set_same] using this
    have hAp : A.peer ≠ 0 := by
      have : A.peer = ep (!w) := by rw [← hA]; unfold LK.ackd; split <;> rfl
      omega
    unfold LK.get
    by_cases c1 : f.seq.toNat = A.taken + 1
    · rw [if_pos c1]
      rcases hf.seq with ⟨e1, _⟩ | ⟨k, hk, e1, e2, _, e4⟩
      · omega
      · have hkk : k = (p.told w).length := by omega
        subst hkk
        have hoo : (p.told w).length + 2 ≤ ((set p.l w A) (!w)).first + ((set p.l w A) (!w)).out := by rw [set_other]; omega
        have h3 := inv_told h2 w hk (by show (set p.l w A w).peer ≠ 0; rw [set_same]; exact hAp) hoo
        simp only [set_set, set_same] at h3
        simp only [e2]
        exact h3
    · rw [if_neg c1]
      by_cases c2 : f.seq.toNat = 0
      · rw [if_pos c2]
        simp only [List.append_nil, set_id]
        exact h2
      · rw [if_neg c2]
        simp only [List.append_nil, set_id]
        have h3 := inv_end h2 w { A with owes := true } (by simp only [set_same]) (.inl (by simp only [set_same])) (by simp only [set_same]) (by simp only [set_same]) (by simp only [set_same]) (by simp only [set_same]; exact Nat.le_refl _) (by have := h2.outw w; simpa [set_same] using this) (by have := h2.due w; simpa [set_same] using this) (by have := h2.win w; simpa [set_same] using this) (fun e => absurd e hAp) (by have := h2.tks w; simpa [set_same] using this)
        simp only [set_set] at h3
        exact h3
end Go.Proofs.Ytiealipplckfnaa
