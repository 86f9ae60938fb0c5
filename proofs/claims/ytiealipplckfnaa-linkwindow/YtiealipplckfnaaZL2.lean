/-
  Two ends, and the frames on the way: what holds of them; nothing of the program is in this text.
-/
import Derived.Test.YtiealipplckfnaaZL1
namespace Go.Proofs.Ytiealipplckfnaa

set_option linter.unusedSectionVars false
/-- The epochs of the two ends. -/
class Ep where
  e : Bool → Nat
  pos : ∀ w, 1 ≤ e w ∧ e w ≤ 9
def set {α : Type} (f : Bool → α) (w : Bool) (x : α) : Bool → α := fun v => if v = w then x else f v
theorem set_same {α : Type} (f : Bool → α) (w : Bool) (x : α) : set f w x w = x := if_pos rfl
theorem set_other {α : Type} (f : Bool → α) (w : Bool) (x : α) : set f w x (!w) = f (!w) := if_neg (by cases w <;> decide)
theorem set_other' {α : Type} (f : Bool → α) (w : Bool) (x : α) : set f (!w) x w = f w := if_neg (by cases w <;> decide)
theorem set_same' {α : Type} (f : Bool → α) (w : Bool) (x : α) : set f (!w) x (!w) = x := if_pos rfl
variable [Ep]
def ep (w : Bool) : Nat := Ep.e w
theorem ep_pos (w : Bool) : 1 ≤ ep w ∧ ep w ≤ 9 := Ep.pos w
structure PR where
  l : Bool → LK
  way : Bool → List FR
  sent : Bool → List ByteArray
  told : Bool → List ByteArray
/-- A frame on the way to w. -/
structure FOK (p : PR) (w : Bool) (f : FR) : Prop where
  epoch : f.epoch = ep (!w)
  peer : f.peer = 0 ∨ f.peer = ep w
  ack : 0 ≤ f.ack ∧ f.ack ≤ (p.told (!w)).length
  seq : (f.seq = 0 ∧ f.body = ⟨#[]⟩) ∨ ∃ k, ∃ h : k < (p.sent (!w)).length, f.seq = (k : Int) + 1 ∧ f.body = (p.sent (!w))[k] ∧ f.peer = ep w ∧ k + 2 ≤ (p.l (!w)).first + (p.l (!w)).out
structure Inv (p : PR) : Prop where
  ep : ∀ w, (p.l w).epoch = ep w
  peer : ∀ w, (p.l w).peer = 0 ∨ (p.l w).peer = Go.Proofs.Ytiealipplckfnaa.ep (!w)
  took : ∀ w, (p.l w).taken = (p.told w).length
  pre : ∀ w, p.told w <+: p.sent (!w)
  one : ∀ w, 1 ≤ (p.l w).first
  len : ∀ w, (p.sent w).length + 1 = (p.l w).first + (p.l w).wait.length
  wait : ∀ w, (p.l w).wait = (p.sent w).drop ((p.l w).first - 1)
  ackd : ∀ w, (p.l w).first ≤ (p.told (!w)).length + 1
  outw : ∀ w, (p.l w).out ≤ (p.l w).wait.length
  due : ∀ w, (p.l w).due ≤ (p.l w).out
  win : ∀ w, (p.l w).out ≤ 8
  put : ∀ w, (p.told (!w)).length + 1 ≤ (p.l w).first + (p.l w).out
  frames : ∀ w, ∀ f ∈ p.way w, FOK p w f
  small : ∀ w, ∀ s ∈ p.sent w, s.size ≤ 100000
  many : ∀ w, (p.sent w).length ≤ 1000000
  deaf : ∀ w, (p.l w).peer = 0 → p.told w = []
  mute : ∀ w, (p.l w).peer = 0 → (p.l w).out = 0
  most : ∀ w, (p.l w).wait.length ≤ 32
  tks : ∀ w, (p.l w).ticks ≤ 2
  mint : ∀ w, (p.l w).peer = 0 → (p.l w).first = 1
theorem FOK.right {p : PR} (h : Inv p) {w : Bool} {f : FR} (hf : FOK p w f) : f.rightP := by
  have h1 := ep_pos w
  have h2 := ep_pos (!w)
  have h3 := (h.pre (!w)).length_le
  have h4 := h.many w
  have h5 := h.many (!w)
  rw [Bool.not_not] at h3
  have hp : 0 ≤ f.peer ∧ f.peer ≤ 9 := by rcases hf.peer with e | e <;> omega
  have ha := hf.ack
  have he := hf.epoch
  unfold FR.rightP
  rcases hf.seq with ⟨e1, e2⟩ | ⟨k, hk, e1, e2, _⟩
  · have : f.body.size ≤ 100000 := by rw [e2]; decide
    exact ⟨by omega, by omega, by omega, by omega, by omega, by omega, by omega, by omega, this, .inr e2⟩
  · have : f.body.size ≤ 100000 := by rw [e2]; exact h.small _ _ (List.getElem_mem hk)
    exact ⟨by omega, by omega, by omega, by omega, by omega, by omega, by omega, by omega, this, .inl (by omega)⟩
/-- What of the other end, and of what was sent and told, a frame asks for only grows. -/
theorem FOK.mono {p p' : PR} {w : Bool} {f : FR} (hf : FOK p w f) (ht : (p.told (!w)).length ≤ (p'.told (!w)).length) (hs : p.sent (!w) <+: p'.sent (!w)) (ho : (p.l (!w)).first + (p.l (!w)).out ≤ (p'.l (!w)).first + (p'.l (!w)).out) : FOK p' w f := by
  refine ⟨hf.epoch, hf.peer, ⟨hf.ack.1, by have := hf.ack.2; omega⟩, ?_⟩
  rcases hf.seq with e | ⟨k, hk, e1, e2, e3, e4⟩
  · exact .inl e
  · obtain ⟨t, ht2⟩ := hs
    have hk2 : k < (p'.sent (!w)).length := by rw [← ht2, List.length_append]; omega
    refine .inr ⟨k, hk2, e1, ?_, e3, by omega⟩
    rw [e2]
    simp only [← ht2]
    rw [List.getElem_append_left hk]
/-- A body is sent at w. -/
theorem inv_send {p : PR} (h : Inv p) (w : Bool) (s : ByteArray) (hm : (p.sent w).length < 1000000) : Inv { p with l := set p.l w ((p.l w).send s).2, sent := if ((p.l w).send s).1 = 0 then set p.sent w (p.sent w ++ [s]) else p.sent } := by
  unfold LK.send
  by_cases h1 : 100000 < s.size
  · rw [if_pos h1]
    have e : set p.l w (p.l w) = p.l := by funext v; unfold set; split <;> simp_all
    simp only [e]
    rw [if_neg (by decide)]
    exact h
  · rw [if_neg h1]
    by_cases h2 : 32 ≤ (p.l w).wait.length
    · rw [if_pos h2]
      have e : set p.l w (p.l w) = p.l := by funext v; unfold set; split <;> simp_all
      simp only [e]
      rw [if_neg (by decide)]
      exact h
    · rw [if_neg h2]
      simp only [if_true]
      have hpre : ∀ v, p.sent v <+: (set p.sent w (p.sent w ++ [s])) v := fun v => by
        by_cases e : v = w
        · subst e; rw [set_same]; exact List.prefix_append _ _
        · unfold set; rw [if_neg e]; exact List.prefix_refl _
      have hl : ∀ v, ((set p.l w { p.l w with wait := (p.l w).wait ++ [s] }) v).first = (p.l v).first ∧ ((set p.l w { p.l w with wait := (p.l w).wait ++ [s] }) v).out = (p.l v).out := fun v => by
        by_cases e : v = w
        · subst e; rw [set_same]; exact ⟨rfl, rfl⟩
        · unfold set; rw [if_neg e]; exact ⟨rfl, rfl⟩
      refine ⟨fun v => ?_, fun v => ?_, fun v => ?_, fun v => ?_, fun v => ?_, fun v => ?_, fun v => ?_, fun v => ?_, fun v => ?_, fun v => ?_, fun v => ?_, fun v => ?_, fun v f hf => ?_, fun v t ht => ?_, fun v => ?_, fun v hv => ?_, fun v hv => ?_, fun v => ?_, fun v => ?_, fun v hv => ?_⟩
      · have := h.ep v; unfold set; by_cases e : v = w <;> simp_all
      · have := h.peer v; unfold set; by_cases e : v = w <;> simp_all
      · have := h.took v; unfold set; by_cases e : v = w <;> simp_all
      · exact (h.pre v).trans (hpre (!v))
      · rw [(hl v).1]; exact h.one v
      · have := h.len v
        unfold set
        by_cases e : v = w
        · subst e; simp only [if_true, List.length_append, List.length_singleton]; omega
        · simp only [if_neg e]; exact this
      · have h1 := h.wait v
        have h2 := h.len v
        have h3 := h.one v
        unfold set
        by_cases e : v = w
        · subst e
          simp only [if_true]
          rw [List.drop_append_of_le_length (by omega), ← h1]
        · simp only [if_neg e]; exact h1
      · rw [(hl v).1]; exact h.ackd v
      · have := h.outw v
        rw [(hl v).2]
        unfold set
        by_cases e : v = w
        · subst e; simp only [if_true, List.length_append, List.length_singleton]; omega
        · simp only [if_neg e]; exact this
      · have := h.due v; unfold set; by_cases e : v = w <;> simp_all
      · rw [(hl v).2]; exact h.win v
      · rw [(hl v).1, (hl v).2]; exact h.put v
      · exact (h.frames v f hf).mono (Nat.le_refl _) (hpre (!v)) (by show _ ≤ _; rw [(hl (!v)).1, (hl (!v)).2]; exact Nat.le_refl _)
      · unfold set at ht
        by_cases e : v = w
        · subst e
          simp only [if_true] at ht
          rcases List.mem_append.1 ht with e2 | e2
          · exact h.small v t e2
          · rw [List.mem_singleton.1 e2]; omega
        · simp only [if_neg e] at ht; exact h.small v t ht
      · unfold set
        by_cases e : v = w
        · subst e; simp only [if_true, List.length_append, List.length_singleton]; omega
        · simp only [if_neg e]; exact h.many v
      · refine h.deaf v ?_
        unfold set at hv
        by_cases e : v = w
        · subst e; simpa using hv
        · simpa [if_neg e] using hv
      · rw [(hl v).2]
        refine h.mute v ?_
        unfold set at hv
        by_cases e : v = w
        · subst e; simpa using hv
        · simpa [if_neg e] using hv
      · have := h.most v
        unfold set
        by_cases e : v = w
        · subst e; simp only [if_true, List.length_append, List.length_singleton]; omega
        · simp only [if_neg e]; exact this
      · have := h.tks v; unfold set; by_cases e : v = w <;> simp_all
      · rw [(hl v).1]
        refine h.mint v ?_
        unfold set at hv
        by_cases e : v = w
        · subst e; simpa using hv
        · simpa [if_neg e] using hv
end Go.Proofs.Ytiealipplckfnaa
