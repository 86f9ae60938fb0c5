/-
  An end of a session, on lists: what it does; nothing of the program is in this text.
-/
import Derived.WalkKit
namespace Go.Proofs.Ythgfijmpofbchaa

/-- A frame. -/
structure FR where
  epoch : Int
  peer : Int
  seq : Int
  ack : Int
  body : ByteArray
def FR.rightP (f : FR) : Prop := 1 ≤ f.epoch ∧ f.epoch ≤ 9007199254740991 ∧ 0 ≤ f.peer ∧ f.peer ≤ 9007199254740991 ∧ 0 ≤ f.seq ∧ f.seq ≤ 9007199254740991 ∧ 0 ≤ f.ack ∧ f.ack ≤ 9007199254740991 ∧ f.body.size ≤ 100000 ∧ (f.seq ≠ 0 ∨ f.body = ⟨#[]⟩)
instance (f : FR) : Decidable f.rightP := by unfold FR.rightP; infer_instance
/-- An end: the bodies that wait, the number of the first of them, how many were put out ever, how many are not due. -/
structure LK where
  epoch : Nat
  peer : Nat
  wait : List ByteArray
  first : Nat
  out : Nat
  due : Nat
  taken : Nat
  owes : Bool
  ticks : Nat
def LK.new (epoch : Nat) : LK := ⟨epoch, 0, [], 1, 0, 0, 0, true, 0⟩
def LK.send (l : LK) (s : ByteArray) : Int × LK := if 100000 < s.size then (3, l) else if 32 ≤ l.wait.length then (8, l) else (0, { l with wait := l.wait ++ [s] })
/-- The frame of the k-th that waits. -/
def LK.frame (l : LK) (k : Nat) : FR := ⟨l.epoch, l.peer, l.first + k, l.taken, l.wait.getD k ⟨#[]⟩⟩
def LK.bare (l : LK) : FR := ⟨l.epoch, l.peer, 0, l.taken, ⟨#[]⟩⟩
/-- How far the window reaches. -/
def LK.top (l : LK) : Nat := min 8 l.wait.length
def LK.frames (l : LK) : List FR := if l.peer = 0 then [] else (List.range (l.top - l.due)).map fun j => l.frame (l.due + j)
def LK.outs (l : LK) : List FR := if l.frames = [] ∧ l.owes = true then [l.bare] else l.frames
/-- What is behind it. -/
def LK.put (l : LK) : LK := if l.peer = 0 ∨ l.top ≤ l.due then { l with owes := false } else { l with owes := false, ticks := if l.out = 0 then 0 else l.ticks, out := max l.out l.top, due := l.top }
def LK.tick (l : LK) : LK :=
  let a : LK := if l.peer = 0 then { l with owes := true } else l
  if a.out = 0 then a else if a.ticks + 1 = 3 then { a with ticks := 0, due := 0 } else { a with ticks := a.ticks + 1 }
/-- The peer's epoch is a greater one. -/
def LK.hear (l : LK) (e : Nat) : Bool × LK :=
  if e ≤ l.peer then (false, l) else if l.peer = 0 then (false, { l with peer := e, taken := 0 }) else (true, { l with wait := [], first := 1, out := 0, due := 0, ticks := 0, peer := e, taken := 0 })
/-- Bodies up to a number are acknowledged. -/
def LK.ackd (l : LK) (a : Nat) : LK := if l.first ≤ a ∧ a + 1 ≤ l.first + l.out then { l with wait := l.wait.drop (a + 1 - l.first), first := a + 1, out := l.out - (a + 1 - l.first), due := l.due - (a + 1 - l.first), ticks := 0 } else l
/-- A body is taken. -/
def LK.get (l : LK) (seq : Nat) (body : ByteArray) : List ByteArray × LK :=
  if seq = l.taken + 1 then ([body], { l with taken := l.taken + 1, owes := true }) else if seq = 0 then ([], l) else ([], { l with owes := true })
def LK.take (l : LK) (f : FR) : (List ByteArray × Bool) × LK :=
  if ¬ f.rightP ∨ f.epoch < l.peer then (([], false), l) else
  let h := l.hear f.epoch.toNat
  if f.peer ≠ h.2.epoch then (([], h.1), { h.2 with owes := true }) else
  let g := (h.2.ackd f.ack.toNat).get f.seq.toNat f.body
  ((g.1, h.1), g.2)
theorem mem_frames {l : LK} {f : FR} (h : f ∈ l.frames) : l.peer ≠ 0 ∧ ∃ k, k < l.top ∧ l.due ≤ k ∧ f = l.frame k := by
  unfold LK.frames at h
  split at h
  · cases h
  · rename_i hp
    obtain ⟨j, hj, rfl⟩ := List.mem_map.1 h
    have := List.mem_range.1 hj
    exact ⟨hp, l.due + j, by omega, by omega, rfl⟩
theorem mem_outs {l : LK} {f : FR} (h : f ∈ l.outs) : f = l.bare ∨ (l.peer ≠ 0 ∧ ∃ k, k < l.top ∧ l.due ≤ k ∧ f = l.frame k) := by
  unfold LK.outs at h
  split at h
  · exact .inl (List.mem_singleton.1 h)
  · exact .inr (mem_frames h)
end Go.Proofs.Ythgfijmpofbchaa
/-
  Two ends, and the frames on the way: what holds of them; nothing of the program is in this text.
-/
namespace Go.Proofs.Ythgfijmpofbchaa

set_option linter.unusedSectionVars false
/-- The epochs of the two ends. -/
class Ep where
  e : Bool → Nat
  pos : ∀ w, 1 ≤ e w ∧ e w ≤ 9
def set {α : Type} (f : Bool → α) (w : Bool) (x : α) : Bool → α := fun v => if v = w then x else f v
theorem set_same {α : Type} (f : Bool → α) (w : Bool) (x : α) : set f w x w = x := if_pos rfl
theorem set_other {α : Type} (f : Bool → α) (w : Bool) (x : α) : set f w x (!w) = f (!w) := if_neg (by cases w <;> decide)
theorem set_other' {α : Type} (f : Bool → α) (w : Bool) (x : α) : set f (!w) x w = f w := if_neg (by cases w <;> decide)
theorem set_same' {α : Type} (f : Bool → α) (w : Bool) (x : α) : set f (!w) x (!w) = x := if_pos rfl
variable [Ep]
def ep (w : Bool) : Nat := Ep.e w
theorem ep_pos (w : Bool) : 1 ≤ ep w ∧ ep w ≤ 9 := Ep.pos w
structure PR where
  l : Bool → LK
  way : Bool → List FR
  sent : Bool → List ByteArray
  told : Bool → List ByteArray
/-- A frame on the way to w. -/
structure FOK (p : PR) (w : Bool) (f : FR) : Prop where
  epoch : f.epoch = ep (!w)
  peer : f.peer = 0 ∨ f.peer = ep w
  ack : 0 ≤ f.ack ∧ f.ack ≤ (p.told (!w)).length
  seq : (f.seq = 0 ∧ f.body = ⟨#[]⟩) ∨ ∃ k, ∃ h : k < (p.sent (!w)).length, f.seq = (k : Int) + 1 ∧ f.body = (p.sent (!w))[k] ∧ f.peer = ep w ∧ k + 2 ≤ (p.l (!w)).first + (p.l (!w)).out
structure Inv (p : PR) : Prop where
  ep : ∀ w, (p.l w).epoch = ep w
  peer : ∀ w, (p.l w).peer = 0 ∨ (p.l w).peer = Go.Proofs.Ythgfijmpofbchaa.ep (!w)
  took : ∀ w, (p.l w).taken = (p.told w).length
  pre : ∀ w, p.told w <+: p.sent (!w)
  one : ∀ w, 1 ≤ (p.l w).first
  len : ∀ w, (p.sent w).length + 1 = (p.l w).first + (p.l w).wait.length
  wait : ∀ w, (p.l w).wait = (p.sent w).drop ((p.l w).first - 1)
  ackd : ∀ w, (p.l w).first ≤ (p.told (!w)).length + 1
  outw : ∀ w, (p.l w).out ≤ (p.l w).wait.length
  due : ∀ w, (p.l w).due ≤ (p.l w).out
  win : ∀ w, (p.l w).out ≤ 8
  put : ∀ w, (p.told (!w)).length + 1 ≤ (p.l w).first + (p.l w).out
  frames : ∀ w, ∀ f ∈ p.way w, FOK p w f
  small : ∀ w, ∀ s ∈ p.sent w, s.size ≤ 100000
  many : ∀ w, (p.sent w).length ≤ 1000000
  deaf : ∀ w, (p.l w).peer = 0 → p.told w = []
  mute : ∀ w, (p.l w).peer = 0 → (p.l w).out = 0
  most : ∀ w, (p.l w).wait.length ≤ 32
  tks : ∀ w, (p.l w).ticks ≤ 2
  mint : ∀ w, (p.l w).peer = 0 → (p.l w).first = 1
theorem FOK.right {p : PR} (h : Inv p) {w : Bool} {f : FR} (hf : FOK p w f) : f.rightP := by
  have h1 := ep_pos w
  have h2 := ep_pos (!w)
  have h3 := (h.pre (!w)).length_le
  have h4 := h.many w
  have h5 := h.many (!w)
  rw [Bool.not_not] at h3
  have hp : 0 ≤ f.peer ∧ f.peer ≤ 9 := by rcases hf.peer with e | e <;> omega
  have ha := hf.ack
  have he := hf.epoch
  unfold FR.rightP
  rcases hf.seq with ⟨e1, e2⟩ | ⟨k, hk, e1, e2, _⟩
  · have : f.body.size ≤ 100000 := by rw [e2]; decide
    exact ⟨by omega, by omega, by omega, by omega, by omega, by omega, by omega, by omega, this, .inr e2⟩
  · have : f.body.size ≤ 100000 := by rw [e2]; exact h.small _ _ (List.getElem_mem hk)
    exact ⟨by omega, by omega, by omega, by omega, by omega, by omega, by omega, by omega, this, .inl (by omega)⟩
/-- What of the other end, and of what was sent and told, a frame asks for only grows. -/
theorem FOK.mono {p p' : PR} {w : Bool} {f : FR} (hf : FOK p w f) (ht : (p.told (!w)).length ≤ (p'.told (!w)).length) (hs : p.sent (!w) <+: p'.sent (!w)) (ho : (p.l (!w)).first + (p.l (!w)).out ≤ (p'.l (!w)).first + (p'.l (!w)).out) : FOK p' w f := by
  refine ⟨hf.epoch, hf.peer, ⟨hf.ack.1, by have := hf.ack.2; omega⟩, ?_⟩
  rcases hf.seq with e | ⟨k, hk, e1, e2, e3, e4⟩
  · exact .inl e
  · obtain ⟨t, ht2⟩ := hs
    have hk2 : k < (p'.sent (!w)).length := by rw [← ht2, List.length_append]; omega
    refine .inr ⟨k, hk2, e1, ?_, e3, by omega⟩
    rw [e2]
    simp only [← ht2]
    rw [List.getElem_append_left hk]
/-- A body is sent at w. -/
theorem inv_send {p : PR} (h : Inv p) (w : Bool) (s : ByteArray) (hm : (p.sent w).length < 1000000) : Inv { p with l := set p.l w ((p.l w).send s).2, sent := if ((p.l w).send s).1 = 0 then set p.sent w (p.sent w ++ [s]) else p.sent } := by
  unfold LK.send
  by_cases h1 : 100000 < s.size
  · rw [if_pos h1]
    have e : set p.l w (p.l w) = p.l := by funext v; unfold set; split <;> simp_all
    simp only [e]
    rw [if_neg (by decide)]
    exact h
  · rw [if_neg h1]
    by_cases h2 : 32 ≤ (p.l w).wait.length
    · rw [if_pos h2]
      have e : set p.l w (p.l w) = p.l := by funext v; unfold set; split <;> simp_all
      simp only [e]
      rw [if_neg (by decide)]
      exact h
    · rw [if_neg h2]
      simp only [if_true]
      have hpre : ∀ v, p.sent v <+: (set p.sent w (p.sent w ++ [s])) v := fun v => by
        by_cases e : v = w
        · subst e; rw [set_same]; exact List.prefix_append _ _
        · unfold set; rw [if_neg e]; exact List.prefix_refl _
      have hl : ∀ v, ((set p.l w { p.l w with wait := (p.l w).wait ++ [s] }) v).first = (p.l v).first ∧ ((set p.l w { p.l w with wait := (p.l w).wait ++ [s] }) v).out = (p.l v).out := fun v => by
        by_cases e : v = w
        · subst e; rw [set_same]; exact ⟨rfl, rfl⟩
        · unfold set; rw [if_neg e]; exact ⟨rfl, rfl⟩
      refine ⟨fun v => ?_, fun v => ?_, fun v => ?_, fun v => ?_, fun v => ?_, fun v => ?_, fun v => ?_, fun v => ?_, fun v => ?_, fun v => ?_, fun v => ?_, fun v => ?_, fun v f hf => ?_, fun v t ht => ?_, fun v => ?_, fun v hv => ?_, fun v hv => ?_, fun v => ?_, fun v => ?_, fun v hv => ?_⟩
      · have := h.ep v; unfold set; by_cases e : v = w <;> simp_all
      · have := h.peer v; unfold set; by_cases e : v = w <;> simp_all
      · have := h.took v; unfold set; by_cases e : v = w <;> simp_all
      · exact (h.pre v).trans (hpre (!v))
      · rw [(hl v).1]; exact h.one v
      · have := h.len v
        unfold set
        by_cases e : v = w
        · subst e; simp only [if_true, List.length_append, List.length_singleton]; omega
        · simp only [if_neg e]; exact this
      · have h1 := h.wait v
        have h2 := h.len v
        have h3 := h.one v
        unfold set
        by_cases e : v = w
        · subst e
          simp only [if_true]
          rw [List.drop_append_of_le_length (by omega), ← h1]
        · simp only [if_neg e]; exact h1
      · rw [(hl v).1]; exact h.ackd v
      · have := h.outw v
        rw [(hl v).2]
        unfold set
        by_cases e : v = w
        · subst e; simp only [if_true, List.length_append, List.length_singleton]; omega
        · simp only [if_neg e]; exact this
      · have := h.due v; unfold set; by_cases e : v = w <;> simp_all
      · rw [(hl v).2]; exact h.win v
      · rw [(hl v).1, (hl v).2]; exact h.put v
      · exact (h.frames v f hf).mono (Nat.le_refl _) (hpre (!v)) (by show _ ≤ _; rw [(hl (!v)).1, (hl (!v)).2]; exact Nat.le_refl _)
      · unfold set at ht
        by_cases e : v = w
        · subst e
          simp only [if_true] at ht
          rcases List.mem_append.1 ht with e2 | e2
          · exact h.small v t e2
          · rw [List.mem_singleton.1 e2]; omega
        · simp only [if_neg e] at ht; exact h.small v t ht
      · unfold set
        by_cases e : v = w
        · subst e; simp only [if_true, List.length_append, List.length_singleton]; omega
        · simp only [if_neg e]; exact h.many v
      · refine h.deaf v ?_
        unfold set at hv
        by_cases e : v = w
        · subst e; simpa using hv
        · simpa [if_neg e] using hv
      · rw [(hl v).2]
        refine h.mute v ?_
        unfold set at hv
        by_cases e : v = w
        · subst e; simpa using hv
        · simpa [if_neg e] using hv
      · have := h.most v
        unfold set
        by_cases e : v = w
        · subst e; simp only [if_true, List.length_append, List.length_singleton]; omega
        · simp only [if_neg e]; exact this
      · have := h.tks v; unfold set; by_cases e : v = w <;> simp_all
      · rw [(hl v).1]
        refine h.mint v ?_
        unfold set at hv
        by_cases e : v = w
        · subst e; simpa using hv
        · simpa [if_neg e] using hv
end Go.Proofs.Ythgfijmpofbchaa
/-
  What holds of two ends is kept by each turn; nothing of the program is in this text.
-/
namespace Go.Proofs.Ythgfijmpofbchaa
set_option linter.unusedSectionVars false
variable [Ep]

/-- One end is another, and nothing of what waits is. -/
theorem inv_end {p : PR} (h : Inv p) (w : Bool) (a : LK) (e1 : a.epoch = (p.l w).epoch) (e2 : a.peer = (p.l w).peer ∨ a.peer = ep (!w)) (e3 : a.taken = (p.l w).taken) (e4 : a.first = (p.l w).first) (e5 : a.wait = (p.l w).wait) (e6 : (p.l w).out ≤ a.out) (e7 : a.out ≤ a.wait.length) (e8 : a.due ≤ a.out) (e9 : a.out ≤ 8) (e10 : a.peer = 0 → a.out = 0) (e11 : a.ticks ≤ 2) : Inv { p with l := set p.l w a } := by
  have hl : ∀ v, (p.l v).first + (p.l v).out ≤ ((set p.l w a) v).first + ((set p.l w a) v).out := fun v => by
    unfold set
    by_cases e : v = w
    · subst e; simp only [if_true]; omega
    · simp only [if_neg e]; exact Nat.le_refl _
  have key : ∀ (q : Bool → LK → Prop), (∀ v, q v (p.l v)) → q w a → ∀ v, q v ((set p.l w a) v) := fun q hq hw v => by
    unfold set
    by_cases e : v = w
    · subst e; simp only [if_true]; exact hw
    · simp only [if_neg e]; exact hq v
  refine ⟨key (fun v l => l.epoch = ep v) h.ep (by rw [e1]; exact h.ep w), key (fun v l => l.peer = 0 ∨ l.peer = ep (!v)) h.peer ?_, key (fun v l => l.taken = (p.told v).length) h.took (by rw [e3]; exact h.took w), h.pre, key (fun v l => 1 ≤ l.first) h.one (by rw [e4]; exact h.one w), key (fun v l => (p.sent v).length + 1 = l.first + l.wait.length) h.len (by rw [e4, e5]; exact h.len w), key (fun v l => l.wait = (p.sent v).drop (l.first - 1)) h.wait (by rw [e4, e5]; exact h.wait w), key (fun v l => l.first ≤ (p.told (!v)).length + 1) h.ackd (by rw [e4]; exact h.ackd w), key (fun v l => l.out ≤ l.wait.length) h.outw e7, key (fun v l => l.due ≤ l.out) h.due e8, key (fun v l => l.out ≤ 8) h.win e9, fun v => Nat.le_trans (h.put v) (hl v), fun v f hf => (h.frames v f hf).mono (Nat.le_refl _) (List.prefix_refl _) (hl (!v)), h.small, h.many, key (fun v l => l.peer = 0 → p.told v = []) h.deaf (fun e => ?_), key (fun v l => l.peer = 0 → l.out = 0) h.mute e10, key (fun _ l => l.wait.length ≤ 32) h.most (by rw [e5]; exact h.most w), key (fun _ l => l.ticks ≤ 2) h.tks e11, key (fun _ l => l.peer = 0 → l.first = 1) h.mint (fun e => by rw [e4]; exact h.mint w (by have := ep_pos (!w); rcases e2 with e2 | e2 <;> omega))⟩
  rotate_left
  · rcases e2 with e2 | e2
    · exact h.deaf w (by rw [← e2]; exact e)
    · have := ep_pos (!w); omega
  rcases e2 with e | e
  · rw [e]; exact h.peer w
  · exact .inr e
theorem inv_tick {p : PR} (h : Inv p) (w : Bool) : Inv { p with l := set p.l w (p.l w).tick } := by
  have h1 := h.outw w
  have h2 := h.due w
  have h3 := h.win w
  have h4 := h.tks w
  unfold LK.tick
  by_cases c1 : (p.l w).peer = 0
  · simp only [if_pos c1]
    by_cases c2 : (p.l w).out = 0
    · simp only [if_pos c2]
      exact inv_end h w _ rfl (.inl rfl) rfl rfl rfl (Nat.le_refl _) h1 h2 h3 (h.mute w) h4
    · simp only [if_neg c2]
      by_cases c3 : (p.l w).ticks + 1 = 3
      · simp only [if_pos c3]
        exact inv_end h w _ rfl (.inl rfl) rfl rfl rfl (Nat.le_refl _) h1 (Nat.zero_le _) h3 (h.mute w) (Nat.zero_le _)
      · simp only [if_neg c3]
        exact inv_end h w _ rfl (.inl rfl) rfl rfl rfl (Nat.le_refl _) h1 h2 h3 (h.mute w) (by show (p.l w).ticks + 1 ≤ 2; omega)
  · simp only [if_neg c1]
    by_cases c2 : (p.l w).out = 0
    · simp only [if_pos c2]
      exact inv_end h w _ rfl (.inl rfl) rfl rfl rfl (Nat.le_refl _) h1 h2 h3 (h.mute w) h4
    · simp only [if_neg c2]
      by_cases c3 : (p.l w).ticks + 1 = 3
      · simp only [if_pos c3]
        exact inv_end h w _ rfl (.inl rfl) rfl rfl rfl (Nat.le_refl _) h1 (Nat.zero_le _) h3 (h.mute w) (Nat.zero_le _)
      · simp only [if_neg c3]
        exact inv_end h w _ rfl (.inl rfl) rfl rfl rfl (Nat.le_refl _) h1 h2 h3 (h.mute w) (by show (p.l w).ticks + 1 ≤ 2; omega)
/-- Frames more on the way. -/
theorem inv_way {p : PR} (h : Inv p) (way : Bool → List FR) (hw : ∀ v, ∀ f ∈ way v, FOK p v f) : Inv { p with way := way } :=
  ⟨h.ep, h.peer, h.took, h.pre, h.one, h.len, h.wait, h.ackd, h.outw, h.due, h.win, h.put, fun v f hf => ⟨(hw v f hf).epoch, (hw v f hf).peer, (hw v f hf).ack, (hw v f hf).seq⟩, h.small, h.many, h.deaf, h.mute, h.most, h.tks, h.mint⟩
theorem put_out (l : LK) (h1 : l.out ≤ l.wait.length) (h2 : l.due ≤ l.out) (h3 : l.out ≤ 8) : l.put.epoch = l.epoch ∧ l.put.peer = l.peer ∧ l.put.taken = l.taken ∧ l.put.first = l.first ∧ l.put.wait = l.wait ∧ l.out ≤ l.put.out ∧ l.put.out ≤ l.put.wait.length ∧ l.put.due ≤ l.put.out ∧ l.put.out ≤ 8 ∧ (l.peer ≠ 0 → ∀ k, k < l.top → l.due ≤ k → k < l.put.out) ∧ (l.peer = 0 → l.out = 0 → l.put.out = 0) ∧ l.put.ticks ≤ l.ticks := by
  unfold LK.put LK.top
  by_cases c : l.peer = 0 ∨ min 8 l.wait.length ≤ l.due
  · rw [if_pos c]
    exact ⟨rfl, rfl, rfl, rfl, rfl, Nat.le_refl _, h1, h2, h3, fun hp k hk hd => by rcases c with c | c <;> omega, fun _ e => e, Nat.le_refl _⟩
  · rw [if_neg c]
    exact ⟨rfl, rfl, rfl, rfl, rfl, by show l.out ≤ max l.out _; omega, by show max l.out _ ≤ l.wait.length; omega, by show min 8 l.wait.length ≤ max l.out _; omega, by show max l.out _ ≤ 8; omega, fun _ k hk _ => by show k < max l.out _; omega, fun e _ => absurd (.inl e) c, by show (if l.out = 0 then 0 else l.ticks) ≤ l.ticks; split <;> omega⟩
theorem inv_put {p : PR} (h : Inv p) (w : Bool) : Inv { p with l := set p.l w (p.l w).put, way := set p.way (!w) (p.way (!w) ++ (p.l w).outs) } := by
  obtain ⟨q1, q2, q3, q4, q5, q6, q7, q8, q9, q10, q11, q12⟩ := put_out (p.l w) (h.outw w) (h.due w) (h.win w)
  have hi := inv_end h w (p.l w).put q1 (.inl q2) q3 q4 q5 q6 q7 q8 q9 (fun e => q11 (by rw [← q2]; exact e) (h.mute w (by rw [← q2]; exact e))) (Nat.le_trans q12 (h.tks w))
  refine inv_way hi _ fun v f hf => ?_
  by_cases e : v = !w
  · subst e
    rw [set_same'] at hf
    rcases List.mem_append.1 hf with e2 | e2
    · exact hi.frames (!w) f e2
    · have hep := h.ep w
      have hpe := h.peer w
      have htk := h.took w
      have hww : (!(!w)) = w := Bool.not_not w
      rcases mem_outs e2 with rfl | ⟨hp, k, hk1, hk2, rfl⟩
      · refine ⟨?_, ?_, ?_, .inl ⟨rfl, rfl⟩⟩
        · show ((p.l w).epoch : Int) = _
          rw [hww, hep]
        · show ((p.l w).peer : Int) = 0 ∨ ((p.l w).peer : Int) = _
          rcases hpe with e3 | e3
          · exact .inl (by rw [e3]; rfl)
          · exact .inr (by rw [e3])
        · show 0 ≤ ((p.l w).taken : Int) ∧ ((p.l w).taken : Int) ≤ _
          rw [hww, htk]
          exact ⟨by omega, Int.le_refl _⟩
      · have hlen := h.len w
        have hone := h.one w
        have hwt := h.wait w
        have hkl : k < (p.l w).wait.length := by unfold LK.top at hk1; omega
        have hpe2 : (p.l w).peer = ep (!w) := by rcases hpe with e3 | e3
                                                 · exact absurd e3 hp
                                                 · exact e3
        refine ⟨?_, ?_, ?_, .inr ?_⟩
        · show ((p.l w).epoch : Int) = _
          rw [hww, hep]
        · exact .inr (by show ((p.l w).peer : Int) = _; rw [hpe2])
        · show 0 ≤ ((p.l w).taken : Int) ∧ ((p.l w).taken : Int) ≤ _
          rw [hww, htk]
          exact ⟨by omega, Int.le_refl _⟩
        · have hb : (p.l w).first - 1 + k < (p.sent w).length := by omega
          refine ⟨(p.l w).first - 1 + k, by rw [hww]; exact hb, ?_, ?_, ?_, ?_⟩
          · show ((p.l w).first : Int) + (k : Int) = _
            omega
          · show (p.l w).wait.getD k ⟨#[]⟩ = _
            have e5 : (p.l w).wait.getD k ⟨#[]⟩ = (p.sent w)[(p.l w).first - 1 + k] := by
              rw [List.getD_eq_getElem?_getD, hwt, List.getElem?_drop, List.getElem?_eq_getElem hb]
              rfl
            rw [e5]
            simp only [hww]
          · show ((p.l w).peer : Int) = _
            rw [hpe2]
          · show (p.l w).first - 1 + k + 2 ≤ (set p.l w (p.l w).put (!(!w))).first + (set p.l w (p.l w).put (!(!w))).out
            rw [hww, set_same, q4]
            have := q10 hp k hk1 hk2
            omega
  · have e3 : set p.way (!w) (p.way (!w) ++ (p.l w).outs) v = p.way v := if_neg e
    rw [e3] at hf
    exact hi.frames v f hf
/-- Bodies are acknowledged. -/
theorem inv_ack {p : PR} (h : Inv p) (w : Bool) (a : Nat) (ha : a ≤ (p.told (!w)).length) : Inv { p with l := set p.l w ((p.l w).ackd a) } := by
  unfold LK.ackd
  by_cases c : (p.l w).first ≤ a ∧ a + 1 ≤ (p.l w).first + (p.l w).out
  · rw [if_pos c]
    have hl : ∀ v, ((set p.l w { p.l w with wait := (p.l w).wait.drop (a + 1 - (p.l w).first), first := a + 1, out := (p.l w).out - (a + 1 - (p.l w).first), due := (p.l w).due - (a + 1 - (p.l w).first), ticks := 0 }) v).first + ((set p.l w { p.l w with wait := (p.l w).wait.drop (a + 1 - (p.l w).first), first := a + 1, out := (p.l w).out - (a + 1 - (p.l w).first), due := (p.l w).due - (a + 1 - (p.l w).first), ticks := 0 }) v).out = (p.l v).first + (p.l v).out := fun v => by
      unfold set
      by_cases e : v = w
      · subst e; simp only [if_true]; omega
      · simp only [if_neg e]
    have key : ∀ (q : Bool → LK → Prop), (∀ v, q v (p.l v)) → q w { p.l w with wait := (p.l w).wait.drop (a + 1 - (p.l w).first), first := a + 1, out := (p.l w).out - (a + 1 - (p.l w).first), due := (p.l w).due - (a + 1 - (p.l w).first), ticks := 0 } → ∀ v, q v ((set p.l w { p.l w with wait := (p.l w).wait.drop (a + 1 - (p.l w).first), first := a + 1, out := (p.l w).out - (a + 1 - (p.l w).first), due := (p.l w).due - (a + 1 - (p.l w).first), ticks := 0 }) v) := fun q hq hw v => by
      unfold set
      by_cases e : v = w
      · subst e; simp only [if_true]; exact hw
      · simp only [if_neg e]; exact hq v
    have h1 := h.len w
    have h2 := h.outw w
    have h3 := h.due w
    have h4 := h.win w
    have h5 := h.wait w
    have h6 := h.one w
    refine ⟨key (fun v l => l.epoch = ep v) h.ep (h.ep w), key (fun v l => l.peer = 0 ∨ l.peer = ep (!v)) h.peer (h.peer w), key (fun v l => l.taken = (p.told v).length) h.took (h.took w), h.pre, key (fun v l => 1 ≤ l.first) h.one (by show 1 ≤ a + 1; omega), key (fun v l => (p.sent v).length + 1 = l.first + l.wait.length) h.len ?_, key (fun v l => l.wait = (p.sent v).drop (l.first - 1)) h.wait ?_, key (fun v l => l.first ≤ (p.told (!v)).length + 1) h.ackd (by show a + 1 ≤ _; omega), key (fun v l => l.out ≤ l.wait.length) h.outw ?_, key (fun v l => l.due ≤ l.out) h.due (by show (p.l w).due - (a + 1 - (p.l w).first) ≤ (p.l w).out - (a + 1 - (p.l w).first); omega), key (fun v l => l.out ≤ 8) h.win (by show (p.l w).out - (a + 1 - (p.l w).first) ≤ 8; omega), fun v => by rw [hl v]; exact h.put v, fun v f hf => (h.frames v f hf).mono (Nat.le_refl _) (List.prefix_refl _) (by rw [hl (!v)]; exact Nat.le_refl _), h.small, h.many, key (fun v l => l.peer = 0 → p.told v = []) h.deaf (h.deaf w), key (fun v l => l.peer = 0 → l.out = 0) h.mute (fun e => by have := h.mute w e; show (p.l w).out - _ = 0; omega), key (fun _ l => l.wait.length ≤ 32) h.most (by show ((p.l w).wait.drop _).length ≤ 32; rw [List.length_drop]; have := h.most w; omega), key (fun _ l => l.ticks ≤ 2) h.tks (Nat.zero_le _), key (fun _ l => l.peer = 0 → l.first = 1) h.mint (fun e => by have := h.mute w e; omega)⟩
    · show (p.sent w).length + 1 = a + 1 + ((p.l w).wait.drop (a + 1 - (p.l w).first)).length
      rw [List.length_drop]
      omega
    · show (p.l w).wait.drop (a + 1 - (p.l w).first) = (p.sent w).drop (a + 1 - 1)
      rw [h5, List.drop_drop]
      congr 1
      omega
    · show (p.l w).out - (a + 1 - (p.l w).first) ≤ ((p.l w).wait.drop (a + 1 - (p.l w).first)).length
      rw [List.length_drop]
      omega
  · rw [if_neg c]
    exact inv_end h w _ rfl (.inl rfl) rfl rfl rfl (Nat.le_refl _) (h.outw w) (h.due w) (h.win w) (h.mute w) (h.tks w)
/-- A body is told. -/
theorem inv_told {p : PR} (h : Inv p) (w : Bool) (hk : (p.told w).length < (p.sent (!w)).length) (hp : (p.l w).peer ≠ 0) (ho : (p.told w).length + 2 ≤ (p.l (!w)).first + (p.l (!w)).out) : Inv { p with l := set p.l w { p.l w with taken := (p.l w).taken + 1, owes := true }, told := set p.told w (p.told w ++ [(p.sent (!w))[(p.told w).length]]) } := by
  have hl : ∀ v, ((set p.l w { p.l w with taken := (p.l w).taken + 1, owes := true }) v).first = (p.l v).first ∧ ((set p.l w { p.l w with taken := (p.l w).taken + 1, owes := true }) v).out = (p.l v).out ∧ ((set p.l w { p.l w with taken := (p.l w).taken + 1, owes := true }) v).wait = (p.l v).wait ∧ ((set p.l w { p.l w with taken := (p.l w).taken + 1, owes := true }) v).due = (p.l v).due ∧ ((set p.l w { p.l w with taken := (p.l w).taken + 1, owes := true }) v).epoch = (p.l v).epoch ∧ ((set p.l w { p.l w with taken := (p.l w).taken + 1, owes := true }) v).peer = (p.l v).peer := fun v => by
    unfold set
    by_cases e : v = w
    · subst e; simp only [if_true]; exact ⟨trivial, trivial, trivial, trivial, trivial, trivial⟩
    · simp only [if_neg e]; exact ⟨trivial, trivial, trivial, trivial, trivial, trivial⟩
  have ht : ∀ v, (p.told v).length ≤ ((set p.told w (p.told w ++ [(p.sent (!w))[(p.told w).length]])) v).length := fun v => by
    unfold set
    by_cases e : v = w
    · subst e; simp only [if_true, List.length_append]; omega
    · simp only [if_neg e]; exact Nat.le_refl _
  refine ⟨fun v => by rw [(hl v).2.2.2.2.1]; exact h.ep v, fun v => by rw [(hl v).2.2.2.2.2]; exact h.peer v, fun v => ?_, fun v => ?_, fun v => by rw [(hl v).1]; exact h.one v, fun v => by rw [(hl v).1, (hl v).2.2.1]; exact h.len v, fun v => by rw [(hl v).1, (hl v).2.2.1]; exact h.wait v, fun v => by rw [(hl v).1]; exact Nat.le_trans (h.ackd v) (Nat.succ_le_succ (ht (!v))), fun v => by rw [(hl v).2.1, (hl v).2.2.1]; exact h.outw v, fun v => by rw [(hl v).2.1, (hl v).2.2.2.1]; exact h.due v, fun v => by rw [(hl v).2.1]; exact h.win v, fun v => ?_, fun v f hf => (h.frames v f hf).mono (ht (!v)) (List.prefix_refl _) (by rw [(hl (!v)).1, (hl (!v)).2.1]; exact Nat.le_refl _), h.small, h.many, fun v hv => ?_, fun v hv => by rw [(hl v).2.2.2.2.2] at hv; rw [(hl v).2.1]; exact h.mute v hv, fun v => by rw [(hl v).2.2.1]; exact h.most v, fun v => by have := h.tks v; unfold set; by_cases e : v = w <;> simp_all, fun v hv => by rw [(hl v).2.2.2.2.2] at hv; rw [(hl v).1]; exact h.mint v hv⟩
  · have := h.took v
    unfold set
    by_cases e : v = w
    · subst e; simp only [if_true, List.length_append, List.length_singleton]; omega
    · simp only [if_neg e]; exact this
  · unfold set
    by_cases e : v = w
    · subst e
      simp only [if_true]
      obtain ⟨t, ht2⟩ := h.pre v
      have hne : t ≠ [] := fun e2 => by rw [e2, List.append_nil] at ht2; rw [ht2] at hk; omega
      cases t with
      | nil => exact absurd rfl hne
      | cons a t =>
        have e3 : (p.sent (!v))[(p.told v).length] = a := by
          simp only [← ht2]
          rw [List.getElem_append_right (Nat.le_refl _)]
          simp
        rw [e3]
        exact ⟨t, by rw [List.append_assoc]; exact ht2⟩
    · simp only [if_neg e]; exact h.pre v
  · rw [(hl v).1, (hl v).2.1]
    have := h.put v
    unfold set
    by_cases e : (!v) = w
    · have e2 : v = !w := by rw [← e, Bool.not_not]
      subst e2
      simp only [Bool.not_not, if_true, List.length_append, List.length_singleton]
      omega
    · simp only [if_neg e]; exact this
  · rw [(hl v).2.2.2.2.2] at hv
    unfold set
    by_cases e : v = w
    · subst e; exact absurd hv hp
    · simp only [if_neg e]; exact h.deaf v hv
theorem set_set {α : Type} (f : Bool → α) (w : Bool) (a c : α) : set (set f w a) w c = set f w c := by
  funext v
  unfold set
  split <;> rfl
theorem set_id {α : Type} (f : Bool → α) (w : Bool) : set f w (f w) = f := by
  funext v
  unfold set
  split <;> simp_all
/-- A frame that is on the way comes. -/
theorem take_of {p : PR} (h : Inv p) {w : Bool} {f : FR} (hf : FOK p w f) : ((p.l w).take f).1.2 = false ∧ Inv { p with l := set p.l w ((p.l w).take f).2, told := set p.told w (p.told w ++ ((p.l w).take f).1.1) } := by
  have hr := hf.right h
  have hep := h.ep w
  have hpe := h.peer w
  have hfe := hf.epoch
  have hpos := ep_pos (!w)
  have hpw := ep_pos w
  have htn : f.epoch.toNat = ep (!w) := by omega
  have hhear : (p.l w).hear f.epoch.toNat = (false, { p.l w with peer := ep (!w) }) := by
    unfold LK.hear
    rw [htn]
    rcases hpe with e | e
    · rw [if_neg (by omega), if_pos e]
      have h0 : (p.l w).taken = 0 := by rw [h.took w, h.deaf w e]; rfl
      rw [← h0]
    · rw [if_pos (by omega), ← e]
  have hnot : ¬ (¬ f.rightP ∨ f.epoch < (p.l w).peer) := fun e => by
    rcases e with e | e
    · exact e hr
    · rcases hpe with e2 | e2 <;> omega
  have h1 : Inv { p with l := set p.l w { p.l w with peer := ep (!w) } } := inv_end h w _ rfl (.inr rfl) rfl rfl rfl (Nat.le_refl _) (h.outw w) (h.due w) (h.win w) (fun e => absurd e (by show ep (!w) ≠ 0; omega)) (h.tks w)
  unfold LK.take
  rw [if_neg hnot, hhear]
  by_cases c : f.peer ≠ (p.l w).epoch
  · rw [if_pos c]
    refine ⟨rfl, ?_⟩
    have h2 := inv_end h w { p.l w with peer := ep (!w), owes := true } rfl (.inr rfl) rfl rfl rfl (Nat.le_refl _) (h.outw w) (h.due w) (h.win w) (fun e => absurd e (by show ep (!w) ≠ 0; omega)) (h.tks w)
    simp only [List.append_nil, set_id]
    exact h2
  · rw [if_neg c]
    refine ⟨rfl, ?_⟩
    have hak := hf.ack
    have h2 := inv_ack h1 w f.ack.toNat (by show f.ack.toNat ≤ (p.told (!w)).length; omega)
    simp only [set_set, set_same] at h2
    generalize hA : LK.ackd { p.l w with peer := ep (!w) } f.ack.toNat = A at *
    have ht : A.taken = (p.told w).length := by have := h2.took w; simpa [set_same] using this
    have hAp : A.peer ≠ 0 := by
      have : A.peer = ep (!w) := by rw [← hA]; unfold LK.ackd; split <;> rfl
      omega
    unfold LK.get
    by_cases c1 : f.seq.toNat = A.taken + 1
    · rw [if_pos c1]
      rcases hf.seq with ⟨e1, _⟩ | ⟨k, hk, e1, e2, _, e4⟩
      · omega
      · have hkk : k = (p.told w).length := by omega
        subst hkk
        have hoo : (p.told w).length + 2 ≤ ((set p.l w A) (!w)).first + ((set p.l w A) (!w)).out := by rw [set_other]; omega
        have h3 := inv_told h2 w hk (by show (set p.l w A w).peer ≠ 0; rw [set_same]; exact hAp) hoo
        simp only [set_set, set_same] at h3
        simp only [e2]
        exact h3
    · rw [if_neg c1]
      by_cases c2 : f.seq.toNat = 0
      · rw [if_pos c2]
        simp only [List.append_nil, set_id]
        exact h2
      · rw [if_neg c2]
        simp only [List.append_nil, set_id]
        have h3 := inv_end h2 w { A with owes := true } (by simp only [set_same]) (.inl (by simp only [set_same])) (by simp only [set_same]) (by simp only [set_same]) (by simp only [set_same]) (by simp only [set_same]; exact Nat.le_refl _) (by have := h2.outw w; simpa [set_same] using this) (by have := h2.due w; simpa [set_same] using this) (by have := h2.win w; simpa [set_same] using this) (fun e => absurd e hAp) (by have := h2.tks w; simpa [set_same] using this)
        simp only [set_set] at h3
        exact h3
end Go.Proofs.Ythgfijmpofbchaa
/-
  Two ends begin; frames are lost; what an end puts out; nothing of the program is in this text.
-/
namespace Go.Proofs.Ythgfijmpofbchaa
set_option linter.unusedSectionVars false
variable [Ep]

def PR.begin : PR := ⟨fun w => LK.new (ep w), fun _ => [], fun _ => [], fun _ => []⟩
theorem inv_begin : Inv PR.begin := by
  refine ⟨fun w => rfl, fun w => .inl rfl, fun w => rfl, fun w => List.prefix_refl _, fun w => Nat.le_refl _, fun w => rfl, fun w => rfl, fun w => Nat.le_refl _, fun w => Nat.le_refl _, fun w => Nat.le_refl _, fun w => Nat.zero_le _, fun w => Nat.le_refl _, fun w f hf => ?_, fun w s hs => ?_, fun w => Nat.zero_le _, fun w _ => rfl, fun w _ => rfl, fun w => Nat.zero_le _, fun w => Nat.zero_le _, fun w _ => rfl⟩
  · cases hf
  · cases hs
/-- A frame is taken off the way. -/
theorem inv_lose {p : PR} (h : Inv p) (w : Bool) (i : Nat) : Inv { p with way := set p.way w ((p.way w).take i ++ (p.way w).drop (i + 1)) } := by
  refine inv_way h _ fun v f hf => ?_
  by_cases e : v = w
  · subst e
    rw [set_same] at hf
    rcases List.mem_append.1 hf with e | e
    · exact h.frames v f (List.mem_of_mem_take e)
    · exact h.frames v f (List.mem_of_mem_drop e)
  · have e2 : set p.way w ((p.way w).take i ++ (p.way w).drop (i + 1)) v = p.way v := if_neg e
    rw [e2] at hf
    exact h.frames v f hf
/-- What LinkWindow asks of a frame that is put out. -/
theorem outs_window {p : PR} (h : Inv p) (w : Bool) {f : FR} (hf : f ∈ (p.l w).outs) : f.epoch = ep w ∧ f.peer = (p.l w).peer ∧ f.ack = (p.told w).length ∧ f.seq ≤ ((p.l w).first : Int) - 1 + 8 ∧ (0 < f.seq → ((p.l w).first : Int) - 1 < f.seq ∧ ∃ k, ∃ hk : k < (p.sent w).length, f.seq = (k : Int) + 1 ∧ f.body = (p.sent w)[k]) := by
  have hep := h.ep w
  have htk := h.took w
  have hone := h.one w
  rcases mem_outs hf with rfl | ⟨_, k, hk1, _, rfl⟩
  · refine ⟨?_, rfl, ?_, ?_, fun e => ?_⟩
    · show ((p.l w).epoch : Int) = _
      rw [hep]
    · show ((p.l w).taken : Int) = _
      rw [htk]
    · show (0 : Int) ≤ _
      omega
    · have : (0 : Int) < 0 := e
      omega
  · have hlen := h.len w
    have hwt := h.wait w
    have hk8 : k < 8 ∧ k < (p.l w).wait.length := by unfold LK.top at hk1; omega
    refine ⟨?_, rfl, ?_, ?_, fun _ => ⟨?_, ?_⟩⟩
    · show ((p.l w).epoch : Int) = _
      rw [hep]
    · show ((p.l w).taken : Int) = _
      rw [htk]
    · show ((p.l w).first : Int) + (k : Int) ≤ _
      omega
    · show _ < ((p.l w).first : Int) + (k : Int)
      omega
    · have hb : (p.l w).first - 1 + k < (p.sent w).length := by omega
      refine ⟨(p.l w).first - 1 + k, hb, ?_, ?_⟩
      · show ((p.l w).first : Int) + (k : Int) = _
        omega
      · show (p.l w).wait.getD k ⟨#[]⟩ = _
        rw [List.getD_eq_getElem?_getD, hwt, List.getElem?_drop, List.getElem?_eq_getElem hb]
        rfl
/-- How many wait. -/
theorem waits_le {p : PR} (h : Inv p) (w : Bool) : (p.sent w).length - (p.l w).wait.length = (p.l w).first - 1 := by
  have := h.len w
  have := h.one w
  omega
end Go.Proofs.Ythgfijmpofbchaa
/-
  Frames that come to an end that knows its peer; nothing of the program is in this text.
-/
namespace Go.Proofs.Ythgfijmpofbchaa

def takeL (l : LK) (fs : List FR) : LK := fs.foldl (fun l f => (l.take f).2) l
theorem take_known {l : LK} {f : FR} (hr : f.rightP) (he : f.epoch = l.peer) (hp : f.peer = l.epoch) (_h0 : l.peer ≠ 0) : (l.take f).2 = ((l.ackd f.ack.toNat).get f.seq.toNat f.body).2 := by
  unfold LK.take
  rw [if_neg (fun e => by rcases e with e | e; exact e hr; omega)]
  have hh : l.hear f.epoch.toNat = (false, l) := by
    unfold LK.hear
    rw [if_pos (by omega)]
  rw [hh]
  simp only
  rw [if_neg (fun e => e hp)]
/-- What acknowledging is about. -/
structure AC where
  wait : List ByteArray
  first : Nat
  out : Nat
  due : Nat
  ticks : Nat
def LK.ac (l : LK) : AC := ⟨l.wait, l.first, l.out, l.due, l.ticks⟩
def AC.ackd (c : AC) (a : Nat) : AC := if c.first ≤ a ∧ a + 1 ≤ c.first + c.out then ⟨c.wait.drop (a + 1 - c.first), a + 1, c.out - (a + 1 - c.first), c.due - (a + 1 - c.first), 0⟩ else c
theorem AC.twice (c : AC) (a : Nat) : (c.ackd a).ackd a = c.ackd a := by
  unfold AC.ackd
  by_cases h : c.first ≤ a ∧ a + 1 ≤ c.first + c.out
  · rw [if_pos h, if_neg (fun e => by have := e.1; simp only at this; omega)]
  · rw [if_neg h, if_neg h]
theorem ackd_ac (l : LK) (a : Nat) : (l.ackd a).ac = l.ac.ackd a ∧ (l.ackd a).epoch = l.epoch ∧ (l.ackd a).peer = l.peer ∧ (l.ackd a).taken = l.taken ∧ (l.ackd a).owes = l.owes := by
  unfold LK.ackd AC.ackd LK.ac
  by_cases h : l.first ≤ a ∧ a + 1 ≤ l.first + l.out
  · rw [if_pos h, if_pos h]; exact ⟨rfl, rfl, rfl, rfl, rfl⟩
  · rw [if_neg h, if_neg h]; exact ⟨rfl, rfl, rfl, rfl, rfl⟩
def tk (t s : Nat) : Nat := if s = t + 1 then t + 1 else t
theorem get_ac (l : LK) (s : Nat) (b : ByteArray) : (l.get s b).2.ac = l.ac ∧ (l.get s b).2.epoch = l.epoch ∧ (l.get s b).2.peer = l.peer ∧ (l.get s b).2.taken = tk l.taken s ∧ (l.get s b).2.owes = (l.owes || decide (s ≠ 0)) := by
  unfold LK.get tk
  by_cases h : s = l.taken + 1
  · rw [if_pos h, if_pos h]
    refine ⟨rfl, rfl, rfl, rfl, ?_⟩
    have : decide (s ≠ 0) = true := decide_eq_true (by omega)
    rw [this, Bool.or_true]
  · rw [if_neg h, if_neg h]
    by_cases h0 : s = 0
    · rw [if_pos h0]
      refine ⟨rfl, rfl, rfl, rfl, ?_⟩
      have : decide (s ≠ 0) = false := decide_eq_false (fun e => e h0)
      rw [this, Bool.or_false]
    · rw [if_neg h0]
      refine ⟨rfl, rfl, rfl, rfl, ?_⟩
      have : decide (s ≠ 0) = true := decide_eq_true h0
      rw [this, Bool.or_true]
/-- Frames of one acknowledgement, one behind the other. -/
theorem takeL_known (a : Nat) : ∀ (F : List FR) (l : LK), l.peer ≠ 0 → (∀ f ∈ F, f.rightP ∧ f.epoch = l.peer ∧ f.peer = l.epoch ∧ f.ack.toNat = a) → (takeL l F).epoch = l.epoch ∧ (takeL l F).peer = l.peer ∧ (takeL l F).ac = (if F = [] then l.ac else l.ac.ackd a) ∧ (takeL l F).taken = (F.map fun f => f.seq.toNat).foldl tk l.taken ∧ (takeL l F).owes = (l.owes || F.any fun f => decide (f.seq.toNat ≠ 0))
  | [], l, _, _ => ⟨rfl, rfl, rfl, rfl, by simp [takeL]⟩
  | f :: F, l, h0, hF => by
    obtain ⟨hr, he, hp, ha⟩ := hF f List.mem_cons_self
    have e1 := take_known hr he hp h0
    obtain ⟨a1, a2, a3, a4, a5⟩ := ackd_ac l f.ack.toNat
    obtain ⟨g1, g2, g3, g4, g5⟩ := get_ac (l.ackd f.ack.toNat) f.seq.toNat f.body
    rw [← e1] at g1 g2 g3 g4 g5
    rw [a1, ha] at g1
    rw [a2] at g2
    rw [a3] at g3
    rw [a4] at g4
    rw [a5] at g5
    have ih := takeL_known a F (l.take f).2 (by rw [g3]; exact h0) (fun q hq => by
      obtain ⟨q1, q2, q3, q4⟩ := hF q (List.mem_cons_of_mem _ hq)
      exact ⟨q1, by rw [g3]; exact q2, by rw [g2]; exact q3, q4⟩)
    obtain ⟨i1, i2, i3, i4, i5⟩ := ih
    have hstep : takeL l (f :: F) = takeL (l.take f).2 F := rfl
    rw [hstep]
    refine ⟨i1.trans g2, i2.trans g3, ?_, ?_, ?_⟩
    · rw [i3, g1, if_neg (List.cons_ne_nil f F)]
      split
      · rfl
      · exact AC.twice _ _
    · rw [i4, g4]; rfl
    · rw [i5, g5, List.any_cons, Bool.or_assoc]
/-- Numbers one behind the other. -/
theorem tk_run (t s m : Nat) : ((List.range m).map fun j => s + j).foldl tk t = if s ≤ t + 1 then max t (s + m - 1) else t := by
  induction m with
  | zero =>
    simp only [List.range_zero, List.map_nil, List.foldl_nil]
    split <;> omega
  | succ m ih =>
    rw [List.range_succ, List.map_append, List.foldl_append, ih]
    simp only [List.map_cons, List.map_nil, List.foldl_cons, List.foldl_nil]
    unfold tk
    split
    · split <;> omega
    · split <;> omega
end Go.Proofs.Ythgfijmpofbchaa
/-
  Numbers of a round; nothing of the program is in this text.
-/
namespace Go.Proofs.Ythgfijmpofbchaa

def phiN (N due ticks t fr : Nat) : Nat := if N = 0 then 0 else if t < due then 69 + (if 1 ≤ t then 4 else 0) + (3 - ticks) else if fr = 1 ∧ 1 ≤ t then 2 * N else if due < min 8 N then 2 * N + 1 else 2 * N + 4 - ticks
set_option maxHeartbeats 2000000 in
theorem round_num {N out due ticks t fr d1 t1 out2 due2 tk2 N' out' due' ticks' t2 t' fr' : Nat} (hfr : fr ≤ 1) (_hfr' : fr' ≤ 1) (h3 : t ≤ out) (h4 : out ≤ N) (h5 : due ≤ out) (h6 : out ≤ 8) (h7 : ticks ≤ 2) (h8 : N ≤ 32)
    (hd1 : d1 = if out ≠ 0 ∧ ticks = 2 then 0 else due) (ht1 : t1 = if out = 0 then ticks else if ticks = 2 then 0 else ticks + 1)
    (ho2 : out2 = if d1 < min 8 N then max out (min 8 N) else out) (hd2 : due2 = if d1 < min 8 N then min 8 N else d1) (hk2 : tk2 = if d1 < min 8 N ∧ out = 0 then 0 else t1)
    (ht2 : t2 = if d1 < min 8 N then (if d1 ≤ t then max t (min 8 N) else t) else t)
    (hN : N' = if fr = 1 ∧ 1 ≤ t then N - t else N) (hO : out' = if fr = 1 ∧ 1 ≤ t then out2 - t else out2) (hD : due' = if fr = 1 ∧ 1 ≤ t then due2 - t else due2) (hK : ticks' = if fr = 1 ∧ 1 ≤ t then 0 else tk2) (hT : t' = if fr = 1 ∧ 1 ≤ t then t2 - t else t2)
    (hf : d1 < min 8 N → fr' = 1) :
    (phiN N' due' ticks' t' fr' < phiN N due ticks t fr ∨ (N = 0 ∧ N' = 0)) ∧ t' ≤ out' ∧ out' ≤ N' ∧ due' ≤ out' ∧ out' ≤ 8 ∧ ticks' ≤ 2 ∧ N' ≤ 32 := by
  have hk2' : tk2 ≤ 2 := by
    rw [hk2, ht1]
    (repeat' split) <;> omega
  by_cases c1 : fr = 1 ∧ 1 ≤ t
  · rw [if_pos c1] at hN hO hD hK hT
    by_cases c2 : d1 < min 8 N
    · rw [if_pos c2] at ho2 hd2 ht2
      have c5 := hf c2
      by_cases c3 : out ≠ 0 ∧ ticks = 2
      · rw [if_pos c3] at hd1
        rw [if_pos (by omega)] at ht2
        refine ⟨?_, by omega, by omega, by omega, by omega, by omega, by omega⟩
        by_cases c4 : N = 0
        · exact .inr ⟨c4, by omega⟩
        · refine .inl ?_
          unfold phiN
          (repeat' split) <;> omega
      · rw [if_neg c3] at hd1
        by_cases c11 : d1 ≤ t
        · rw [if_pos c11] at ht2
          refine ⟨?_, by omega, by omega, by omega, by omega, by omega, by omega⟩
          by_cases c4 : N = 0
          · exact .inr ⟨c4, by omega⟩
          · refine .inl ?_
            unfold phiN
            (repeat' split) <;> omega
        · rw [if_neg c11] at ht2
          refine ⟨?_, by omega, by omega, by omega, by omega, by omega, by omega⟩
          by_cases c4 : N = 0
          · exact .inr ⟨c4, by omega⟩
          · refine .inl ?_
            unfold phiN
            (repeat' split) <;> omega
    · rw [if_neg c2] at ho2 hd2 ht2
      by_cases c3 : out ≠ 0 ∧ ticks = 2
      · rw [if_pos c3] at hd1
        refine ⟨?_, by omega, by omega, by omega, by omega, by omega, by omega⟩
        by_cases c4 : N = 0
        · exact .inr ⟨c4, by omega⟩
        · refine .inl ?_
          unfold phiN
          (repeat' split) <;> omega
      · rw [if_neg c3] at hd1
        refine ⟨?_, by omega, by omega, by omega, by omega, by omega, by omega⟩
        by_cases c4 : N = 0
        · exact .inr ⟨c4, by omega⟩
        · refine .inl ?_
          unfold phiN
          (repeat' split) <;> omega
  · rw [if_neg c1] at hN hO hD hK hT
    by_cases c2 : d1 < min 8 N
    · rw [if_pos c2] at ho2 hd2 ht2
      have c5 := hf c2
      by_cases c3 : out ≠ 0 ∧ ticks = 2
      · rw [if_pos c3] at hd1
        rw [if_pos (by omega)] at ht2
        rw [if_neg c3.1, if_pos c3.2] at ht1
        rw [if_neg (fun e => c3.1 e.2)] at hk2
        refine ⟨?_, by omega, by omega, by omega, by omega, by omega, by omega⟩
        by_cases c4 : N = 0
        · exact .inr ⟨c4, by omega⟩
        · refine .inl ?_
          unfold phiN
          (repeat' split) <;> omega
      · rw [if_neg c3] at hd1
        by_cases c12 : out = 0
        · rw [if_pos c12] at ht1
          rw [if_pos ⟨c2, c12⟩] at hk2
          rw [if_pos (by omega)] at ht2
          refine ⟨?_, by omega, by omega, by omega, by omega, by omega, by omega⟩
          by_cases c4 : N = 0
          · exact .inr ⟨c4, by omega⟩
          · refine .inl ?_
            unfold phiN
            (repeat' split) <;> omega
        · rw [if_neg c12, if_neg (fun e => c3 ⟨c12, e⟩)] at ht1
          rw [if_neg (fun e => c12 e.2)] at hk2
          by_cases c11 : d1 ≤ t
          · rw [if_pos c11] at ht2
            refine ⟨?_, by omega, by omega, by omega, by omega, by omega, by omega⟩
            by_cases c4 : N = 0
            · exact .inr ⟨c4, by omega⟩
            · refine .inl ?_
              unfold phiN
              (repeat' split) <;> omega
          · rw [if_neg c11] at ht2
            refine ⟨?_, by omega, by omega, by omega, by omega, by omega, by omega⟩
            by_cases c4 : N = 0
            · exact .inr ⟨c4, by omega⟩
            · refine .inl ?_
              unfold phiN
              (repeat' split) <;> omega
    · rw [if_neg c2] at ho2 hd2 ht2
      rw [if_neg (fun e => c2 e.1)] at hk2
      by_cases c3 : out ≠ 0 ∧ ticks = 2
      · rw [if_pos c3] at hd1
        rw [if_neg c3.1, if_pos c3.2] at ht1
        refine ⟨?_, by omega, by omega, by omega, by omega, by omega, by omega⟩
        by_cases c4 : N = 0
        · exact .inr ⟨c4, by omega⟩
        · refine .inl ?_
          unfold phiN
          (repeat' split) <;> omega
      · rw [if_neg c3] at hd1
        by_cases c12 : out = 0
        · rw [if_pos c12] at ht1
          refine ⟨?_, by omega, by omega, by omega, by omega, by omega, by omega⟩
          by_cases c4 : N = 0
          · exact .inr ⟨c4, by omega⟩
          · refine .inl ?_
            unfold phiN
            (repeat' split) <;> omega
        · rw [if_neg c12, if_neg (fun e => c3 ⟨c12, e⟩)] at ht1
          refine ⟨?_, by omega, by omega, by omega, by omega, by omega, by omega⟩
          by_cases c4 : N = 0
          · exact .inr ⟨c4, by omega⟩
          · refine .inl ?_
            unfold phiN
            (repeat' split) <;> omega
end Go.Proofs.Ythgfijmpofbchaa
/-
  A round of two ends that know one another: what waits grows less; nothing of the program is in this text.
-/
namespace Go.Proofs.Ythgfijmpofbchaa

theorem tick_known {x : LK} (hp : x.peer ≠ 0) : x.tick = { x with ticks := (if x.out = 0 then x.ticks else if x.ticks = 2 then 0 else x.ticks + 1), due := (if x.out ≠ 0 ∧ x.ticks = 2 then 0 else x.due) } := by
  unfold LK.tick
  simp only [if_neg hp]
  by_cases c : x.out = 0
  · rw [if_pos c, if_pos c, if_neg (fun e => e.1 c)]
  · rw [if_neg c, if_neg c]
    by_cases d : x.ticks = 2
    · rw [if_pos (by omega), if_pos d, if_pos ⟨c, d⟩]
    · rw [if_neg (by omega), if_neg d, if_neg (fun e => d e.2)]
def LK.due1 (x : LK) : Nat := if x.out ≠ 0 ∧ x.ticks = 2 then 0 else x.due
def LK.ticks1 (x : LK) : Nat := if x.out = 0 then x.ticks else if x.ticks = 2 then 0 else x.ticks + 1
theorem put_known {x : LK} (hp : x.peer ≠ 0) : x.tick.put.ac = ⟨x.wait, x.first, if x.due1 < x.top then max x.out x.top else x.out, if x.due1 < x.top then x.top else x.due1, if x.due1 < x.top ∧ x.out = 0 then 0 else x.ticks1⟩ ∧ x.tick.put.epoch = x.epoch ∧ x.tick.put.peer = x.peer ∧ x.tick.put.taken = x.taken ∧ x.tick.put.owes = false := by
  rw [tick_known hp]
  unfold LK.put LK.due1 LK.ticks1 LK.ac
  generalize hd : (if x.out ≠ 0 ∧ x.ticks = 2 then 0 else x.due) = d
  generalize ht : (if x.out = 0 then x.ticks else if x.ticks = 2 then 0 else x.ticks + 1) = t
  have htop : ({ x with ticks := t, due := d } : LK).top = x.top := rfl
  simp only [htop]
  by_cases c : x.top ≤ d
  · rw [if_pos (.inr c), if_neg (by omega), if_neg (by omega), if_neg (fun e => by omega)]
    exact ⟨rfl, rfl, rfl, rfl, rfl⟩
  · have hc : d < x.top := by omega
    have hn : ¬ (x.peer = 0 ∨ x.top ≤ d) := fun e => by rcases e with e | e; exact hp e; exact c e
    rw [if_neg hn]
    refine ⟨?_, rfl, rfl, rfl, rfl⟩
    by_cases c2 : x.out = 0 <;> simp [c2, hc]
theorem outs_known {x : LK} (hp : x.peer ≠ 0) : (x.tick.outs.map fun f => f.seq.toNat) = (if x.due1 < x.top then (List.range (x.top - x.due1)).map fun j => (x.first + x.due1) + j else if x.owes = true then [0] else []) ∧ ∀ f ∈ x.tick.outs, f.epoch = x.epoch ∧ f.peer = x.peer ∧ f.ack = x.taken := by
  rw [tick_known hp]
  unfold LK.due1
  generalize hd : (if x.out ≠ 0 ∧ x.ticks = 2 then 0 else x.due) = d
  generalize ht : (if x.out = 0 then x.ticks else if x.ticks = 2 then 0 else x.ticks + 1) = t
  have htop : ({ x with ticks := t, due := d } : LK).top = x.top := rfl
  constructor
  · unfold LK.outs LK.frames
    simp only [if_neg hp, htop]
    by_cases c : d < x.top
    · rw [if_pos c]
      have hne : ((List.range (x.top - d)).map fun j => ({ x with ticks := t, due := d } : LK).frame (d + j)) ≠ [] := fun e => by
        have := congrArg List.length e
        simp only [List.length_map, List.length_range, List.length_nil] at this
        omega
      rw [if_neg (fun e => hne e.1), List.map_map]
      refine List.map_congr_left fun j _ => ?_
      show ((x.first : Int) + ((d + j : Nat) : Int)).toNat = x.first + d + j
      omega
    · rw [if_neg c]
      have e0 : x.top - d = 0 := by omega
      rw [e0]
      simp only [List.range_zero, List.map_nil, true_and]
      by_cases o : x.owes = true
      · rw [if_pos o, if_pos o]; rfl
      · rw [if_neg o, if_neg o]; rfl
  · intro f hf
    rcases mem_outs hf with rfl | ⟨_, k, _, _, rfl⟩
    · exact ⟨rfl, rfl, rfl⟩
    · exact ⟨rfl, rfl, rfl⟩
def fr (y : LK) : Bool := !(y.tick.outs).isEmpty
theorem fr_owes {y : LK} (hp : y.peer ≠ 0) (h : y.owes = true) : fr y = true := by
  have h1 := (outs_known hp).1
  unfold fr
  cases ho : y.tick.outs with
  | nil =>
    rw [ho] at h1
    simp only [List.map_nil] at h1
    split at h1
    · have := congrArg List.length h1
      simp only [List.length_map, List.length_range, List.length_nil] at this
      omega
    · cases h1
  | cons f F => rfl
def frN (y : LK) : Nat := if fr y = true then 1 else 0
/-- What is left to do, for x, whose peer is y. -/
def phi (x y : LK) : Nat := phiN x.wait.length x.due x.ticks (y.taken + 1 - x.first) (frN y)
structure Two2 (x y : LK) : Prop where
  px : x.peer ≠ 0
  py : y.peer ≠ 0
  ep : (x.peer = y.epoch ∧ y.peer = x.epoch)
  one : 1 ≤ x.first
  lo : x.first ≤ y.taken + 1
  hi : y.taken + 1 ≤ x.first + x.out
  outw : x.out ≤ x.wait.length
  due : x.due ≤ x.out
  win : x.out ≤ 8
  tk : x.ticks ≤ 2
  most : x.wait.length ≤ 32
/-- Both ends behind a round. -/
theorem round_phi {x y : LK} (h : Two2 x y) (hx : ∀ f ∈ x.tick.outs, f.rightP) (hy : ∀ f ∈ y.tick.outs, f.rightP) :
    (phi (takeL x.tick.put y.tick.outs) (takeL y.tick.put x.tick.outs) < phi x y ∨ (x.wait.length = 0 ∧ (takeL x.tick.put y.tick.outs).wait.length = 0)) ∧ Two2 (takeL x.tick.put y.tick.outs) (takeL y.tick.put x.tick.outs) := by
  obtain ⟨hpx, hpy, ⟨hep1, hep2⟩, h1, h2, h3, h4, h5, h6, h7, h8⟩ := h
  obtain ⟨p1, p2, p3, p4, p5⟩ := put_known hpx
  obtain ⟨r1, r2, r3, r4, r5⟩ := put_known hpy
  obtain ⟨o1, o2⟩ := outs_known hpx
  obtain ⟨v1, v2⟩ := outs_known hpy
  obtain ⟨a1, a2, a3, a4, a5⟩ := takeL_known y.taken y.tick.outs x.tick.put (by rw [p3]; exact hpx) (fun f hf => by
    obtain ⟨q1, q2, q3⟩ := v2 f hf
    exact ⟨hy f hf, by rw [q1, p3, hep1], by rw [q2, p2, hep2], by rw [q3]; rfl⟩)
  obtain ⟨b1, b2, b3, b4, b5⟩ := takeL_known x.taken x.tick.outs y.tick.put (by rw [r3]; exact hpy) (fun f hf => by
    obtain ⟨q1, q2, q3⟩ := o2 f hf
    exact ⟨hx f hf, by rw [q1, r3, hep2], by rw [q2, r2, hep1], by rw [q3]; rfl⟩)
  rw [o1, r4] at b4
  have hb4 : (takeL y.tick.put x.tick.outs).taken = if x.due1 < x.top then (if x.first + x.due1 ≤ y.taken + 1 then max y.taken (x.first + x.top - 1) else y.taken) else y.taken := by
    rw [b4]
    by_cases c : x.due1 < x.top
    · rw [if_pos c, if_pos c, tk_run]
      have : x.first + x.due1 + (x.top - x.due1) - 1 = x.first + x.top - 1 := by omega
      rw [this]
    · rw [if_neg c, if_neg c]
      split
      · show tk y.taken 0 = y.taken
        unfold tk
        rw [if_neg (by omega)]
      · rfl
  have hb5 : x.due1 < x.top → fr (takeL y.tick.put x.tick.outs) = true := fun c => by
    refine fr_owes (by rw [b2, r3]; exact hpy) ?_
    rw [b5, r5, Bool.false_or, List.any_eq_true]
    rw [if_pos c] at o1
    have h0 : (x.first + x.due1) + 0 ∈ x.tick.outs.map fun f => f.seq.toNat := by
      rw [o1]
      exact List.mem_map.2 ⟨0, List.mem_range.2 (by omega), rfl⟩
    obtain ⟨f, hf, e⟩ := List.mem_map.1 h0
    exact ⟨f, hf, decide_eq_true (by omega)⟩
  have hfr : fr y = decide (y.tick.outs ≠ []) := by
    unfold fr
    cases y.tick.outs with
    | nil => rfl
    | cons f F => rfl
  have hXa : (takeL x.tick.put y.tick.outs).ac = if fr y = true then (x.tick.put.ac).ackd y.taken else x.tick.put.ac := by
    rw [a3, hfr]
    by_cases e : y.tick.outs = []
    · rw [if_pos e, if_neg (by simp [e])]
    · rw [if_neg e, if_pos (by simp [e])]
  rw [p1] at hXa
  have hpX : (takeL x.tick.put y.tick.outs).peer = x.peer := a2.trans p3
  have heX : (takeL x.tick.put y.tick.outs).epoch = x.epoch := a1.trans p2
  have hpY : (takeL y.tick.put x.tick.outs).peer = y.peer := b2.trans r3
  have heY : (takeL y.tick.put x.tick.outs).epoch = y.epoch := b1.trans r2
  clear a1 a2 a3 a4 a5 b1 b2 b3 b4 b5 p1 p2 p3 p4 p5 r1 r2 r3 r4 r5 o1 o2 v1 v2 hfr hx hy
  generalize takeL x.tick.put y.tick.outs = X at *
  generalize takeL y.tick.put x.tick.outs = Y at *
  have htop : x.top = min 8 x.wait.length := rfl
  rw [htop] at hXa hb4 hb5
  have ho2 : x.out ≤ if x.due1 < min 8 x.wait.length then max x.out (min 8 x.wait.length) else x.out := by split <;> omega
  have hfN : frN y ≤ 1 := by unfold frN; split <;> omega
  have hfN' : frN Y ≤ 1 := by unfold frN; split <;> omega
  have hc : (fr y = true ∧ x.first ≤ y.taken) ↔ (frN y = 1 ∧ 1 ≤ y.taken + 1 - x.first) := by
    unfold frN
    by_cases e : fr y = true
    · rw [if_pos e]; exact ⟨fun h => ⟨rfl, by have := h.2; omega⟩, fun h => ⟨e, by have := h.2; omega⟩⟩
    · rw [if_neg e]; exact ⟨fun h => absurd h.1 e, fun h => absurd h.1 (by decide)⟩
  have hnum : X.wait.length = (if frN y = 1 ∧ 1 ≤ y.taken + 1 - x.first then x.wait.length - (y.taken + 1 - x.first) else x.wait.length) ∧ X.first = (if frN y = 1 ∧ 1 ≤ y.taken + 1 - x.first then y.taken + 1 else x.first) ∧ X.out = (if frN y = 1 ∧ 1 ≤ y.taken + 1 - x.first then (if x.due1 < min 8 x.wait.length then max x.out (min 8 x.wait.length) else x.out) - (y.taken + 1 - x.first) else (if x.due1 < min 8 x.wait.length then max x.out (min 8 x.wait.length) else x.out)) ∧ X.due = (if frN y = 1 ∧ 1 ≤ y.taken + 1 - x.first then (if x.due1 < min 8 x.wait.length then min 8 x.wait.length else x.due1) - (y.taken + 1 - x.first) else (if x.due1 < min 8 x.wait.length then min 8 x.wait.length else x.due1)) ∧ X.ticks = (if frN y = 1 ∧ 1 ≤ y.taken + 1 - x.first then 0 else (if x.due1 < min 8 x.wait.length ∧ x.out = 0 then 0 else x.ticks1)) := by
    have k1 : X.wait = X.ac.wait := rfl
    have k2 : X.first = X.ac.first := rfl
    have k3 : X.out = X.ac.out := rfl
    have k4 : X.due = X.ac.due := rfl
    have k5 : X.ticks = X.ac.ticks := rfl
    rw [k1, k2, k3, k4, k5, hXa]
    by_cases e : frN y = 1 ∧ 1 ≤ y.taken + 1 - x.first
    · have e1 := hc.2 e
      rw [if_pos e1.1]
      unfold AC.ackd
      rw [if_pos ⟨e1.2, by show y.taken + 1 ≤ x.first + (if x.due1 < min 8 x.wait.length then max x.out (min 8 x.wait.length) else x.out); omega⟩, if_pos e, if_pos e, if_pos e, if_pos e, if_pos e]
      exact ⟨List.length_drop, rfl, rfl, rfl, rfl⟩
    · rw [if_neg e, if_neg e, if_neg e, if_neg e, if_neg e]
      by_cases e1 : fr y = true
      · rw [if_pos e1]
        unfold AC.ackd
        rw [if_neg (fun e2 => e (hc.1 ⟨e1, e2.1⟩))]
        exact ⟨rfl, rfl, rfl, rfl, rfl⟩
      · rw [if_neg e1]
        exact ⟨rfl, rfl, rfl, rfl, rfl⟩
  obtain ⟨n1, n2, n3, n4, n5⟩ := hnum
  have hT : Y.taken + 1 - X.first = if frN y = 1 ∧ 1 ≤ y.taken + 1 - x.first then (if x.due1 < min 8 x.wait.length then (if x.due1 ≤ y.taken + 1 - x.first then max (y.taken + 1 - x.first) (min 8 x.wait.length) else y.taken + 1 - x.first) else y.taken + 1 - x.first) - (y.taken + 1 - x.first) else (if x.due1 < min 8 x.wait.length then (if x.due1 ≤ y.taken + 1 - x.first then max (y.taken + 1 - x.first) (min 8 x.wait.length) else y.taken + 1 - x.first) else y.taken + 1 - x.first) := by
    rw [n2, hb4]
    by_cases e : frN y = 1 ∧ 1 ≤ y.taken + 1 - x.first
    · rw [if_pos e, if_pos e]
      by_cases c : x.due1 < min 8 x.wait.length
      · rw [if_pos c, if_pos c]
        by_cases d : x.first + x.due1 ≤ y.taken + 1
        · rw [if_pos d, if_pos (by omega)]; omega
        · rw [if_neg d, if_neg (by omega)]; omega
      · rw [if_neg c, if_neg c]; omega
    · rw [if_neg e, if_neg e]
      by_cases c : x.due1 < min 8 x.wait.length
      · rw [if_pos c, if_pos c]
        by_cases d : x.first + x.due1 ≤ y.taken + 1
        · rw [if_pos d, if_pos (by omega)]; omega
        · rw [if_neg d, if_neg (by omega)]
      · rw [if_neg c, if_neg c]
  have hYt : y.taken ≤ Y.taken := by
    rw [hb4]
    (repeat' split) <;> omega
  have hR := round_num (N := x.wait.length) (out := x.out) (due := x.due) (ticks := x.ticks) (t := y.taken + 1 - x.first) (fr := frN y) (d1 := x.due1) (t1 := x.ticks1) (fr' := frN Y) hfN hfN' (by omega) h4 h5 h6 h7 h8 rfl rfl rfl rfl rfl rfl n1 n3 n4 n5 hT (fun c => by unfold frN; rw [if_pos (hb5 c)])
  obtain ⟨m1, m2, m3, m4, m5, m6, m7⟩ := hR
  have hf1 : X.first ≤ Y.taken + 1 := by rw [n2]; split <;> omega
  have hf2 : 1 ≤ X.first := by rw [n2]; split <;> omega
  exact ⟨m1, ⟨by rw [hpX]; exact hpx, by rw [hpY]; exact hpy, ⟨by rw [hpX, heY]; exact hep1, by rw [hpY, heX]; exact hep2⟩, hf2, hf1, by omega, m3, m4, m5, m6, m7⟩⟩
end Go.Proofs.Ythgfijmpofbchaa
/-
  Rounds: all that was sent is told; nothing of the program is in this text.
-/
namespace Go.Proofs.Ythgfijmpofbchaa
set_option linter.unusedSectionVars false
variable [Ep]

def PR.tk (p : PR) (w : Bool) : PR := { p with l := set p.l w (p.l w).tick }
def PR.pt (p : PR) (w : Bool) : PR := { p with l := set p.l w (p.l w).put, way := set p.way (!w) (p.way (!w) ++ (p.l w).outs) }
/-- The first frame on the way comes. -/
def PR.one (p : PR) (w : Bool) (f : FR) (fs : List FR) : PR := { p with way := set p.way w fs, l := set p.l w ((p.l w).take f).2, told := set p.told w (p.told w ++ ((p.l w).take f).1.1) }
/-- All that are on the way come. -/
def PR.all (p : PR) (w : Bool) : List FR → PR
  | [] => p
  | f :: fs => PR.all (p.one w f fs) w fs
def PR.round (p : PR) : PR :=
  let a := (((p.tk false).pt false).tk true).pt true
  let c := a.all false (a.way false)
  c.all true (c.way true)
theorem inv_one {p : PR} (h : Inv p) {w : Bool} {f : FR} {fs : List FR} (hw : p.way w = f :: fs) : Inv (p.one w f fs) ∧ ((p.l w).take f).1.2 = false := by
  have hf := h.frames w f (by rw [hw]; exact List.mem_cons_self)
  have h1 : Inv { p with way := set p.way w fs } := by
    have := inv_lose h w 0
    rw [hw] at this
    simpa using this
  have h2 := take_of h1 (w := w) (f := f) ⟨hf.epoch, hf.peer, hf.ack, hf.seq⟩
  exact ⟨h2.2, h2.1⟩
theorem inv_all : ∀ {fs : List FR} {p : PR} {w : Bool}, Inv p → p.way w = fs → Inv (p.all w fs) ∧ (p.all w fs).way = set p.way w [] ∧ (p.all w fs).sent = p.sent ∧ (p.all w fs).l = set p.l w (takeL (p.l w) fs)
  | [], p, w, h, hw => by
    refine ⟨h, ?_, rfl, ?_⟩
    · show p.way = _
      rw [← hw, set_id]
    · show p.l = _
      exact (set_id p.l w).symm
  | f :: fs, p, w, h, hw => by
    have h1 := (inv_one h hw).1
    obtain ⟨i1, i2, i3, i4⟩ := inv_all (fs := fs) (p := p.one w f fs) (w := w) h1 (set_same _ _ _)
    refine ⟨i1, ?_, i3, ?_⟩
    · show (PR.all (p.one w f fs) w fs).way = _
      rw [i2]
      exact set_set _ _ _ _
    · show (PR.all (p.one w f fs) w fs).l = _
      rw [i4]
      show set (set p.l w ((p.l w).take f).2) w (takeL ((set p.l w ((p.l w).take f).2) w) fs) = _
      rw [set_set, set_same]
      rfl
theorem round_of {p : PR} (h : Inv p) : Inv p.round ∧ (∀ w, p.round.way w = []) ∧ p.round.sent = p.sent ∧ p.round.l false = takeL (p.l false).tick.put (p.way false ++ (p.l true).tick.outs) ∧ p.round.l true = takeL (p.l true).tick.put (p.way true ++ (p.l false).tick.outs) := by
  have h1 := inv_put (inv_tick (inv_put (inv_tick h false) false) true) true
  have ha : Inv ((((p.tk false).pt false).tk true).pt true) := h1
  generalize haE : (((p.tk false).pt false).tk true).pt true = a at *
  have wf : a.way false = p.way false ++ (p.l true).tick.outs := by rw [← haE]; rfl
  have wt : a.way true = p.way true ++ (p.l false).tick.outs := by rw [← haE]; rfl
  have lf : a.l false = (p.l false).tick.put := by rw [← haE]; rfl
  have lt : a.l true = (p.l true).tick.put := by rw [← haE]; rfl
  have sa : a.sent = p.sent := by rw [← haE]; rfl
  obtain ⟨i1, i2, i3, i4⟩ := inv_all (fs := a.way false) ha rfl
  generalize hcE : a.all false (a.way false) = c at *
  obtain ⟨j1, j2, j3, j4⟩ := inv_all (fs := c.way true) i1 rfl
  have hround : p.round = c.all true (c.way true) := by
    unfold PR.round
    simp only [haE, hcE]
  rw [hround]
  have wct : c.way true = a.way true := by rw [i2]; rfl
  refine ⟨j1, fun w => ?_, by rw [j3, i3, sa], ?_, ?_⟩
  · rw [j2]
    cases w with
    | false => show c.way false = []; rw [i2]; rfl
    | true => rfl
  · rw [j4]
    show c.l false = _
    rw [i4]
    show takeL (a.l false) (a.way false) = _
    rw [lf, wf]
  · rw [j4]
    show takeL (c.l true) (c.way true) = _
    rw [wct, i4]
    show takeL (a.l true) (a.way true) = _
    rw [lt, wt]
/-- Frames that come leave an end knowing whom it knows. -/
theorem take_peer (l : LK) (f : FR) (h : l.peer ≠ 0) : (l.take f).2.peer ≠ 0 := by
  unfold LK.take
  split
  · exact h
  · have hh : (l.hear f.epoch.toNat).2.peer ≠ 0 := by
      unfold LK.hear
      by_cases e1 : f.epoch.toNat ≤ l.peer
      · rw [if_pos e1]; exact h
      · rw [if_neg e1, if_neg h]
        show f.epoch.toNat ≠ 0
        omega
    simp only
    split
    · exact hh
    · obtain ⟨_, _, g3, _, _⟩ := get_ac ((l.hear f.epoch.toNat).2.ackd f.ack.toNat) f.seq.toNat f.body
      obtain ⟨_, _, a3, _, _⟩ := ackd_ac (l.hear f.epoch.toNat).2 f.ack.toNat
      rw [g3, a3]
      exact hh
theorem takeL_peer (l : LK) (fs : List FR) (h : l.peer ≠ 0) : (takeL l fs).peer ≠ 0 := by
  induction fs generalizing l with
  | nil => exact h
  | cons f fs ih => exact ih _ (take_peer l f h)
/-- A right frame makes its sender known. -/
theorem take_hears (l : LK) (f : FR) (hr : f.rightP) (he : ¬ f.epoch < l.peer) : (l.take f).2.peer ≠ 0 := by
  have h1 := hr.1
  unfold LK.take
  rw [if_neg (fun e => by rcases e with e | e; exact e hr; exact he e)]
  have hh : (l.hear f.epoch.toNat).2.peer ≠ 0 := by
    unfold LK.hear
    by_cases e1 : f.epoch.toNat ≤ l.peer
    · rw [if_pos e1]
      show l.peer ≠ 0
      omega
    · rw [if_neg e1]
      by_cases e2 : l.peer = 0
      · rw [if_pos e2]; show f.epoch.toNat ≠ 0; omega
      · rw [if_neg e2]; show f.epoch.toNat ≠ 0; omega
  simp only
  split
  · exact hh
  · obtain ⟨_, _, g3, _, _⟩ := get_ac ((l.hear f.epoch.toNat).2.ackd f.ack.toNat) f.seq.toNat f.body
    obtain ⟨_, _, a3, _, _⟩ := ackd_ac (l.hear f.epoch.toNat).2 f.ack.toNat
    rw [g3, a3]
    exact hh
theorem takeL_append (l : LK) (a b : List FR) : takeL l (a ++ b) = takeL (takeL l a) b := List.foldl_append
theorem ep_lt (p : PR) (h : Inv p) (w : Bool) : (p.l w).peer = 0 ∨ (p.l w).peer = ep (!w) := h.peer w
/-- What an end that knows nobody puts out. -/
theorem outs_deaf {x : LK} (hp : x.peer = 0) (ho : x.out = 0) : x.tick.outs = [x.tick.bare] ∧ x.tick.bare.peer = 0 ∧ x.tick.bare.epoch = x.epoch ∧ x.tick.peer = 0 := by
  have e : x.tick = { x with owes := true } := by
    unfold LK.tick
    simp only [if_pos hp]
    rw [if_pos ho]
  rw [e]
  refine ⟨?_, ?_, rfl, hp⟩
  · unfold LK.outs LK.frames
    simp only [if_pos hp]
    rfl
  · show (x.peer : Int) = 0
    rw [hp]; rfl
/-- A frame to another epoch leaves it owing. -/
theorem take_owes (l : LK) (f : FR) (hr : f.rightP) (he : ¬ f.epoch < l.peer) (hp : f.peer ≠ l.epoch) : (l.take f).2.owes = true := by
  unfold LK.take
  rw [if_neg (fun e => by rcases e with e | e; exact e hr; exact he e)]
  have hh : (l.hear f.epoch.toNat).2.epoch = l.epoch := by
    unfold LK.hear
    by_cases e1 : f.epoch.toNat ≤ l.peer
    · rw [if_pos e1]
    · rw [if_neg e1]
      by_cases e2 : l.peer = 0
      · rw [if_pos e2]
      · rw [if_neg e2]
  simp only [hh]
  rw [if_pos hp]
/-- The round's ends, by which one. -/
theorem round_l {p : PR} (h : Inv p) (w : Bool) : p.round.l w = takeL (p.l w).tick.put (p.way w ++ (p.l (!w)).tick.outs) := by
  obtain ⟨_, _, _, h1, h2⟩ := round_of h
  cases w with
  | false => exact h1
  | true => exact h2
theorem tickput_peer {p : PR} (h : Inv p) (w : Bool) : (p.l w).tick.put.peer = (p.l w).peer := by
  have h1 := inv_tick h w
  obtain ⟨_, q2, _⟩ := put_out (p.l w).tick (by have := h1.outw w; simpa [set_same] using this) (by have := h1.due w; simpa [set_same] using this) (by have := h1.win w; simpa [set_same] using this)
  rw [q2]
  unfold LK.tick
  by_cases c : (p.l w).peer = 0
  · simp only [if_pos c]
    by_cases d : (p.l w).out = 0
    · rw [if_pos d]
    · rw [if_neg d]; split <;> rfl
  · simp only [if_neg c]
    by_cases d : (p.l w).out = 0
    · rw [if_pos d]
    · rw [if_neg d]; split <;> rfl
/-- Frames of the other end, in a round, are right, and not of an elder epoch. -/
theorem round_frames {p : PR} (h : Inv p) (w : Bool) {f : FR} (hf : f ∈ p.way w ++ (p.l (!w)).tick.outs) : f.rightP ∧ f.epoch = ep (!w) := by
  rcases List.mem_append.1 hf with e | e
  · have := h.frames w f e
    exact ⟨this.right h, this.epoch⟩
  · have h1 := inv_put (inv_tick h (!w)) (!w)
    have hm := h1.frames w f (by
      show f ∈ set p.way (!(!w)) (p.way (!(!w)) ++ ((set p.l (!w) (p.l (!w)).tick) (!w)).outs) w
      rw [Bool.not_not, set_same, set_same]
      exact List.mem_append_right _ e)
    exact ⟨hm.right h1, hm.epoch⟩
theorem round_keeps {p : PR} (h : Inv p) (w : Bool) (hk : (p.l w).peer ≠ 0) : (p.round.l w).peer ≠ 0 := by
  rw [round_l h w]
  exact takeL_peer _ _ (by rw [tickput_peer h w]; exact hk)
/-- Whoever hears anything knows its peer. -/
theorem round_hears {p : PR} (h : Inv p) (w : Bool) (hne : p.way w ++ (p.l (!w)).tick.outs ≠ []) : (p.round.l w).peer ≠ 0 := by
  rw [round_l h w]
  cases hF : p.way w ++ (p.l (!w)).tick.outs with
  | nil => exact absurd hF hne
  | cons f fs =>
    obtain ⟨hr, he⟩ := round_frames h w (f := f) (by rw [hF]; exact List.mem_cons_self)
    have hp : (p.l w).tick.put.peer = (p.l w).peer := tickput_peer h w
    show (takeL ((p.l w).tick.put.take f).2 fs).peer ≠ 0
    refine takeL_peer _ _ (take_hears _ f hr ?_)
    rw [hp, he]
    have := h.peer w
    have := ep_pos (!w)
    rcases h.peer w with e | e <;> omega
/-- An end, behind what was on the way to it. -/
theorem mid_of {p : PR} (h : Inv p) (v : Bool) : ∃ r : PR, Inv r ∧ r.l v = takeL (p.l v).tick.put (p.way v) := by
  have h1 := inv_put (inv_tick h v) v
  have hq : Inv ((p.tk v).pt v) := h1
  have hw : ((p.tk v).pt v).way v = p.way v := by
    show set p.way (!v) _ v = p.way v
    exact set_other' _ _ _
  have hl : ((p.tk v).pt v).l v = (p.l v).tick.put := by
    show set (set p.l v (p.l v).tick) v (set p.l v (p.l v).tick v).put v = _
    rw [set_same, set_same]
  obtain ⟨i1, _, _, i4⟩ := inv_all (fs := p.way v) hq hw
  exact ⟨_, i1, by rw [i4, set_same, hl]⟩
theorem outs_owes {x : LK} (hm : x.peer = 0 → x.out = 0) (ho : x.owes = true) : x.tick.outs ≠ [] := by
  by_cases hp : x.peer = 0
  · rw [(outs_deaf hp (hm hp)).1]
    exact List.cons_ne_nil _ _
  · have := fr_owes hp ho
    unfold fr at this
    intro e
    rw [e] at this
    exact absurd this (by decide)
/-- Behind two rounds both know one another. -/
theorem known_two {p : PR} (h : Inv p) (w : Bool) : (p.round.round.l w).peer ≠ 0 := by
  have h1 := (round_of h).1
  by_cases hk : (p.round.l w).peer ≠ 0
  · exact round_keeps h1 w hk
  · have hp0 : (p.l w).peer = 0 := Classical.byContradiction fun e => hk (round_keeps h w e)
    obtain ⟨o1, o2, o3, _⟩ := outs_deaf hp0 (h.mute w hp0)
    have hown : (p.round.l (!w)).owes = true := by
      rw [round_l h (!w), Bool.not_not, o1, takeL_append]
      obtain ⟨hr, _⟩ := round_frames h (!w) (f := (p.l w).tick.bare) (by rw [Bool.not_not, o1]; exact List.mem_append_right _ List.mem_cons_self)
      obtain ⟨r, hi, hl⟩ := mid_of h (!w)
      have he := hi.ep (!w)
      have hp := hi.peer (!w)
      rw [Bool.not_not] at hp
      rw [hl] at he hp
      have hpw := ep_pos (!w)
      have hpp := ep_pos w
      have hew := h.ep w
      show ((takeL (p.l (!w)).tick.put (p.way (!w))).take (p.l w).tick.bare).2.owes = true
      refine take_owes _ _ hr ?_ ?_
      · rw [o3, hew]
        rcases hp with e | e <;> omega
      · rw [o2, he]
        omega
    refine round_hears h1 w ?_
    intro e
    exact outs_owes (h1.mute (!w)) hown (List.append_eq_nil_iff.1 e).2
/-- Rounds. -/
def PR.rounds (p : PR) : Nat → PR
  | 0 => p
  | n + 1 => (p.rounds n).round
theorem inv_rounds {p : PR} (h : Inv p) (n : Nat) : Inv (p.rounds n) := by
  induction n with
  | zero => exact h
  | succ n ih => exact (round_of ih).1
theorem sent_rounds {p : PR} (h : Inv p) (n : Nat) : (p.rounds n).sent = p.sent := by
  induction n with
  | zero => rfl
  | succ n ih => exact (round_of (inv_rounds h n)).2.2.1.trans ih
/-- Two ends that know one another, and nothing on the way. -/
theorem two2_of {p : PR} (h : Inv p) (hk : ∀ w, (p.l w).peer ≠ 0) (w : Bool) : Two2 (p.l w) (p.l (!w)) := by
  have hp : ∀ v, (p.l v).peer = ep (!v) := fun v => by
    rcases h.peer v with e | e
    · exact absurd e (hk v)
    · exact e
  refine ⟨hk w, hk (!w), ⟨by rw [hp w, h.ep (!w)], by rw [hp (!w), h.ep w, Bool.not_not]⟩, h.one w, ?_, ?_, h.outw w, h.due w, h.win w, h.tks w, h.most w⟩
  · have := h.ackd w
    have := h.took (!w)
    omega
  · have := h.put w
    have := h.took (!w)
    omega
theorem round_less {p : PR} (h : Inv p) (hk : ∀ w, (p.l w).peer ≠ 0) (hw : ∀ w, p.way w = []) (w : Bool) : phi (p.round.l w) (p.round.l (!w)) < phi (p.l w) (p.l (!w)) ∨ ((p.l w).wait.length = 0 ∧ (p.round.l w).wait.length = 0) := by
  have hx : ∀ f ∈ (p.l w).tick.outs, f.rightP := fun f hf => (round_frames h (!w) (f := f) (by rw [Bool.not_not]; exact List.mem_append_right _ hf)).1
  have hy : ∀ f ∈ (p.l (!w)).tick.outs, f.rightP := fun f hf => (round_frames h w (f := f) (List.mem_append_right _ hf)).1
  have := (round_phi (two2_of h hk w) hx hy).1
  rw [round_l h w, round_l h (!w), hw w, hw (!w), Bool.not_not, List.nil_append, List.nil_append]
  exact this
theorem phi_le (x y : LK) (h1 : x.wait.length ≤ 32) (_h2 : x.ticks ≤ 2) : phi x y ≤ 76 := by
  unfold phi phiN
  (repeat' split) <;> omega
theorem phi_zero {x y : LK} (h2 : x.ticks ≤ 2) (h : phi x y = 0) : x.wait.length = 0 := by
  unfold phi phiN at h
  refine Classical.byContradiction fun e => ?_
  rw [if_neg e] at h
  revert h
  (repeat' split) <;> omega
/-- Behind enough rounds nothing waits. -/
theorem none_waits {p : PR} (h : Inv p) (n : Nat) (w : Bool) : ((p.rounds (2 + n)).l w).wait.length = 0 ∨ phi ((p.rounds (2 + n)).l w) ((p.rounds (2 + n)).l (!w)) + n ≤ 76 := by
  have hk : ∀ n v, ((p.rounds (2 + n)).l v).peer ≠ 0 := fun n v => by
    induction n with
    | zero => exact known_two h v
    | succ n ih => exact round_keeps (inv_rounds h (2 + n)) v ih
  have hway : ∀ n v, (p.rounds (2 + n)).way v = [] := fun n v => by
    have e : p.rounds (2 + n) = (p.rounds (1 + n)).round := by
      have : 2 + n = (1 + n) + 1 := by omega
      rw [this]; rfl
    rw [e]
    exact (round_of (inv_rounds h (1 + n))).2.1 v
  induction n with
  | zero => exact .inr (phi_le _ _ ((inv_rounds h 2).most w) ((inv_rounds h 2).tks w))
  | succ n ih =>
    have e : p.rounds (2 + (n + 1)) = (p.rounds (2 + n)).round := rfl
    rw [e]
    have hi := inv_rounds h (2 + n)
    rcases round_less hi (hk n) (hway n) w with hl | ⟨_, hz⟩
    · rcases ih with hz | hb
      · have h0 : phi ((p.rounds (2 + n)).l w) ((p.rounds (2 + n)).l (!w)) = 0 := by
          unfold phi phiN
          rw [if_pos hz]
        omega
      · exact .inr (by omega)
    · exact .inl hz
theorem all_told_n {p : PR} (h : Inv p) (n : Nat) (hn : 77 ≤ n) (w : Bool) : ((p.rounds (2 + n)).l w).wait.length = 0 ∧ ((p.rounds (2 + n)).told (!w)).length = ((p.rounds (2 + n)).sent w).length := by
  have hi := inv_rounds h (2 + n)
  have hz : ((p.rounds (2 + n)).l w).wait.length = 0 := by
    rcases none_waits h n w with e | e
    · exact e
    · omega
  refine ⟨hz, ?_⟩
  have h1 := hi.len w
  have h2 := hi.ackd w
  have h3 := (hi.pre (!w)).length_le
  rw [Bool.not_not] at h3
  omega
/-- Enough rounds, in which all that goes out comes: each end told all that was sent at the other one. -/
theorem all_told {p : PR} (h : Inv p) (m : Nat) (hm : 79 ≤ m) (w : Bool) : ((p.rounds m).l w).wait.length = 0 ∧ ((p.rounds m).told (!w)).length = ((p.rounds m).sent w).length := by
  have e : m = 2 + (m - 2) := by omega
  rw [e]
  exact all_told_n h (m - 2) (by omega) w
end Go.Proofs.Ythgfijmpofbchaa
/-
  A frame to another epoch; an end that begins again: what is told then; nothing of the program is in this text.
-/
namespace Go.Proofs.Ythgfijmpofbchaa

/-- What LinkDeaf asks. -/
theorem deaf_of {l : LK} (he : l.epoch = 3) (hp : l.peer = 0 ∨ l.peer = 5) {f : FR} (h5 : f.epoch ≤ 5) (h53 : ¬ (f.epoch = 5 ∧ f.peer = 3)) : (l.take f).1.2 = false ∧ (l.peer ≠ 0 → f.epoch ≤ l.peer) ∧ (¬ (f.peer = 3 ∧ (l.peer : Int) < f.epoch) → (l.take f).1.1 = [] ∧ (l.take f).2.wait = l.wait) := by
  refine and_assoc.1 ⟨?_, ?_⟩
  · refine ⟨?_, fun e => by rcases hp with e2 | e2 <;> omega⟩
    unfold LK.take
    by_cases c : ¬ f.rightP ∨ f.epoch < l.peer
    · rw [if_pos c]
    · rw [if_neg c]
      have hh : (l.hear f.epoch.toNat).1 = false := by
        unfold LK.hear
        by_cases c1 : f.epoch.toNat ≤ l.peer
        · rw [if_pos c1]
        · rw [if_neg c1, if_pos (by omega)]
      simp only [hh]
      split <;> rfl
  · intro hn
    unfold LK.take
    by_cases c : ¬ f.rightP ∨ f.epoch < l.peer
    · rw [if_pos c]; exact ⟨rfl, rfl⟩
    · rw [if_neg c]
      have hr : f.rightP := Classical.byContradiction fun e => c (.inl e)
      have hle : ¬ f.epoch < l.peer := fun e => c (.inr e)
      have h1 := hr.1
      have hx : f.peer ≠ 3 := fun e => by
        rcases hp with e2 | e2
        · exact hn ⟨e, by omega⟩
        · exact h53 ⟨by omega, e⟩
      have hw : (l.hear f.epoch.toNat).2.wait = l.wait ∧ (l.hear f.epoch.toNat).2.epoch = l.epoch := by
        unfold LK.hear
        by_cases c1 : f.epoch.toNat ≤ l.peer
        · rw [if_pos c1]; exact ⟨rfl, rfl⟩
        · rw [if_neg c1, if_pos (by omega)]; exact ⟨rfl, rfl⟩
      simp only [hw.2, he]
      rw [if_pos (by exact hx)]
      exact ⟨rfl, hw.1⟩
@[reducible] def Ep.a : Ep := ⟨fun w => if w then 5 else 3, fun w => by cases w <;> decide⟩
@[reducible] def Ep.b : Ep := ⟨fun w => if w then 9 else 3, fun w => by cases w <;> decide⟩
theorem hear_le {l : LK} {e : Nat} (h : e ≤ l.peer) : l.hear e = (false, l) := by
  unfold LK.hear
  rw [if_pos h]
/-- A frame comes: first of a greater epoch, then as of the one that is known. -/
theorem take_hear {l : LK} {f : FR} (hr : f.rightP) (he : (l.peer : Int) < f.epoch) : l.take f = ((((l.hear f.epoch.toNat).2.take f).1.1, decide (l.peer ≠ 0)), ((l.hear f.epoch.toNat).2.take f).2) := by
  have c : ¬ (¬ f.rightP ∨ f.epoch < l.peer) := fun e => by
    rcases e with e | e
    · exact e hr
    · omega
  have hp : (l.hear f.epoch.toNat).2.peer = f.epoch.toNat := by
    unfold LK.hear
    rw [if_neg (by omega)]
    split <;> rfl
  have h1 : (l.hear f.epoch.toNat).1 = decide (l.peer ≠ 0) := by
    unfold LK.hear
    rw [if_neg (by omega)]
    by_cases e : l.peer = 0
    · rw [if_pos e]; simp [e]
    · rw [if_neg e]; simp [e]
  have c2 : ¬ (¬ f.rightP ∨ f.epoch < (l.hear f.epoch.toNat).2.peer) := fun e => by
    rcases e with e | e
    · exact e hr
    · omega
  have h2 : (l.hear f.epoch.toNat).2.hear f.epoch.toNat = (false, (l.hear f.epoch.toNat).2) := hear_le (Nat.le_of_eq hp.symm)
  have e1 : l.take f = if f.peer ≠ (l.hear f.epoch.toNat).2.epoch then (([], (l.hear f.epoch.toNat).1), { (l.hear f.epoch.toNat).2 with owes := true }) else (((((l.hear f.epoch.toNat).2.ackd f.ack.toNat).get f.seq.toNat f.body).1, (l.hear f.epoch.toNat).1), (((l.hear f.epoch.toNat).2.ackd f.ack.toNat).get f.seq.toNat f.body).2) := by
    unfold LK.take
    rw [if_neg c]
  generalize l.hear f.epoch.toNat = H at *
  have e2 : H.2.take f = if f.peer ≠ H.2.epoch then (([], false), { H.2 with owes := true }) else ((((H.2.ackd f.ack.toNat).get f.seq.toNat f.body).1, false), ((H.2.ackd f.ack.toNat).get f.seq.toNat f.body).2) := by
    unfold LK.take
    rw [if_neg c2, h2]
  rw [e1, e2, h1]
  split <;> rfl
end Go.Proofs.Ythgfijmpofbchaa
/-
  Each deed of two ends once more, with the frames apart; nothing of the program is in this text.
-/
namespace Go.Proofs.Ythgfijmpofbchaa
set_option linter.unusedSectionVars false
variable [Ep]
def PR.snd (p : PR) (w : Bool) (s : ByteArray) : PR := { p with l := set p.l w ((p.l w).send s).2, sent := if ((p.l w).send s).1 = 0 then set p.sent w (p.sent w ++ [s]) else p.sent }
def PR.ptt (p : PR) (w : Bool) : PR := { p with l := set p.l w (p.l w).put }
def PR.tke (p : PR) (w : Bool) (f : FR) : PR := { p with l := set p.l w ((p.l w).take f).2, told := set p.told w (p.told w ++ ((p.l w).take f).1.1) }
def PR.stale (p : PR) (w : Bool) : PR := { p with l := set p.l w { p.l w with peer := ep (!w), owes := true } }
theorem FOK.conv {p p' : PR} {w : Bool} {f : FR} (h : FOK p w f) (e1 : p'.told = p.told) (e2 : p'.sent = p.sent) (e3 : p'.l = p.l) : FOK p' w f := by
  obtain ⟨l, way, sent, told⟩ := p
  obtain ⟨l', way', sent', told'⟩ := p'
  subst e1 e2 e3
  exact ⟨h.epoch, h.peer, h.ack, h.seq⟩
theorem fok_of {p p' : PR} (step : ∀ way, (∀ v, ∀ g ∈ way v, FOK p v g) → Inv { p' with way := way }) {w : Bool} {f : FR} (hf : FOK p w f) : FOK p' w f := by
  have h1 := (step (set (fun _ => []) w [f]) fun v g hg => ?_).frames w f (by show f ∈ set (fun _ => []) w [f] w; rw [set_same]; exact List.mem_singleton.2 rfl)
  · exact h1.conv rfl rfl rfl
  · by_cases e : v = w
    · subst e
      rw [set_same] at hg
      rw [List.mem_singleton.1 hg]
      exact hf
    · have e2 : set (fun _ => []) w [f] v = [] := if_neg e
      rw [e2] at hg
      cases hg
theorem send_step {p : PR} (h : Inv p) (w : Bool) (s : ByteArray) (hm : (p.sent w).length < 1000000) : Inv (p.snd w s) ∧ ∀ v f, FOK p v f → FOK (p.snd w s) v f :=
  ⟨inv_send h w s hm, fun _ _ hf => fok_of (fun way hw => inv_send (inv_way h way hw) w s hm) hf⟩
theorem tick_step {p : PR} (h : Inv p) (w : Bool) : Inv (p.tk w) ∧ ∀ v f, FOK p v f → FOK (p.tk w) v f :=
  ⟨inv_tick h w, fun _ _ hf => fok_of (fun way hw => inv_tick (inv_way h way hw) w) hf⟩
theorem take_step {p : PR} (h : Inv p) {w : Bool} {f : FR} (hf : FOK p w f) : ((p.l w).take f).1.2 = false ∧ Inv (p.tke w f) ∧ ∀ v g, FOK p v g → FOK (p.tke w f) v g :=
  ⟨(take_of h hf).1, (take_of h hf).2, fun _ _ hg => fok_of (fun way hw => (take_of (inv_way h way hw) (hf.conv rfl rfl rfl)).2) hg⟩
theorem stale_step {p : PR} (h : Inv p) (w : Bool) : Inv (p.stale w) ∧ ∀ v f, FOK p v f → FOK (p.stale w) v f := by
  have hp := ep_pos (!w)
  have key : ∀ {p : PR}, Inv p → Inv (p.stale w) := fun {p} h => inv_end h w _ rfl (.inr rfl) rfl rfl rfl (Nat.le_refl _) (h.outw w) (h.due w) (h.win w) (fun e => absurd e (by show ep (!w) ≠ 0; omega)) (h.tks w)
  exact ⟨key h, fun _ _ hf => fok_of (fun way hw => key (inv_way h way hw)) hf⟩
theorem put_step {p : PR} (h : Inv p) (w : Bool) : Inv (p.ptt w) ∧ (∀ v f, FOK p v f → FOK (p.ptt w) v f) ∧ ∀ f ∈ (p.l w).outs, FOK (p.ptt w) (!w) f := by
  have key : ∀ {p : PR}, Inv p → Inv (p.ptt w) := fun {p} h => by
    have h1 := inv_put h w
    refine (inv_way h1 p.way fun v f hf => ?_)
    refine h1.frames v f ?_
    show f ∈ set p.way (!w) (p.way (!w) ++ (p.l w).outs) v
    by_cases e : v = !w
    · subst e
      rw [set_same]
      exact List.mem_append_left _ hf
    · have e2 : set p.way (!w) (p.way (!w) ++ (p.l w).outs) v = p.way v := if_neg e
      rw [e2]
      exact hf
  refine ⟨key h, fun _ _ hf => fok_of (fun way hw => key (inv_way h way hw)) hf, fun f hf => ?_⟩
  have h1 := (inv_put h w).frames (!w) f (by show f ∈ set p.way (!w) (p.way (!w) ++ (p.l w).outs) (!w); rw [set_same]; exact List.mem_append_right _ hf)
  exact h1.conv rfl rfl rfl
/-- One end begins with another that heard nothing of it yet. -/
theorem inv_join {r : PR} (h : Inv r) (hs : r.sent false = []) (ht : ∀ w, r.told w = []) (a : LK) (e1 : a.epoch = (r.l false).epoch) (e2 : a.peer = ep true) (e3 : a.first = 1) (e4 : a.out = 0) (e5 : a.due = 0) (e6 : a.taken = 0) (e7 : a.ticks ≤ 2) (e8 : a.wait.length ≤ 32) (e9 : ∀ s ∈ a.wait, s.size ≤ 100000) : Inv { r with l := set r.l false a, sent := set r.sent false a.wait, way := fun _ => [] } := by
  have key : ∀ (q : Bool → LK → Prop), q false a → q true (r.l true) → ∀ v, q v ((set r.l false a) v) := fun q hq hw v => by
    cases v
    · exact hq
    · exact hw
  have _ := hs
  refine ⟨key (fun v l => l.epoch = ep v) (by rw [e1]; exact h.ep false) (h.ep true), key (fun v l => l.peer = 0 ∨ l.peer = ep (!v)) (.inr e2) (h.peer true), key (fun v l => l.taken = (r.told v).length) (by rw [e6, ht]; rfl) (h.took true), fun v => by show r.told v <+: _; rw [ht]; exact List.nil_prefix, key (fun v l => 1 ≤ l.first) (by omega) (h.one true), key (fun v l => ((set r.sent false a.wait) v).length + 1 = l.first + l.wait.length) (by show a.wait.length + 1 = _; omega) (h.len true), key (fun v l => l.wait = ((set r.sent false a.wait) v).drop (l.first - 1)) (by show a.wait = a.wait.drop _; rw [e3]; rfl) (h.wait true), key (fun v l => l.first ≤ (r.told (!v)).length + 1) (by omega) (h.ackd true), key (fun v l => l.out ≤ l.wait.length) (by omega) (h.outw true), key (fun v l => l.due ≤ l.out) (by omega) (h.due true), key (fun v l => l.out ≤ 8) (by omega) (h.win true), key (fun v l => (r.told (!v)).length + 1 ≤ l.first + l.out) (by rw [ht, e3]; show 0 + 1 ≤ 1 + a.out; omega) (h.put true), fun v f hf => (by cases hf), fun v => ?_, fun v => ?_, fun v _ => ht v, key (fun v l => l.peer = 0 → l.out = 0) (fun _ => e4) (h.mute true), key (fun _ l => l.wait.length ≤ 32) e8 (h.most true), key (fun _ l => l.ticks ≤ 2) e7 (h.tks true), key (fun _ l => l.peer = 0 → l.first = 1) (fun _ => e3) (h.mint true)⟩
  · cases v
    · exact e9
    · exact h.small true
  · cases v
    · show a.wait.length ≤ _
      omega
    · exact h.many true
end Go.Proofs.Ythgfijmpofbchaa
/-
  One end begins again: what holds of both, deed by deed; nothing of the program is in this text.
-/
namespace Go.Proofs.Ythgfijmpofbchaa

/-- The first end (false), the new one (true); what was sent at the first one, at the new one; what the new one was told, the first one of it. -/
structure AN where
  l : Bool → LK
  way : Bool → List FR
  sent : List ByteArray
  own : List ByteArray
  told : List ByteArray
  mine : List ByteArray
  first : Nat
  resets : Nat
/-- The first one did not hear of the new one yet: with the old one it is q, the new one with nobody is r. -/
structure PhA (x : AN) (q r : PR) : Prop where
  qa : @Inv Ep.a q
  rb : @Inv Ep.b r
  ql : q.l false = x.l false
  qs : q.sent false = x.sent
  rl : r.l true = x.l true
  re : (r.l false).epoch = 3
  rs : r.sent false = []
  ro : r.sent true = x.own
  rt : ∀ w, r.told w = []
  way0 : ∀ f ∈ x.way false, @FOK Ep.a q false f ∨ @FOK Ep.b r false f
  way1 : ∀ f ∈ x.way true, f.rightP ∧ f.epoch = 3 ∧ f.peer ≠ 9
  none : x.told = [] ∧ x.mine = [] ∧ x.resets = 0
/-- It did: both are s. -/
structure PhB (x : AN) (s : PR) : Prop where
  sb : @Inv Ep.b s
  sl : s.l = x.l
  sp : (x.l false).peer ≠ 0
  so : s.sent true = x.own
  sm : s.told false = x.mine
  st : s.told true = x.told
  ss : ∃ pre, x.sent = pre ++ s.sent false ∧ (0 < x.resets → pre.length = x.first)
  re : x.resets ≤ 1
  way0 : ∀ f ∈ x.way false, @FOK Ep.b s false f ∨ f.epoch < 9
  way1 : ∀ f ∈ x.way true, @FOK Ep.b s true f ∨ (f.rightP ∧ f.epoch = 3 ∧ f.peer ≠ 9)
def AI (x : AN) : Prop := (∃ q r, PhA x q r) ∨ ∃ s, PhB x s
def AN.send (x : AN) (w : Bool) (b : ByteArray) : AN := { x with l := set x.l w ((x.l w).send b).2, sent := if ((x.l w).send b).1 = 0 ∧ w = false then x.sent ++ [b] else x.sent, own := if ((x.l w).send b).1 = 0 ∧ w = true then x.own ++ [b] else x.own }
def AN.put (x : AN) (w : Bool) : AN := { x with l := set x.l w (x.l w).put, way := set x.way (!w) (x.way (!w) ++ (x.l w).outs) }
def AN.tick (x : AN) (w : Bool) : AN := { x with l := set x.l w (x.l w).tick }
def AN.take (x : AN) (w : Bool) (f : FR) : AN := { x with l := set x.l w ((x.l w).take f).2, resets := if ((x.l w).take f).1.2 = true then x.resets + 1 else x.resets, first := if ((x.l w).take f).1.2 = true then x.sent.length else x.first, told := if w = true then x.told ++ ((x.l w).take f).1.1 else x.told, mine := if w = false ∧ f.epoch = 9 then x.mine ++ ((x.l w).take f).1.1 else x.mine }
/-- What LinkAnew asks in the end. -/
theorem AI.fin {x : AN} (h : AI x) : x.resets ≤ 1 ∧ (0 < x.resets → x.told <+: x.sent.drop x.first) ∧ x.mine <+: x.own := by
  rcases h with ⟨q, r, h⟩ | ⟨s, h⟩
  · obtain ⟨e1, e2, e3⟩ := h.none
    refine ⟨by omega, fun e => by omega, ?_⟩
    rw [e2]
    exact List.nil_prefix
  · refine ⟨h.re, fun e => ?_, ?_⟩
    · obtain ⟨pre, e1, e2⟩ := h.ss
      rw [e1, ← e2 e, List.drop_left, ← h.st]
      exact @Inv.pre Ep.b s h.sb true
    · rw [← h.sm, ← h.so]
      exact @Inv.pre Ep.b s h.sb false
theorem tick_peer (l : LK) : l.tick.peer = l.peer := by
  unfold LK.tick
  by_cases e : l.peer = 0
  · simp only [if_pos e]
    (repeat' split) <;> first | exact e.symm | rfl
  · simp only [if_neg e]
    (repeat' split) <;> rfl
theorem put_peer (l : LK) : l.put.peer = l.peer := by
  unfold LK.put
  split <;> rfl
theorem send_peer (l : LK) (b : ByteArray) : (l.send b).2.peer = l.peer := by
  unfold LK.send
  (repeat' split) <;> rfl
theorem ai_tick {x : AN} (h : AI x) (w : Bool) : AI (x.tick w) := by
  rcases h with ⟨q, r, h⟩ | ⟨s, h⟩
  · refine .inl ?_
    cases w
    · obtain ⟨k1, k2⟩ := @tick_step Ep.a q h.qa false
      exact ⟨q.tk false, r, k1, h.rb, by show (q.l false).tick = (x.l false).tick; rw [h.ql], h.qs, h.rl, h.re, h.rs, h.ro, h.rt, fun f hf => (h.way0 f hf).imp (k2 false f) id, h.way1, h.none⟩
    · obtain ⟨k1, k2⟩ := @tick_step Ep.b r h.rb true
      exact ⟨q, r.tk true, h.qa, k1, h.ql, h.qs, by show (r.l true).tick = (x.l true).tick; rw [h.rl], h.re, h.rs, h.ro, h.rt, fun f hf => (h.way0 f hf).imp id (k2 false f), h.way1, h.none⟩
  · refine .inr ?_
    obtain ⟨k1, k2⟩ := @tick_step Ep.b s h.sb w
    refine ⟨s.tk w, k1, by show set s.l w (s.l w).tick = set x.l w (x.l w).tick; rw [h.sl], ?_, h.so, h.sm, h.st, h.ss, h.re, fun f hf => (h.way0 f hf).imp (k2 false f) id, fun f hf => (h.way1 f hf).imp (k2 true f) id⟩
    cases w
    · show (x.l false).tick.peer ≠ 0
      rw [tick_peer]
      exact h.sp
    · exact h.sp
theorem ai_put {x : AN} (h : AI x) (w : Bool) : AI (x.put w) := by
  rcases h with ⟨q, r, h⟩ | ⟨s, h⟩
  · refine .inl ?_
    cases w
    · obtain ⟨k1, k2, k3⟩ := @put_step Ep.a q h.qa false
      refine ⟨q.ptt false, r, k1, h.rb, by show (q.l false).put = (x.l false).put; rw [h.ql], h.qs, h.rl, h.re, h.rs, h.ro, h.rt, fun f hf => (h.way0 f hf).imp (k2 false f) id, fun f hf => ?_, h.none⟩
      have hf2 : f ∈ x.way true ++ (x.l false).outs := hf
      rcases List.mem_append.1 hf2 with e | e
      · exact h.way1 f e
      · have k4 := k3 f (by rw [h.ql]; exact e)
        refine ⟨@FOK.right Ep.a _ k1 _ f k4, @FOK.epoch Ep.a _ _ f k4, fun e9 => ?_⟩
        rcases @FOK.peer Ep.a _ _ f k4 with e2 | e2
        · rw [e2] at e9; omega
        · have e3 : f.peer = 5 := e2
          omega
    · obtain ⟨k1, k2, k3⟩ := @put_step Ep.b r h.rb true
      refine ⟨q, r.ptt true, h.qa, k1, h.ql, h.qs, by show (r.l true).put = (x.l true).put; rw [h.rl], h.re, h.rs, h.ro, h.rt, fun f hf => ?_, h.way1, h.none⟩
      have hf2 : f ∈ x.way false ++ (x.l true).outs := hf
      rcases List.mem_append.1 hf2 with e | e
      · exact (h.way0 f e).imp id (k2 false f)
      · exact .inr (k3 f (by rw [h.rl]; exact e))
  · refine .inr ?_
    obtain ⟨k1, k2, k3⟩ := @put_step Ep.b s h.sb w
    refine ⟨s.ptt w, k1, by show set s.l w (s.l w).put = set x.l w (x.l w).put; rw [h.sl], ?_, h.so, h.sm, h.st, h.ss, h.re, fun f hf => ?_, fun f hf => ?_⟩
    · cases w
      · show (x.l false).put.peer ≠ 0
        rw [put_peer]
        exact h.sp
      · exact h.sp
    · cases w
      · exact (h.way0 f hf).imp (k2 false f) id
      · have hf2 : f ∈ x.way false ++ (x.l true).outs := hf
        rcases List.mem_append.1 hf2 with e | e
        · exact (h.way0 f e).imp (k2 false f) id
        · exact .inl (k3 f (by rw [h.sl]; exact e))
    · cases w
      · have hf2 : f ∈ x.way true ++ (x.l false).outs := hf
        rcases List.mem_append.1 hf2 with e | e
        · exact (h.way1 f e).imp (k2 true f) id
        · exact .inl (k3 f (by rw [h.sl]; exact e))
      · exact (h.way1 f hf).imp (k2 true f) id
theorem ai_send {x : AN} (h : AI x) (w : Bool) (b : ByteArray) (hm : x.sent.length < 1000000) (hn : x.own.length < 1000000) : AI (x.send w b) := by
  rcases h with ⟨q, r, h⟩ | ⟨s, h⟩
  · refine .inl ?_
    cases w
    · obtain ⟨k1, k2⟩ := @send_step Ep.a q h.qa false b (by rw [h.qs]; exact hm)
      refine ⟨q.snd false b, r, k1, h.rb, by show ((q.l false).send b).2 = ((x.l false).send b).2; rw [h.ql], ?_, h.rl, h.re, h.rs, ?_, h.rt, fun f hf => (h.way0 f hf).imp (k2 false f) id, h.way1, h.none⟩
      · show (if ((q.l false).send b).1 = 0 then set q.sent false (q.sent false ++ [b]) else q.sent) false = if ((x.l false).send b).1 = 0 ∧ false = false then x.sent ++ [b] else x.sent
        rw [h.ql, ← h.qs]
        by_cases e : ((x.l false).send b).1 = 0
        · rw [if_pos e, if_pos ⟨e, rfl⟩]; rfl
        · rw [if_neg e, if_neg (fun e2 => e e2.1)]
      · show r.sent true = if ((x.l false).send b).1 = 0 ∧ false = true then x.own ++ [b] else x.own
        rw [if_neg (fun e2 => by cases e2.2)]
        exact h.ro
    · obtain ⟨k1, k2⟩ := @send_step Ep.b r h.rb true b (by rw [h.ro]; exact hn)
      refine ⟨q, r.snd true b, h.qa, k1, h.ql, ?_, by show ((r.l true).send b).2 = ((x.l true).send b).2; rw [h.rl], h.re, ?_, ?_, h.rt, fun f hf => (h.way0 f hf).imp id (k2 false f), h.way1, h.none⟩
      · show q.sent false = if ((x.l true).send b).1 = 0 ∧ true = false then x.sent ++ [b] else x.sent
        rw [if_neg (fun e2 => by cases e2.2)]
        exact h.qs
      · show (if ((r.l true).send b).1 = 0 then set r.sent true (r.sent true ++ [b]) else r.sent) false = []
        split
        · exact h.rs
        · exact h.rs
      · show (if ((r.l true).send b).1 = 0 then set r.sent true (r.sent true ++ [b]) else r.sent) true = if ((x.l true).send b).1 = 0 ∧ true = true then x.own ++ [b] else x.own
        rw [h.rl, ← h.ro]
        by_cases e : ((x.l true).send b).1 = 0
        · rw [if_pos e, if_pos ⟨e, rfl⟩]; rfl
        · rw [if_neg e, if_neg (fun e2 => e e2.1)]
  · refine .inr ?_
    obtain ⟨pre, e1, e2⟩ := h.ss
    have hle : (s.sent false).length ≤ x.sent.length := by rw [e1, List.length_append]; omega
    obtain ⟨k1, k2⟩ := @send_step Ep.b s h.sb w b (by
      cases w with
      | false => omega
      | true => rw [h.so]; exact hn)
    refine ⟨s.snd w b, k1, by show set s.l w ((s.l w).send b).2 = set x.l w ((x.l w).send b).2; rw [h.sl], ?_, ?_, h.sm, h.st, ⟨pre, ?_, e2⟩, h.re, fun f hf => (h.way0 f hf).imp (k2 false f) id, fun f hf => (h.way1 f hf).imp (k2 true f) id⟩
    · cases w
      · show ((x.l false).send b).2.peer ≠ 0
        rw [send_peer]
        exact h.sp
      · exact h.sp
    · show (if ((s.l w).send b).1 = 0 then set s.sent w (s.sent w ++ [b]) else s.sent) true = if ((x.l w).send b).1 = 0 ∧ w = true then x.own ++ [b] else x.own
      rw [h.sl, ← h.so]
      by_cases e : ((x.l w).send b).1 = 0
      · rw [if_pos e]
        cases w
        · rw [if_neg (fun e2 => by cases e2.2)]; rfl
        · rw [if_pos ⟨e, rfl⟩]; rfl
      · rw [if_neg e, if_neg (fun e2 => e e2.1)]
    · show (if ((x.l w).send b).1 = 0 ∧ w = false then x.sent ++ [b] else x.sent) = pre ++ (if ((s.l w).send b).1 = 0 then set s.sent w (s.sent w ++ [b]) else s.sent) false
      rw [h.sl, e1]
      by_cases e : ((x.l w).send b).1 = 0
      · rw [if_pos e]
        cases w
        · rw [if_pos ⟨e, rfl⟩, List.append_assoc]; rfl
        · rw [if_neg (fun e2 => by cases e2.2)]; rfl
      · rw [if_neg e, if_neg (fun e2 => e e2.1)]
end Go.Proofs.Ythgfijmpofbchaa
/-
  A frame comes, at two ends of which one began again; nothing of the program is in this text.
-/
namespace Go.Proofs.Ythgfijmpofbchaa

/-- A frame of the known peer, or of the first one heard of, to another epoch. -/
theorem take_stale {l : LK} {f : FR} {e : Nat} (hr : f.rightP) (he : f.epoch = e) (hp : l.peer = 0 ∨ l.peer = e) (ht : l.peer = 0 → l.taken = 0) (hn : f.peer ≠ l.epoch) : l.take f = (([], false), { l with peer := e, owes := true }) := by
  have h1 := hr.1
  have hh : l.hear f.epoch.toNat = (false, { l with peer := e }) := by
    have e1 : f.epoch.toNat = e := by omega
    rw [e1]
    unfold LK.hear
    rcases hp with e2 | e2
    · rw [if_neg (by omega), if_pos e2, ← ht e2]
    · rw [if_pos (by omega), ← e2]
  unfold LK.take
  rw [if_neg (fun c => by rcases c with c | c; exact c hr; rcases hp with e2 | e2 <;> omega), hh]
  exact if_pos hn
/-- A frame of an elder epoch. -/
theorem take_elder {l : LK} {f : FR} (h : f.epoch < l.peer) : l.take f = (([], false), l) := by
  unfold LK.take
  exact if_pos (.inr h)
theorem an_take_quiet {x : AN} {w : Bool} {f : FR} (h : (x.l w).take f = (([], false), ((x.l w).take f).2)) : x.take w f = { x with l := set x.l w ((x.l w).take f).2 } := by
  unfold AN.take
  have e1 : ((x.l w).take f).1.2 = false := by rw [h]
  have e2 : ((x.l w).take f).1.1 = [] := by rw [h]
  rw [e1, e2]
  simp only [List.append_nil, ite_self, Bool.false_eq_true, if_false]
theorem ai_take_new {x : AN} (h : AI x) {f : FR} (hf : f ∈ x.way true) : AI (x.take true f) ∧ ((x.l true).take f).1.2 = false := by
  rcases h with ⟨q, r, h⟩ | ⟨s, h⟩
  · obtain ⟨hr, he, hp⟩ := h.way1 f hf
    have hq := @Inv.peer Ep.b r h.rb true
    have hk := @Inv.took Ep.b r h.rb true
    have hE := @Inv.ep Ep.b r h.rb true
    rw [h.rl] at hq hk hE
    have hE9 : (x.l true).epoch = 9 := hE
    have e1 : (x.l true).take f = (([], false), { x.l true with peer := 3, owes := true }) := take_stale hr he hq (fun _ => by rw [hk, h.rt]; rfl) (by rw [hE9]; exact hp)
    refine ⟨?_, by rw [e1]⟩
    rw [an_take_quiet (by rw [e1]), e1]
    obtain ⟨k1, k2⟩ := @stale_step Ep.b r h.rb true
    exact .inl ⟨q, @PR.stale Ep.b r true, h.qa, k1, h.ql, h.qs, by show ({ r.l true with peer := 3, owes := true } : LK) = { x.l true with peer := 3, owes := true }; rw [h.rl], h.re, h.rs, h.ro, h.rt, fun g hg => (h.way0 g hg).imp id (k2 false g), h.way1, h.none⟩
  · rcases h.way1 f hf with hF | ⟨hr, he, hp⟩
    · obtain ⟨k0, k1, k2⟩ := @take_step Ep.b s h.sb true f hF
      rw [h.sl] at k0
      refine ⟨.inr ⟨s.tke true f, k1, by show set s.l true ((s.l true).take f).2 = set x.l true ((x.l true).take f).2; rw [h.sl], h.sp, h.so, ?_, ?_, ?_, ?_, fun g hg => (h.way0 g hg).imp (k2 false g) id, fun g hg => (h.way1 g hg).imp (k2 true g) id⟩, k0⟩
      · show s.told false = if true = false ∧ f.epoch = 9 then x.mine ++ ((x.l true).take f).1.1 else x.mine
        rw [if_neg (fun e => by cases e.1)]
        exact h.sm
      · show s.told true ++ ((s.l true).take f).1.1 = if true = true then x.told ++ ((x.l true).take f).1.1 else x.told
        rw [if_pos rfl, h.st, h.sl]
      · show ∃ pre, x.sent = pre ++ s.sent false ∧ (0 < (if ((x.l true).take f).1.2 = true then x.resets + 1 else x.resets) → pre.length = if ((x.l true).take f).1.2 = true then x.sent.length else x.first)
        rw [k0]
        exact h.ss
      · show (if ((x.l true).take f).1.2 = true then x.resets + 1 else x.resets) ≤ 1
        rw [k0]
        exact h.re
    · have hq := @Inv.peer Ep.b s h.sb true
      have hE := @Inv.ep Ep.b s h.sb true
      have hk := @Inv.took Ep.b s h.sb true
      have hd := @Inv.deaf Ep.b s h.sb true
      rw [h.sl] at hq hE hk hd
      have hE9 : (x.l true).epoch = 9 := hE
      have e1 : (x.l true).take f = (([], false), { x.l true with peer := 3, owes := true }) := take_stale hr he hq (fun e0 => by rw [hk, hd e0]; rfl) (by rw [hE9]; exact hp)
      refine ⟨?_, by rw [e1]⟩
      rw [an_take_quiet (by rw [e1]), e1]
      obtain ⟨k1, k2⟩ := @stale_step Ep.b s h.sb true
      exact .inr ⟨@PR.stale Ep.b s true, k1, by show set s.l true ({ s.l true with peer := 3, owes := true } : LK) = set x.l true { x.l true with peer := 3, owes := true }; rw [h.sl], h.sp, h.so, h.sm, h.st, h.ss, h.re, fun g hg => (h.way0 g hg).imp (k2 false g) id, fun g hg => (h.way1 g hg).imp (k2 true g) id⟩
theorem ai_take_first {x : AN} (h : AI x) {f : FR} (hf : f ∈ x.way false) : AI (x.take false f) := by
  rcases h with ⟨q, r, h⟩ | ⟨s, h⟩
  · rcases h.way0 f hf with hF | hF
    · -- of the old one
      obtain ⟨k0, k1, k2⟩ := @take_step Ep.a q h.qa false f hF
      have he : f.epoch = 5 := @FOK.epoch Ep.a q false f hF
      rw [h.ql] at k0
      obtain ⟨n1, n2, n3⟩ := h.none
      refine .inl ⟨q.tke false f, r, k1, h.rb, by show ((q.l false).take f).2 = ((x.l false).take f).2; rw [h.ql], h.qs, h.rl, h.re, h.rs, h.ro, h.rt, fun g hg => (h.way0 g hg).imp (k2 false g) id, h.way1, n1, ?_, ?_⟩
      · show (if false = false ∧ f.epoch = 9 then x.mine ++ ((x.l false).take f).1.1 else x.mine) = []
        rw [if_neg (fun e => by have := e.2; omega)]
        exact n2
      · show (if ((x.l false).take f).1.2 = true then x.resets + 1 else x.resets) = 0
        rw [k0]
        exact n3
    · -- of the new one
      have he : f.epoch = 9 := @FOK.epoch Ep.b r false f hF
      have hr := @FOK.right Ep.b r h.rb false f hF
      have hq := @Inv.peer Ep.a q h.qa false
      have hE := @Inv.ep Ep.a q h.qa false
      have hmint := @Inv.mint Ep.a q h.qa false
      have hmute := @Inv.mute Ep.a q h.qa false
      have hdue := @Inv.due Ep.a q h.qa false
      have htk := @Inv.tks Ep.a q h.qa false
      have hmost := @Inv.most Ep.a q h.qa false
      have hsm := @Inv.small Ep.a q h.qa false
      have hwt := @Inv.wait Ep.a q h.qa false
      rw [h.ql] at hq hE hmint hmute hdue htk hmost hwt
      rw [h.qs] at hsm hwt
      have hq5 : (x.l false).peer = 0 ∨ (x.l false).peer = 5 := hq
      have hlt : ((x.l false).peer : Int) < f.epoch := by rcases hq5 with e | e <;> omega
      have hT := take_hear (l := x.l false) hr hlt
      have hn : f.epoch.toNat = 9 := by omega
      obtain ⟨n1, n2, n3⟩ := h.none
      rw [hn] at hT
      have hA : ∃ a : LK, ((x.l false).hear 9).2 = a ∧ a.epoch = 3 ∧ a.peer = 9 ∧ a.first = 1 ∧ a.out = 0 ∧ a.due = 0 ∧ a.taken = 0 ∧ a.ticks ≤ 2 ∧ a.wait.length ≤ 32 ∧ (∀ s ∈ a.wait, s.size ≤ 100000) ∧ ∃ pre, x.sent = pre ++ a.wait ∧ ((x.l false).peer ≠ 0 → pre.length = x.sent.length) := by
        refine ⟨_, rfl, ?_⟩
        unfold LK.hear
        rcases hq5 with e | e
        · rw [if_neg (by omega), if_pos e]
          have h1 := hmint e
          have h2 := hmute e
          have hw : (x.l false).wait = x.sent := by rw [hwt, h1]; rfl
          exact ⟨hE, rfl, h1, h2, by show (x.l false).due = 0; omega, rfl, htk, hmost, fun s hs => hsm s (by rw [← hw]; exact hs), [], by show x.sent = [] ++ (x.l false).wait; rw [hw]; rfl, fun e2 => absurd e e2⟩
        · rw [if_neg (by omega), if_neg (by omega)]
          exact ⟨hE, rfl, rfl, rfl, rfl, rfl, Nat.zero_le _, Nat.zero_le _, fun _ hs => absurd hs (List.not_mem_nil), x.sent, (List.append_nil _).symm, fun _ => rfl⟩
      obtain ⟨a, ha, a1, a2, a3, a4, a5, a6, a7, a8, a9, pre, a10, a11⟩ := hA
      rw [ha] at hT
      have hj := @inv_join Ep.b r h.rb h.rs h.rt a (by rw [a1, h.re]) a2 a3 a4 a5 a6 a7 a8 a9
      have hFj : @FOK Ep.b { r with l := set r.l false a, sent := set r.sent false a.wait, way := fun _ => [] } false f := @FOK.mono Ep.b r _ false f hF (Nat.le_refl _) (List.prefix_refl _) (Nat.le_refl _)
      obtain ⟨k0, k1, k2⟩ := @take_step Ep.b _ hj false f hFj
      refine .inr ⟨_, k1, ?_, ?_, h.ro, ?_, ?_, ⟨pre, ?_, ?_⟩, ?_, fun g hg => ?_, fun g hg => .inr (h.way1 g hg)⟩
      · funext v
        cases v
        · show (a.take f).2 = ((x.l false).take f).2
          rw [hT]
        · exact h.rl
      · show ((x.l false).take f).2.peer ≠ 0
        rw [hT]
        exact @take_peer Ep.b a f (by rw [a2]; decide)
      · show r.told false ++ (a.take f).1.1 = if false = false ∧ f.epoch = 9 then x.mine ++ ((x.l false).take f).1.1 else x.mine
        rw [if_pos ⟨rfl, he⟩, h.rt, n2, hT]
      · show r.told true = if false = true then x.told ++ ((x.l false).take f).1.1 else x.told
        rw [if_neg (by decide), h.rt, n1]
      · exact a10
      · show 0 < (if ((x.l false).take f).1.2 = true then x.resets + 1 else x.resets) → pre.length = if ((x.l false).take f).1.2 = true then x.sent.length else x.first
        rw [hT, n3]
        intro hpos
        by_cases e : (x.l false).peer = 0
        · simp [e] at hpos
        · simp only [ne_eq, e, not_false_iff, decide_true, if_true]
          exact a11 e
      · show (if ((x.l false).take f).1.2 = true then x.resets + 1 else x.resets) ≤ 1
        split <;> omega
      · rcases h.way0 g hg with hG | hG
        · have : g.epoch = 5 := @FOK.epoch Ep.a q false g hG
          exact .inr (by omega)
        · exact .inl (k2 false g (@FOK.mono Ep.b r _ false g hG (Nat.le_refl _) (List.prefix_refl _) (Nat.le_refl _)))
  · have hq := @Inv.peer Ep.b s h.sb false
    rw [h.sl] at hq
    have h9 : (x.l false).peer = 9 := hq.resolve_left h.sp
    rcases h.way0 f hf with hF | hF
    · obtain ⟨k0, k1, k2⟩ := @take_step Ep.b s h.sb false f hF
      have he : f.epoch = 9 := @FOK.epoch Ep.b s false f hF
      rw [h.sl] at k0
      refine .inr ⟨s.tke false f, k1, by show set s.l false ((s.l false).take f).2 = set x.l false ((x.l false).take f).2; rw [h.sl], ?_, h.so, ?_, ?_, ?_, ?_, fun g hg => (h.way0 g hg).imp (k2 false g) id, fun g hg => (h.way1 g hg).imp (k2 true g) id⟩
      · exact @take_peer Ep.b _ f h.sp
      · show s.told false ++ ((s.l false).take f).1.1 = if false = false ∧ f.epoch = 9 then x.mine ++ ((x.l false).take f).1.1 else x.mine
        rw [if_pos ⟨rfl, he⟩, h.sm, h.sl]
      · show s.told true = if false = true then x.told ++ ((x.l false).take f).1.1 else x.told
        rw [if_neg (by decide)]
        exact h.st
      · show ∃ pre, x.sent = pre ++ s.sent false ∧ (0 < (if ((x.l false).take f).1.2 = true then x.resets + 1 else x.resets) → pre.length = if ((x.l false).take f).1.2 = true then x.sent.length else x.first)
        rw [k0]
        exact h.ss
      · show (if ((x.l false).take f).1.2 = true then x.resets + 1 else x.resets) ≤ 1
        rw [k0]
        exact h.re
    · have e1 := take_elder (l := x.l false) (f := f) (by omega)
      rw [an_take_quiet (by rw [e1]), e1]
      have e2 : set x.l false (x.l false) = x.l := by funext v; cases v <;> rfl
      refine .inr ⟨s, h.sb, by rw [e2]; exact h.sl, by rw [e2]; exact h.sp, h.so, h.sm, h.st, h.ss, h.re, h.way0, h.way1⟩
/-- The new one begins. -/
theorem ai_begin {q : PR} (h : @Inv Ep.a q) : AI ⟨set q.l true (LK.new 9), q.way, q.sent false, [], [], [], (q.sent false).length, 0⟩ := by
  refine .inl ⟨q, @PR.begin Ep.b, h, @inv_begin Ep.b, rfl, rfl, rfl, rfl, rfl, rfl, fun _ => rfl, fun f hf => .inl (@Inv.frames Ep.a q h false f hf), fun f hf => ?_, rfl, rfl, rfl⟩
  have k := @Inv.frames Ep.a q h true f hf
  refine ⟨@FOK.right Ep.a q h true f k, @FOK.epoch Ep.a q true f k, fun e9 => ?_⟩
  rcases @FOK.peer Ep.a q true f k with e2 | e2
  · rw [e2] at e9; omega
  · have e3 : f.peer = 5 := e2
    omega
end Go.Proofs.Ythgfijmpofbchaa
