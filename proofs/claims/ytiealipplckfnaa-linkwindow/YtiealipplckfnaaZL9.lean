/-
  Each deed of two ends once more, with the frames apart; nothing of the program is in this text.
-/
import Derived.Test.YtiealipplckfnaaZL7
import Derived.Test.YtiealipplckfnaaZL8
namespace Go.Proofs.Ytiealipplckfnaa
set_option linter.unusedSectionVars false
variable [Ep]
def PR.snd (p : PR) (w : Bool) (s : ByteArray) : PR := { p with l := set p.l w ((p.l w).send s).2, sent := if ((p.l w).send s).1 = 0 then set p.sent w (p.sent w ++ [s]) else p.sent }
def PR.ptt (p : PR) (w : Bool) : PR := { p with l := set p.l w (p.l w).put }
def PR.tke (p : PR) (w : Bool) (f : FR) : PR := { p with l := set p.l w ((p.l w).take f).2, told := set p.told w (p.told w ++ ((p.l w).take f).1.1) }
def PR.stale (p : PR) (w : Bool) : PR := { p with l := set p.l w { p.l w with peer := ep (!w), owes := true } }
theorem FOK.conv {p p' : PR} {w : Bool} {f : FR} (h : FOK p w f) (e1 : p'.told = p.told) (e2 : p'.sent = p.sent) (e3 : p'.l = p.l) : FOK p' w f := by
  obtain ⟨l, way, sent, told⟩ := p
  obtain ⟨l', way', sent', told'⟩ := p'
  subst e1 e2 e3
  exact ⟨h.epoch, h.peer, h.ack, h.seq⟩
theorem fok_of {p p' : PR} (step : ∀ way, (∀ v, ∀ g ∈ way v, FOK p v g) → Inv { p' with way := way }) {w : Bool} {f : FR} (hf : FOK p w f) : FOK p' w f := by
  have h1 := (step (set (fun _ => []) w [f]) fun v g hg => ?_).frames w f (by show f ∈ set (fun _ => []) w [f] w; rw [set_same]; exact List.mem_singleton.2 rfl)
  · exact h1.conv rfl rfl rfl
  · by_cases e : v = w
    · subst e
      rw [set_same] at hg
      rw [List.mem_singleton.1 hg]
      exact hf
    · have e2 : set (fun _ => []) w [f] v = [] := if_neg e
      rw [e2] at hg
      cases hg
theorem send_step {p : PR} (h : Inv p) (w : Bool) (s : ByteArray) (hm : (p.sent w).length < 1000000) : Inv (p.snd w s) ∧ ∀ v f, FOK p v f → FOK (p.snd w s) v f :=
  ⟨inv_send h w s hm, fun _ _ hf => fok_of (fun way hw => inv_send (inv_way h way hw) w s hm) hf⟩
theorem tick_step {p : PR} (h : Inv p) (w : Bool) : Inv (p.tk w) ∧ ∀ v f, FOK p v f → FOK (p.tk w) v f :=
  ⟨inv_tick h w, fun _ _ hf => fok_of (fun way hw => inv_tick (inv_way h way hw) w) hf⟩
theorem take_step {p : PR} (h : Inv p) {w : Bool} {f : FR} (hf : FOK p w f) : ((p.l w).take f).1.2 = false ∧ Inv (p.tke w f) ∧ ∀ v g, FOK p v g → FOK (p.tke w f) v g :=
  ⟨(take_of h hf).1, (take_of h hf).2, fun _ _ hg => fok_of (fun way hw => (take_of (inv_way h way hw) (hf.conv rfl rfl rfl)).2) hg⟩
theorem stale_step {p : PR} (h : Inv p) (w : Bool) : Inv (p.stale w) ∧ ∀ v f, FOK p v f → FOK (p.stale w) v f := by
  have hp := ep_pos (!w)
  have key : ∀ {p : PR}, Inv p → Inv (p.stale w) := fun {p} h => inv_end h w _ rfl (.inr rfl) rfl rfl rfl (Nat.le_refl _) (h.outw w) (h.due w) (h.win w) (fun e => absurd e (by show ep (!w) ≠ 0; omega)) (h.tks w)
  exact ⟨key h, fun _ _ hf => fok_of (fun way hw => key (inv_way h way hw)) hf⟩
theorem put_step {p : PR} (h : Inv p) (w : Bool) : Inv (p.ptt w) ∧ (∀ v f, FOK p v f → FOK (p.ptt w) v f) ∧ ∀ f ∈ (p.l w).outs, FOK (p.ptt w) (!w) f := by
  have key : ∀ {p : PR}, Inv p → Inv (p.ptt w) := fun {p} h => by
    have h1 := inv_put h w
    refine (inv_way h1 p.way fun v f hf => ?_)
    refine h1.frames v f ?_
    show f ∈ set p.way (!w) (p.way (!w) ++ (p.l w).outs) v
    by_cases e : v = !w
    · subst e
      rw [set_same]
      exact List.mem_append_left _ hf
    · have e2 : set p.way (!w) (p.way (!w) ++ (p.l w).outs) v = p.way v := if_neg e
      rw [e2]
      exact hf
  refine ⟨key h, fun _ _ hf => fok_of (fun way hw => key (inv_way h way hw)) hf, fun f hf => ?_⟩
  have h1 := (inv_put h w).frames (!w) f (by show f ∈ set p.way (!w) (p.way (!w) ++ (p.l w).outs) (!w); rw [set_same]; exact List.mem_append_right _ hf)
  exact h1.conv rfl rfl rfl
/-- One end begins with another that heard nothing of it yet. -/
theorem inv_join {r : PR} (h : Inv r) (hs : r.sent false = []) (ht : ∀ w, r.told w = []) (a : LK) (e1 : a.epoch = (r.l false).epoch) (e2 : a.peer = ep true) (e3 : a.first = 1) (e4 : a.out = 0) (e5 : a.due = 0) (e6 : a.taken = 0) (e7 : a.ticks ≤ 2) (e8 : a.wait.length ≤ 32) (e9 : ∀ s ∈ a.wait, s.size ≤ 100000) : Inv { r with l := set r.l false a, sent := set r.sent false a.wait, way := fun _ => [] } := by
  have key : ∀ (q : Bool → LK → Prop), q false a → q true (r.l true) → ∀ v, q v ((set r.l false a) v) := fun q hq hw v => by
    cases v
    · exact hq
    · exact hw
  have _ := hs
  refine ⟨key (fun v l => l.epoch = ep v) (by rw [e1]; exact h.ep false) (h.ep true), key (fun v l => l.peer = 0 ∨ l.peer = ep (!v)) (.inr e2) (h.peer true), key (fun v l => l.taken = (r.told v).length) (by rw [e6, ht]; rfl) (h.took true), fun v => by show r.told v <+: _; rw [ht]; exact List.nil_prefix, key (fun v l => 1 ≤ l.first) (by omega) (h.one true), key (fun v l => ((set r.sent false a.wait) v).length + 1 = l.first + l.wait.length) (by show a.wait.length + 1 = _; omega) (h.len true), key (fun v l => l.wait = ((set r.sent false a.wait) v).drop (l.first - 1)) (by show a.wait = a.wait.drop _; rw [e3]; rfl) (h.wait true), key (fun v l => l.first ≤ (r.told (!v)).length + 1) (by omega) (h.ackd true), key (fun v l => l.out ≤ l.wait.length) (by omega) (h.outw true), key (fun v l => l.due ≤ l.out) (by omega) (h.due true), key (fun v l => l.out ≤ 8) (by omega) (h.win true), key (fun v l => (r.told (!v)).length + 1 ≤ l.first + l.out) (by rw [ht, e3]; show 0 + 1 ≤ 1 + a.out; omega) (h.put true), fun v f hf => (by cases hf), fun v => ?_, fun v => ?_, fun v _ => ht v, key (fun v l => l.peer = 0 → l.out = 0) (fun _ => e4) (h.mute true), key (fun _ l => l.wait.length ≤ 32) e8 (h.most true), key (fun _ l => l.ticks ≤ 2) e7 (h.tks true), key (fun _ l => l.peer = 0 → l.first = 1) (fun _ => e3) (h.mint true)⟩
  · cases v
    · exact e9
    · exact h.small true
  · cases v
    · show a.wait.length ≤ _
      omega
    · exact h.many true
end Go.Proofs.Ytiealipplckfnaa
