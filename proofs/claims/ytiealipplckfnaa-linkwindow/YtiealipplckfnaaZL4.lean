/-
  Two ends begin; frames are lost; what an end puts out; nothing of the program is in this text.
-/
import Derived.Test.YtiealipplckfnaaZL3
namespace Go.Proofs.Ytiealipplckfnaa
set_option linter.unusedSectionVars false
variable [Ep]

def PR.begin : PR := ⟨fun w => LK.new (ep w), fun _ => [], fun _ => [], fun _ => []⟩
theorem inv_begin : Inv PR.begin := by
  refine ⟨fun w => rfl, fun w => .inl rfl, fun w => rfl, fun w => List.prefix_refl _, fun w => Nat.le_refl _, fun w => rfl, fun w => rfl, fun w => Nat.le_refl _, fun w => Nat.le_refl _, fun w => Nat.le_refl _, fun w => Nat.zero_le _, fun w => Nat.le_refl _, fun w f hf => ?_, fun w s hs => ?_, fun w => Nat.zero_le _, fun w _ => rfl, fun w _ => rfl, fun w => Nat.zero_le _, fun w => Nat.zero_le _, fun w _ => rfl⟩
  · cases hf
  · cases hs
/-- A frame is taken off the way. -/
theorem inv_lose {p : PR} (h : Inv p) (w : Bool) (i : Nat) : Inv { p with way := set p.way w ((p.way w).take i ++ (p.way w).drop (i + 1)) } := by
  refine inv_way h _ fun v f hf => ?_
  by_cases e : v = w
  · subst e
    rw [set_same] at hf
    rcases List.mem_append.1 hf with e | e
    · exact h.frames v f (List.mem_of_mem_take e)
    · exact h.frames v f (List.mem_of_mem_drop e)
  · have e2 : set p.way w ((p.way w).take i ++ (p.way w).drop (i + 1)) v = p.way v := if_neg e
    rw [e2] at hf
    exact h.frames v f hf
/-- What LinkWindow asks of a frame that is put out. -/
theorem outs_window {p : PR} (h : Inv p) (w : Bool) {f : FR} (hf : f ∈ (p.l w).outs) : f.epoch = ep w ∧ f.peer = (p.l w).peer ∧ f.ack = (p.told w).length ∧ f.seq ≤ ((p.l w).first : Int) - 1 + 8 ∧ (0 < f.seq → ((p.l w).first : Int) - 1 < f.seq ∧ ∃ k, ∃ hk : k < (p.sent w).length, f.seq = (k : Int) + 1 ∧ f.body = (p.sent w)[k]) := by
  have hep := h.ep w
  have htk := h.took w
  have hone := h.one w
  rcases mem_outs hf with rfl | ⟨_, k, hk1, _, rfl⟩
  · refine ⟨?_, rfl, ?_, ?_, fun e => ?_⟩
    · show ((p.l w).epoch : Int) = _
      rw [hep]
    · show ((p.l w).taken : Int) = _
      rw [htk]
    · show (0 : Int) ≤ _
      omega
    · have : (0 : Int) < 0 := e
      omega
  · have hlen := h.len w
    have hwt := h.wait w
    have hk8 : k < 8 ∧ k < (p.l w).wait.length := by unfold LK.top at hk1; omega
    refine ⟨?_, rfl, ?_, ?_, fun _ => ⟨?_, ?_⟩⟩
    · show ((p.l w).epoch : Int) = _
      rw [hep]
    · show ((p.l w).taken : Int) = _
      rw [htk]
    · show ((p.l w).first : Int) + (k : Int) ≤ _
      omega
    · show _ < ((p.l w).first : Int) + (k : Int)
      omega
    · have hb : (p.l w).first - 1 + k < (p.sent w).length := by omega
      refine ⟨(p.l w).first - 1 + k, hb, ?_, ?_⟩
      · show ((p.l w).first : Int) + (k : Int) = _
        omega
      · show (p.l w).wait.getD k ⟨#[]⟩ = _
        rw [List.getD_eq_getElem?_getD, hwt, List.getElem?_drop, List.getElem?_eq_getElem hb]
        rfl
/-- How many wait. -/
theorem waits_le {p : PR} (h : Inv p) (w : Bool) : (p.sent w).length - (p.l w).wait.length = (p.l w).first - 1 := by
  have := h.len w
  have := h.one w
  omega
end Go.Proofs.Ytiealipplckfnaa
