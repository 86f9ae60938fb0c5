/-
  A region that draws its order, by what each of its operations leaves behind, within a fence (mkphiin.py); nothing of the program is in this text.
-/
import Derived.OrdersIn
import Derived.RangeFuncCalls
import Derived.TacticsIn
import Derived.Test.YtfoomgdlbkjaeaaGreatZLast
import Derived.Test.YtfoomgdlbkjaeaaGreatZPhi
import Derived.RangeFuncSeq
namespace Go.Proofs.YtfoomgdlbkjaeaaGreat
open Go
variable {P : Program} {ops : Array Oper} {Q : Exit → Act → World → Prop} {n l : Nat}
theorem oper_inRound {o : Oper} {a : Act} {w : World} {K : Act → World → Prop} (hd : ∀ c, o.op ≠ .defer c) (h : o.wp P a w K Q) : o.wpIn (Fence.wide.inRound l) n P a w K Q := by
  refine ⟨fun _ _ => trivial, ?_⟩
  rw [Oper.semAt_eq _ _ _ hd]
  unfold Oper.wp at h
  generalize (execOp a.eval o).run P w = r at *
  cases r with
  | ok x w' =>
    cases x <;> simp only [Oper.upon, Oper.uponIn] at h ⊢ <;>
      first
        | exact h
        | exact h.elim
        | exact ⟨fun e => (by cases e), CallsIn.inRound l (callsIn_wide.2 h)⟩
        | exact ⟨fun e => (by cases e), fun c cs _ => let ⟨v, w'', r, s⟩ := h c cs; ⟨v, w'', r, (stepsIn_wide (P := P)).2 s⟩⟩
  | halt x w' => cases x <;> simp only [Oper.upon, Oper.uponIn] at h ⊢ <;> exact h
def noDefer (ops : Array Oper) : Bool := ops.toList.all fun o => match o.op with
  | .defer _ => false
  | _ => true
theorem noDefer_spec (h : noDefer ops = true) (i : Nat) (o : Oper) (ho : ops[i]? = some o) (c) : o.op ≠ .defer c := by
  intro e
  have h1 := List.all_eq_true.1 h o (by rw [Array.mem_toList_iff]; exact Array.mem_of_getElem? ho)
  rw [e] at h1
  cases h1
theorem wpOp_inRound {i : Nat} {a : Act} {w : World} {K : Act → World → Prop} (hd : noDefer ops = true) (hQ : ¬ LetsOut Q) (h : wpOp P ops Q i K a w) : wpOpIn (Fence.wide.inRound l) n P ops Q i K a w := by
  unfold wpOp at h
  unfold wpOpIn
  cases ho : ops[i]? with
  | none => rw [ho] at h; exact h
  | some o =>
    rw [ho] at h
    simp only at h ⊢
    by_cases hw : Region.wanted o (yielded ops a.tmps) = true
    · simp only [hw, if_true] at h ⊢
      rcases h with h | ⟨_, h⟩
      · exact oper_inRound (noDefer_spec hd i o ho) h
      · exact absurd h hQ
    · simp only [hw] at h ⊢
      exact ⟨fun _ _ => trivial, h⟩
theorem wpAny_inRound {md : Region.Mode} (hd : noDefer ops = true) (hQ : ¬ LetsOut Q) : ∀ (fuel : Nat) (listed : Array Bool) (a : Act) (w : World), wpAny P md ops Q fuel listed a w → wpAnyIn (Fence.wide.inRound l) n P md ops Q fuel listed a w
  | 0, _, _, _, h => h
  | fuel + 1, _, _, _, h => ⟨h.1, fun i hi => wpOpIn_mono (fun a' w' h' => wpAny_inRound hd hQ fuel _ a' w' h') (wpOp_inRound hd hQ (h.2 i hi))⟩
theorem wpIn_region_last {id : Nat} {a : Act} {w : World} (m : Nat) {o : Oper} (hx : ops.toList[m]? = some o) (hl : lastOk ops m = true) (hdst : o.dst = none) (hg : o.guard = none) (hm : P.follows .mixedOrders = true) (hd : noDefer ops = true) (hQ : ¬ LetsOut Q)
    (h : ∀ ops', ops' = ops.setIfInBounds m (idle o) → wpAny P .any ops' (Behind P o Q) ops'.size (Array.replicate ops'.size false) a w.drew) : (Code.region id ops true).wpIn (Fence.wide.inRound l) n P Q a w := by
  have ho : ops[m]? = some o := by rw [← Array.getElem?_toList]; exact hx
  refine wpIn_region_any hm (wpAny_inRound hd hQ _ _ _ _ ?_)
  have h1 := h _ rfl
  rw [Array.size_setIfInBounds] at h1
  have hn := (Array.getElem?_eq_some_iff.1 ho).1
  refine wpAny_last ho hl hdst hg _ _ a _ (by simp) ?_ ?_ h1
  · rw [Array.getElem?_replicate, if_pos hn]
  · intro k ok _ hk
    rw [Array.getElem?_replicate] at hk
    split at hk <;> cases hk
end Go.Proofs.YtfoomgdlbkjaeaaGreat
namespace Go.Proofs.YtfoomgdlbkjaeaaGreat
open Go Go.RowKit
set_option linter.unusedSimpArgs false
section
variable {P : Program} {ops : Array Oper} {Q : Exit → Act → World → Prop} {F : Fence} {n : Nat}
end
end Go.Proofs.YtfoomgdlbkjaeaaGreat
