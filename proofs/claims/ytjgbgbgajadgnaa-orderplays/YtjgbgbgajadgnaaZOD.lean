/-
  Learn, keep, Add, as they run.
-/
import Derived.Test.YtjgbgbgajadgnaaZOD0
import Derived.Test.YtjgbgbgajadgnaaZLast
import Derived.Test.YtjgbgbgajadgnaaZPhiL
import Derived.Test.YtjgbgbgajadgnaaZPhiG
namespace Go.Proofs.Ytjgbgbgajadgnaa
open Go.RowKit Go.Shelf

attribute [local go_sem ↓] Go.wp_at_zero Go.wp_at_succ
set_option linter.unusedSimpArgs false
set_option linter.unusedVariables false
theorem wp_scope_goto {P : Program} {a : Act} {w : World} {Q : Exit → Act → World → Prop} {c r : Code} (l : Nat) (J : Act → World → Prop) (hf : findLabel c l = some (.seq .skip r)) (h : c.wp P (Exit.jump l J Q) a w) (pass : ∀ a w, J a w → r.wp P (Exit.jump l (fun _ _ => False) Q) a w) : (Code.scope c).wp P Q a w :=
  wp_scope_jumps l J (fun _ _ => 0) hf h fun a w hJ => wp_seq (wp_skip (wp_mono (pass a w hJ) fun e a w q => by
    cases e with
    | goto l => exact ⟨q.1, q.2.elim⟩
    | _ => exact q))
theorem wp_scope_none {P : Program} {a : Act} {w : World} {Q : Exit → Act → World → Prop} {c rest : Code} (l : Nat) (hf : findLabel c l = some rest) (h : c.wp P (Exit.jump l (fun _ _ => False) Q) a w) : (Code.scope c).wp P Q a w :=
  wp_scope_jumps l (fun _ _ => False) (fun _ _ => 0) hf h fun a w hJ => hJ.elim
theorem updL_same (l : Nat → Bool) (i : Nat) : updL l i i = true := by unfold updL; exact if_pos rfl
theorem updL_other (l : Nat → Bool) {i k : Nat} (h : k ≠ i) : updL l i k = l k := by unfold updL; exact if_neg h
/-- What a call on it leaves: its own blocks alone have turned; those that it has now were its own, or are new. -/
structure OStep (w w' : World) (L L' : OL) : Prop where
  touch : Touch L.own w w'
  b : L'.b = L.b
  no : L'.no = L.no
  own : ∀ j, L'.own j → L.own j ∨ w.heap.size ≤ j
theorem OStep.refl (w : World) (L : OL) : OStep w w L L := ⟨Touch.refl _ _, rfl, rfl, fun _ h => .inl h⟩
theorem OStep.below {w w1 : World} {L : OL} (h : Below w.heap.size w w1) : OStep w w1 L L := ⟨Touch.of_below h, rfl, rfl, fun _ h => .inl h⟩
theorem OStep.trans {w w1 w2 : World} {L L1 L2 : OL} (h : OStep w w1 L L1) (h2 : OStep w1 w2 L1 L2) : OStep w w2 L L2 := by
  refine ⟨⟨h2.touch.os.trans h.touch.os, h2.touch.tape.trans h.touch.tape, h2.touch.output.trans h.touch.output, Nat.le_trans h.touch.size h2.touch.size, fun k hk hn => ?_⟩, h2.b.trans h.b, h2.no.trans h.no, fun j hj => ?_⟩
  · rw [h2.touch.block k (Nat.lt_of_lt_of_le hk h.touch.size) (fun e => (h.own k e).elim hn (fun e => by omega)), h.touch.block k hk hn]
  · rcases h2.own j hj with e | e
    · exact h.own j e
    · exact .inr (Nat.le_trans h.touch.size e)
theorem OL.at_of {L L' : OL} (h : L'.b = L.b) : L'.at = L.at := by unfold OL.at; rw [h]
/-- Its box alone has turned. -/
theorem OAt.boxed {w : World} {L : OL} {o o' : OS} (h : OAt w L o) (k : Nat) (v : Value) (hb : (oBox L o).setIfInBounds k v = oBox L o') (e1 : o'.nodes = o.nodes) (e2 : o'.log = o.log) : OAt (w.setCell ⟨L.b, k, none⟩ v) L o' ∧ OStep w (w.setCell ⟨L.b, k, none⟩ v) L L := by
  refine ⟨⟨?_, ?_, ?_⟩, ⟨(Touch.refl _ w).setCell _ _ (fun _ => .inl rfl), rfl, rfl, fun _ h => .inl h⟩⟩
  · rw [box_set h.box, hb]
  · rw [e1]
    exact set_row h.nodes _ _ _ (by rw [ownBlock_slice]; exact h.no_ne)
  · rw [e2]
    exact set_row h.log _ _ _ (by rw [ownBlock_slice]; exact h.log_ne)
set_option maxHeartbeats 2000000 in
theorem plearn {w : World} {L : OL} {o : OS} (h : OAt w L o) (hk : o.Ok) (n : Int) (hn1 : -9223372036854775808 ≤ n) (hn2 : n ≤ 9223372036854775807) (hl : o.log.length ≤ 17592186044416) : Calls Try.prog 19 #[L.at, .int .i64 n] w fun e w' => e = .returned (.bool (o.learn n).2) ∧ OAt w' L (o.learn n).1 ∧ OStep w w' L L := by
  obtain ⟨_, _, c2, _, c4⟩ := h.cells
  have HH := hide h
  have HB : Hid (∀ w1, Below w.heap.size w w1 → OAt w1 L o ∧ w1.cell? ⟨L.b, 4, none⟩ = some (.int .i64 o.sure) ∧ w1.frozen? ⟨L.b, 4, none⟩ = false) := fun w1 b1 => ⟨h.below b1, (h.below b1).cells.c4, box_free (h.below b1).box 4⟩
  have HF := hide (fun w1 b1 => pfirst (HB.out w1 b1).1 hk)
  unfold OL.at at *
  by_cases hc : o.first = false ∧ (o.sure : Int) < min n (o.log.length : Int)
  · have e1 : o.learn n = ({ o with sure := (min n (o.log.length : Int)).toNat }, true) := by unfold OS.learn; rw [if_pos hc]
    rw [e1]
    clear e1
    obtain ⟨hf, hlt⟩ := hc
    have HS : Hid (∀ w1, OAt w1 L o → OAt (w1.setCell ⟨L.b, 4, none⟩ (.int .i64 (min n (o.log.length : Int)))) L { o with sure := (min n (o.log.length : Int)).toNat } ∧ OStep w1 (w1.setCell ⟨L.b, 4, none⟩ (.int .i64 (min n (o.log.length : Int)))) L L) := fun w1 h1 => by
      refine h1.boxed 4 _ ?_ rfl rfl
      have : (min n (o.log.length : Int)) = (((min n (o.log.length : Int)).toNat : Nat) : Int) := by omega
      rw [this]
      rfl
    rw [hf] at HF
    have hd : decide (min n (o.log.length : Int) ≤ (o.sure : Int)) = false := decide_eq_false (by omega)
    clear h hk hf HH
    go_enter Try.func19, Try.ntmps19
    go_wp2
    refine wp_scope_none 0 rfl ?_
    go_wp2_with (go_at_call 10; refine (HF.out w (Below.refl _ _)).mono ?_; rintro e w1 ⟨rfl, b1⟩; obtain ⟨h1, c4, f4⟩ := HB.out w1 b1; have A1 := hide h1; have B1 := hide b1; clear h1 b1)
    dsimp only [Exit.jump]
    go_ret
    exact ⟨rfl, (HS.out w1 A1.out).1, (OStep.below B1.out).trans (HS.out w1 A1.out).2⟩
  · have e1 : o.learn n = (o, false) := by unfold OS.learn; rw [if_neg hc]
    rw [e1]
    clear e1
    have HS : Hid (∀ w1, Below w.heap.size w w1 → OAt w1 L o ∧ OStep w w1 L L) := fun w1 b1 => ⟨h.below b1, OStep.below b1⟩
    go_enter Try.func19, Try.ntmps19
    go_wp2
    refine wp_scope_goto 0 (fun a' w' => a'.tmps.size = 26 ∧ a'.defers = [] ∧ Below w.heap.size w w') rfl ?_ fun a' w' hJ => le_refused (by kernel_rfl) a' w' hJ.1 hJ.2.1 ⟨rfl, HS.out w' hJ.2.2⟩
    cases hf : o.first with
    | true =>
      rw [hf] at HF
      clear h hk hf HH hc HS
      go_wp2_with (go_at_call 10; refine (HF.out w (Below.refl _ _)).mono ?_; rintro e w1 ⟨rfl, b1⟩)
      exact wp_goto ⟨rfl, rfl, rfl, b1⟩
    | false =>
      have hd : decide (min n (o.log.length : Int) ≤ (o.sure : Int)) = true := decide_eq_true (by rcases Int.lt_or_le (o.sure : Int) (min n (o.log.length : Int)) with h9 | h9; exact absurd ⟨hf, h9⟩ hc; exact h9)
      rw [hf] at HF
      clear h hk hf HH hc HS
      go_wp2_with (go_at_call 10; refine (HF.out w (Below.refl _ _)).mono ?_; rintro e w1 ⟨rfl, b1⟩; obtain ⟨h1, c4, f4⟩ := HB.out w1 b1; clear h1)
      exact wp_goto ⟨rfl, rfl, rfl, b1⟩
end Go.Proofs.Ytjgbgbgajadgnaa
