/-
  carillonref09's Out, as it runs (mkx9.py).
-/
import Derived.Test.YthgfijmpofbchaaZX8a
import Derived.Deep.DeepCutAuto
namespace Go.Proofs.Ythgfijmpofbchaa
open Go.RowKit

attribute [local go_sem ↓] Go.wp_at_zero Go.wp_at_succ
set_option linter.unusedSimpArgs false
set_option linter.unusedVariables false

/-- What Out leaves. -/
structure XGave (w w' : World) (b : Nat) (v : Value) (l : LK) (ov : Value) (fs : List FR) : Prop where
  link : XL w' b v l
  touch : Touch (fun j => j = b) w w'
  row : w'.ownsRow w.heap.size 31 5 ov fs.length (frCells fs)
/-- The frames from the first due one on, up to k. -/
def LK.upto (l : LK) (k : Nat) : List FR := (List.range (k - l.due)).map fun j => l.frame (l.due + j)
theorem upto_len (l : LK) (k : Nat) : (l.upto k).length = k - l.due := by unfold LK.upto; rw [List.length_map, List.length_range]
theorem upto_next (l : LK) (k : Nat) (h : l.due ≤ k) : l.upto (k + 1) = l.upto k ++ [l.frame k] := by
  unfold LK.upto
  rw [show k + 1 - l.due = (k - l.due) + 1 by omega, List.range_succ, List.map_append]
  simp only [List.map_cons, List.map_nil]
  rw [show l.due + (k - l.due) = k by omega]
/-- What stands in the box then. -/
def LK.xu (l : LK) (k : Nat) : XC := ⟨l.epoch, l.peer, l.first, ((max l.out k : Nat) : Int), (k : Int), l.taken, l.owes, if l.out = 0 ∧ l.due < k then 0 else (l.ticks : Int)⟩
theorem xo_end {w W : World} {b : Nat} {v : Value} {l' : LK} {fs : List FR} {a : Act} {vv : Vxo} {oo : Option Addr} {oc : Nat} (hF : Fxo a vv) (h2 : vv.v2 = .slice oo fs.length oc) (hX : XO w b v W (xc l') l'.wait (.slice oo fs.length oc) fs) (hok : l'.ok) :
    bodyPost Try.prog Try.f13 (fun e w' => ∃ oo oc, e = .returned (.slice oo fs.length oc) ∧ XGave w w' b v l' (.slice oo fs.length oc) fs) .ret a W := by
  have g2 : a.tmps[2]?.getD undef = .slice oo fs.length oc := by
    have := hF.s2.trans h2
    rw [Array.getD_eq_getD_getElem?] at this
    exact this
  refine bodyPost_ret (v := .slice oo fs.length oc) ?_ hF.defers ⟨oo, oc, rfl, ⟨hok, hX.box, hX.row⟩, hX.touch, hX.out⟩
  simp [results, Try.results13, go_sem, g2]
theorem put_wait (l : LK) : l.put.wait = l.wait := by unfold LK.put; split <;> rfl
attribute [local go_sem ↓] Go.wp_at_zero Go.wp_at_succ
set_option maxHeartbeats 16000000 in
set_option maxRecDepth 100000 in
theorem xout {w : World} {b : Nat} {v : Value} {l : LK} (h : XL w b v l) (hok : l.put.ok) : Calls Try.prog 13 #[.pointer (some ⟨b, 0, none⟩)] w fun e w' => ∃ oo oc, e = .returned (.slice oo l.outs.length oc) ∧ XGave w w' b v l.put (.slice oo l.outs.length oc) l.outs := by
  have HH := hide h
  have k1 := h.ok.first
  have k2 := h.ok.outw
  have k3 := h.ok.most
  have k4 := h.ok.due
  have k5 := h.ok.taken
  have k6 := h.ok.win
  have X0 : Hid (XO w b v w (xc l) l.wait (.slice none 0 0) []) := ⟨h.box, h.row, h.ne, heap_lt h.box, fun j hj => h.row.lt hj, Touch.refl _ w, World.ownsRow_nil _ _ _ _⟩
  clear h
  go_enter Try.func13, Try.ntmps13
  go_upto_region 2 with fail
  rename_i Ko hKo Ki hKi
  refine reg_mono (xo_r2 (by kernel_rfl) _ (v := ⟨_, _, _, _⟩) ⟨rfl, rfl, rfl, rfl, rfl, rfl⟩ rfl X0.out ?_)
  intro a2 F2 h9
  refine hKi _ _ ?_
  -- the frames
  have MID : ∀ a W, (∃ vv oo oc, Fxo a vv ∧ vv.v0 = .pointer (some ⟨b, 0, none⟩) ∧ vv.v3 = .slice oo l.frames.length oc ∧ XO w b v W { xc l.put with ow := l.owes } l.wait (.slice oo l.frames.length oc) l.frames) → Ko a W := by
    rintro a3 w3 ⟨v3, oo, oc, F3, g0, g3, X3⟩
    refine hKo _ _ ?_
    refine wp_seq (wp_seq (reg_mono (xo_r11 (by kernel_rfl) _ F3 g0 g3 X3 ?_)))
    intro a4 F4 h87
    have e1 : ({ ({ xc l.put with ow := l.owes } : XC) with ow := false } : XC) = xc l.put := by
      have e2 : l.put.owes = false := by unfold LK.put; split <;> rfl
      show XC.mk _ _ _ _ _ _ _ _ = XC.mk _ _ _ _ _ _ _ _
      rw [e2]
    by_cases c1 : l.frames = [] ∧ l.owes = true
    · have e2 : l.outs = [l.bare] := by unfold LK.outs; rw [if_pos c1]
      rw [show (decide (l.frames.length = 0) && ({ xc l.put with ow := l.owes } : XC).ow) = true by rw [c1.1]; exact c1.2] at h87
      refine wp_cond_true h87 (reg_all (xo_r12 (by kernel_rfl) _ F4 g0 g3 X3 (by rw [c1.1]; exact Nat.zero_le _) ?_))
      intro a5 w5 o5 q5 F5 X5
      show Code.wp _ _ _ _ _
      refine wp_seq (reg_mono (xo_r13 (by kernel_rfl) _ F5 g0 X5 ?_))
      intro a6 w6 F6 X6
      refine wp_seq (reg_mono (xo_r14 (by kernel_rfl) _ F6 ?_))
      intro a7 F7
      refine wp_ret ?_
      rw [e1] at X6
      have e3 : l.frames ++ [(⟨({ xc l.put with ow := l.owes } : XC).e, ({ xc l.put with ow := l.owes } : XC).p, 0, ({ xc l.put with ow := l.owes } : XC).ta, ⟨#[]⟩⟩ : FR)] = l.outs := by
        rw [c1.1, e2]
        have p1 : l.put.epoch = l.epoch := by unfold LK.put; split <;> rfl
        have p2 : l.put.peer = l.peer := by unfold LK.put; split <;> rfl
        have p3 : l.put.taken = l.taken := by unfold LK.put; split <;> rfl
        show [(⟨(l.put.epoch : Int), (l.put.peer : Int), 0, (l.put.taken : Int), ⟨#[]⟩⟩ : FR)] = [l.bare]
        rw [p1, p2, p3]
        rfl
      rw [e3] at X6 F7
      exact xo_end F7 rfl (by rw [put_wait]; exact X6) hok
    · have e2 : l.outs = l.frames := by unfold LK.outs; rw [if_neg c1]
      rw [show (decide (l.frames.length = 0) && ({ xc l.put with ow := l.owes } : XC).ow) = false by
        rw [Bool.and_eq_false_iff]
        by_cases c2 : l.frames = []
        · exact .inr (by show l.owes = false; cases h : l.owes; rfl; exact absurd ⟨c2, h⟩ c1)
        · exact .inl (by rw [decide_eq_false_iff_not]; exact fun e => c2 (List.eq_nil_of_length_eq_zero e))] at h87
      refine wp_cond_false h87 (wp_skip ?_)
      show Code.wp _ _ _ _ _
      refine wp_seq (reg_mono (xo_r13 (by kernel_rfl) _ F4 g0 X3 ?_))
      intro a6 w6 F6 X6
      refine wp_seq (reg_mono (xo_r14 (by kernel_rfl) _ F6 ?_))
      intro a7 F7
      refine wp_ret ?_
      rw [e1] at X6
      show bodyPost _ _ (fun e w' => ∃ oo oc, e = .returned (.slice oo l.outs.length oc) ∧ XGave w w' b v l.put (.slice oo l.outs.length oc) l.outs) _ _ _
      rw [e2]
      exact xo_end F7 g3 (by rw [put_wait]; exact X6) hok
  by_cases c1 : l.peer = 0
  · rw [show ((xc l).p != 0) = false by show ((l.peer : Int) != 0) = false; rw [c1]; rfl] at h9
    refine wp_cond_false h9 (wp_skip ?_)
    refine MID _ _ ⟨_, none, 0, F2, rfl, ?_, ?_⟩
    · show Value.slice none 0 0 = _
      rw [show l.frames = [] by unfold LK.frames; rw [if_pos c1]]
      rfl
    · rw [show l.frames = [] by unfold LK.frames; rw [if_pos c1], show l.put = { l with owes := false } by unfold LK.put; rw [if_pos (.inl c1)]]
      exact X0.out
  · rw [show ((xc l).p != 0) = true by show ((l.peer : Int) != 0) = true; rw [bne_iff_ne]; omega] at h9
    refine wp_cond_true h9 ?_
    refine wp_seq (reg_mono (xo_r3 (by kernel_rfl) _ F2 rfl X0.out ?_))
    intro a3 F3
    have hxu : l.xu l.due = xc l := by
      unfold LK.xu
      rw [show max l.out l.due = l.out by omega, if_neg (by omega)]
    have hup : l.upto l.due = [] := by unfold LK.upto; rw [Nat.sub_self]; rfl
    have htop : l.top = min 8 l.wait.length := rfl
    have hdt : l.due ≤ l.top := by omega
    refine wp_block (wp_loop (fun a W => ∃ k vv oo oc, l.due ≤ k ∧ k ≤ l.top ∧ Fxo a vv ∧ vv.v0 = .pointer (some ⟨b, 0, none⟩) ∧ vv.v3 = .slice oo (l.upto k).length oc ∧ vv.v4 = .int .i64 (k : Int) ∧ XO w b v W (l.xu k) l.wait (.slice oo (l.upto k).length oc) (l.upto k)) (fun a _ => 8 - (intOf (a.tmps.getD 4 undef)).toNat) ⟨l.due, _, none, 0, Nat.le_refl _, hdt, F3, rfl, by rw [hup]; rfl, rfl, by rw [hup, hxu]; exact X0.out⟩ ?_)
    clear F3
    rintro a4 w4 ⟨k, v4, oo, oc, hk1, hk2, F4, g0, g3, g4, X4⟩
    have hm4 : (intOf (a4.tmps.getD 4 undef)).toNat = k := by rw [F4.s4, g4]; simp [intOf]
    refine wp_seq (wp_seq (reg_mono (xo_r4 (by kernel_rfl) _ F4 g0 g4 X4 ?_)))
    intro a5 F5 h24
    by_cases hlt : k < l.wait.length ∧ k < 8
    · rw [decide_eq_true hlt] at h24
      refine wp_cond_true h24 (wp_skip ?_)
      show Code.wp _ _ _ _ _
      have e1 : (⟨(l.xu k).e, (l.xu k).p, (l.xu k).fi + k, (l.xu k).ta, l.wait[k]⟩ : FR) = l.frame k := by
        unfold LK.frame
        rw [List.getD_eq_getElem?_getD, List.getElem?_eq_getElem hlt.1]
        rfl
      have e2 := upto_next l k hk1
      refine wp_seq (wp_block (wp_seq (reg_mono (xo_r6 (by kernel_rfl) _ F5 g0 g3 g4 X4 (by rw [upto_len]; omega) hlt.1 (by show 0 ≤ (l.first : Int) ∧ (l.first : Int) ≤ 9007199254740992; omega) (by omega) ?_))))
      intro a6 w6 o6 q6 F6 X6
      rw [e1, ← e2] at F6 X6
      refine wp_mid (fun a7 w7 => Fxo a7 { v4 with v3 := .slice o6 (l.upto (k + 1)).length q6 } ∧ XO w b v w7 { l.xu k with ti := if l.out = 0 then 0 else (l.ticks : Int) } l.wait (.slice o6 (l.upto (k + 1)).length q6) (l.upto (k + 1))) ?_ ?_
      · refine wp_seq (reg_mono (xo_r7 (by kernel_rfl) _ F6 g0 X6 ?_))
        intro a7 F7 h60
        by_cases c2 : max l.out k = 0
        · rw [show ((l.xu k).ou == 0) = true by show (((max l.out k : Nat) : Int) == 0) = true; rw [c2]; rfl] at h60
          refine wp_cond_true h60 (reg_all (xo_r8 (by kernel_rfl) _ F7 g0 X6 ?_))
          intro a8 w8 F8 X8
          refine ⟨F8, ?_⟩
          rw [if_pos (by omega)]
          exact X8
        · rw [show ((l.xu k).ou == 0) = false by show (((max l.out k : Nat) : Int) == 0) = false; exact beq_zero_false c2] at h60
          refine wp_cond_false h60 (wp_skip ?_)
          refine ⟨F7, ?_⟩
          rw [show ({ l.xu k with ti := if l.out = 0 then 0 else (l.ticks : Int) } : XC) = l.xu k by
            show XC.mk (l.epoch : Int) l.peer l.first ((max l.out k : Nat) : Int) (k : Int) l.taken l.owes (if l.out = 0 then 0 else (l.ticks : Int)) = XC.mk (l.epoch : Int) l.peer l.first ((max l.out k : Nat) : Int) (k : Int) l.taken l.owes (if l.out = 0 ∧ l.due < k then 0 else (l.ticks : Int))
            by_cases c : l.out = 0
            · rw [if_pos c, if_pos (show l.out = 0 ∧ l.due < k from ⟨c, by omega⟩)]
            · rw [if_neg c, if_neg (show ¬ (l.out = 0 ∧ l.due < k) from fun e => c e.1)]]
          exact X6
      · rintro a7 w7 ⟨F7, X7⟩
        refine wp_seq (reg_mono (xo_r9 (m := max l.out k) (by kernel_rfl) _ F7 g0 g4 X7 rfl ⟨by omega, by omega⟩ ?_))
        intro a8 w8 F8 X8
        refine reg_all (xo_r10 (by kernel_rfl) _ F8 g0 g4 X8 (by omega) ?_)
        intro a9 w9 F9 X9
        show Code.wp _ _ _ _ _
        refine reg_all (xo_r5 (by kernel_rfl) _ F9 g4 (by omega) ?_)
        intro a10 F10
        refine ⟨⟨k + 1, _, o6, q6, by omega, by omega, F10, g0, rfl, rfl, ?_⟩, ?_⟩
        · have e3 : ({ ({ ({ l.xu k with ti := if l.out = 0 then 0 else (l.ticks : Int) } : XC) with ou := ((max (max l.out k) (k + 1) : Nat) : Int) } : XC) with du := ((k + 1 : Nat) : Int) } : XC) = l.xu (k + 1) := by
            show XC.mk (l.epoch : Int) l.peer l.first ((max (max l.out k) (k + 1) : Nat) : Int) ((k + 1 : Nat) : Int) l.taken l.owes (if l.out = 0 then 0 else (l.ticks : Int)) = XC.mk (l.epoch : Int) l.peer l.first ((max l.out (k + 1) : Nat) : Int) ((k + 1 : Nat) : Int) l.taken l.owes (if l.out = 0 ∧ l.due < k + 1 then 0 else (l.ticks : Int))
            rw [show max (max l.out k) (k + 1) = max l.out (k + 1) by omega]
            by_cases c : l.out = 0
            · rw [if_pos c, if_pos (show l.out = 0 ∧ l.due < k + 1 from ⟨c, by omega⟩)]
            · rw [if_neg c, if_neg (show ¬ (l.out = 0 ∧ l.due < k + 1) from fun e => c e.1)]
          rw [e3] at X9
          exact X9
        · have hm10 : (intOf (a10.tmps.getD 4 undef)).toNat = k + 1 := by rw [F10.s4]; simp only [intOf]; omega
          rw [hm10, hm4]
          omega
    · rw [decide_eq_false hlt] at h24
      refine wp_cond_false h24 (wp_exit ?_)
      show Ko _ _
      have hkt : k = l.top := by omega
      subst hkt
      have e1 : l.frames = l.upto l.top := by unfold LK.frames; rw [if_neg c1]; rfl
      refine MID _ _ ⟨_, oo, oc, F5, g0, by rw [e1]; exact g3, ?_⟩
      rw [e1]
      have e2 : ({ xc l.put with ow := l.owes } : XC) = l.xu l.top := by
        unfold LK.put
        by_cases c2 : l.top ≤ l.due
        · rw [if_pos (.inr c2)]
          show XC.mk (l.epoch : Int) l.peer l.first (l.out : Int) (l.due : Int) l.taken l.owes (l.ticks : Int) = XC.mk (l.epoch : Int) l.peer l.first ((max l.out l.top : Nat) : Int) (l.top : Int) l.taken l.owes (if l.out = 0 ∧ l.due < l.top then 0 else (l.ticks : Int))
          rw [show max l.out l.top = l.out by omega, if_neg (show ¬ (l.out = 0 ∧ l.due < l.top) by omega), show l.top = l.due by omega]
        · rw [if_neg (fun e => e.elim c1 c2)]
          show XC.mk (l.epoch : Int) l.peer l.first ((max l.out l.top : Nat) : Int) (l.top : Int) l.taken l.owes (((if l.out = 0 then 0 else l.ticks) : Nat) : Int) = XC.mk (l.epoch : Int) l.peer l.first ((max l.out l.top : Nat) : Int) (l.top : Int) l.taken l.owes (if l.out = 0 ∧ l.due < l.top then 0 else (l.ticks : Int))
          by_cases c : l.out = 0
          · rw [if_pos c, if_pos (show l.out = 0 ∧ l.due < l.top from ⟨c, by omega⟩)]
            rfl
          · rw [if_neg c, if_neg (show ¬ (l.out = 0 ∧ l.due < l.top) from fun e => c e.1)]
      rw [e2]
      exact X4
end Go.Proofs.Ythgfijmpofbchaa
