/-
  carillonref09's Take, as it runs (mkx7.py).
-/
import Derived.Test.YthgfijmpofbchaaZX6a
import Derived.Test.YthgfijmpofbchaaZX6b
import Derived.Test.YthgfijmpofbchaaZX6c
import Derived.Test.YthgfijmpofbchaaZD8
import Derived.Deep.DeepCutAuto
namespace Go.Proofs.Ythgfijmpofbchaa
open Go.RowKit

attribute [local go_sem ↓] Go.wp_at_zero Go.wp_at_succ
set_option linter.unusedSimpArgs false
set_option linter.unusedVariables false

/-- What Take leaves. -/
structure XTk (w w' : World) (b : Nat) (v v' bv : Value) (l' : LK) (bodies : List ByteArray) : Prop where
  link : XL w' b v' l'
  touch : Touch (xown b v) w w'
  less : ∀ j, xown b v' j → xown b v j
  row : w'.ownsRow w.heap.size 9 1 bv bodies.length (bodies.map .string)
theorem xk_end {w W : World} {b : Nat} {v0 v' : Value} {d : Nat} {o : Obj} {l' : LK} {bodies : List ByteArray} {a : Act} {vv : Vxk} {r : Bool} {ao : Option Addr} {cp : Nat} (hF : Fxk a vv) (h4 : vv.v4 = .slice ao bodies.length cp) (h5 : vv.v5 = .bool r) (hX : XT w b v0 d o W v' (xc l') l'.wait) (hok : l'.ok) (hrow : W.ownsRow w.heap.size 9 1 (.slice ao bodies.length cp) bodies.length (bodies.map .string)) {T : (List ByteArray × Bool) × LK} (hT : T = ((bodies, r), l')) :
    bodyPost Try.prog Try.f17 (fun e w' => ∃ ao cp v', e = .returned (.tuple #[.slice ao T.1.1.length cp, .bool T.1.2]) ∧ XTk w w' b v0 v' (.slice ao T.1.1.length cp) T.2 T.1.1) .ret a W := by
  subst hT
  have g4 : a.tmps[4]?.getD undef = .slice ao bodies.length cp := by
    have := hF.s4.trans h4
    rw [Array.getD_eq_getD_getElem?] at this
    exact this
  have g5 : a.tmps[5]?.getD undef = .bool r := by
    have := hF.s5.trans h5
    rw [Array.getD_eq_getD_getElem?] at this
    exact this
  refine bodyPost_ret (v := .tuple #[.slice ao bodies.length cp, .bool r]) ?_ hF.defers ⟨ao, cp, v', rfl, ⟨hok, hX.box, hX.row⟩, hX.touch, fun j hj => hj.imp id (hX.less j), hrow⟩
  simp [results, Try.results17, go_sem, g4, g5]
attribute [local go_sem ↓] Go.wp_at_zero Go.wp_at_succ
set_option maxHeartbeats 16000000 in
set_option maxRecDepth 100000 in
theorem xtake {w : World} {b : Nat} {v : Value} {l : LK} (h : XL w b v l) (f : FR) (hf : f.ok) (hok : (l.take f).2.ok) : Calls Try.prog 17 #[.pointer (some ⟨b, 0, none⟩), f.v] w fun e w' => ∃ ao cp v', e = .returned (.tuple #[.slice ao (l.take f).1.1.length cp, .bool (l.take f).1.2]) ∧ XTk w w' b v v' (.slice ao (l.take f).1.1.length cp) (l.take f).2 (l.take f).1.1 := by
  have HR := hide (xright f hf)
  have HH := hide h
  have HOK := hide hok
  obtain ⟨T, hT⟩ : ∃ T, l.take f = T := ⟨_, rfl⟩
  rw [hT] at HOK ⊢
  have HT := hide hT
  clear h hf hok hT
  obtain ⟨fe, fp, fs, fa, fy⟩ := f
  simp only [FR.v] at *
  go_enter Try.func17, Try.ntmps17
  go_wp2_with fail
  refine (HR.out _).mono ?_
  rintro e w1 ⟨rfl, hb1⟩
  obtain ⟨f, hf⟩ : ∃ f : FR, f = ⟨fe, fp, fs, fa, fy⟩ := ⟨_, rfl⟩
  have B1 : Below w.heap.size w w1 := ((Below.refl _ w).alloc (Nat.le_refl _) _).trans (hb1.mono (by simp))
  have X1 : Hid (XT w b v w.heap.size (.cells #[.int .i64 f.epoch, .int .i64 f.peer, .int .i64 f.seq, .int .i64 f.ack, .string f.body] 31 (0, 0)) w1 v (xc l) l.wait) := by
    have h1 := HH.out.keep (own := fun _ => False) (Touch.of_below B1) fun _ _ e => e
    refine ⟨h1.box, h1.row, ?_, ?_, ?_, fun _ e => e, HH.out.ne, Touch.of_below B1⟩
    · rw [hf]
      exact (hb1.block _ (by simp)).trans (heap_alloc_new w _)
    · have := heap_lt HH.out.box; omega
    · intro e; have := HH.out.row.lt e; omega
  rw [← hf] at HT
  rw [show ({ epoch := fe, peer := fp, seq := fs, ack := fa, body := fy } : FR) = f from hf.symm]
  clear hb1 B1 HR
  have HF := hide hf
  clear hf
  go_upto_region 2 with fail
  rename_i Ko hKo Ki hKi
  obtain ⟨ok, hokk⟩ : ∃ ok, decide f.rightP = ok := ⟨_, rfl⟩
  rw [hokk]
  refine reg_mono (xk_r2 (f := f) (by kernel_rfl) _ (v := ⟨_, _, _, _, _, _, _, _⟩) ⟨rfl, rfl, rfl, rfl, rfl, rfl, rfl, rfl, rfl, rfl⟩ rfl rfl rfl X1.out ?_)
  intro a2 w2 F2 h22 b2
  refine hKi _ _ ?_
  by_cases hwr : ¬ f.rightP ∨ f.epoch < l.peer
  · have e22 : (!ok || decide (f.epoch < (xc l).p)) = true := by
      rw [← hokk]
      rcases hwr with e | e
      · simp [e]
      · have e2 : f.epoch < ((xc l).p) := e
        simp [e2]
    rw [e22] at h22
    refine wp_cond_true h22 (wp_seq (reg_mono (xk_r3 (by kernel_rfl) _ F2 ?_)))
    intro a3 F3
    refine wp_ret ?_
    have eT : T = (([], false), l) := by rw [← HT.out]; unfold LK.take; exact if_pos hwr
    exact xk_end (bodies := []) F3 rfl rfl (X1.out.below b2) HH.out.ok (World.ownsRow_nil _ _ _ _) eT
  have hr : f.rightP := Decidable.not_not.1 fun e => hwr (.inl e)
  have hne : ¬ f.epoch < l.peer := fun e => hwr (.inr e)
  have e22 : (!ok || decide (f.epoch < (xc l).p)) = false := by
    rw [← hokk, decide_eq_true hr]
    have e2 : ¬ f.epoch < ((xc l).p) := hne
    simp [e2]
  rw [e22] at h22
  refine wp_cond_false h22 (wp_skip ?_)
  show Ko _ _
  refine hKo _ _ ?_
  have X2 := X1.out.below b2
  clear X1 b2 h22 e22
  refine wp_seq (reg_mono (xk_r4 (by kernel_rfl) _ F2 ?_))
  intro a3 F3
  obtain ⟨r1, r2, r3, r4, r5, r6, r7, r8, _⟩ := hr
  obtain ⟨E, hE⟩ : ∃ E : Nat, f.epoch = (E : Int) := ⟨f.epoch.toNat, by omega⟩
  obtain ⟨A, hA⟩ : ∃ A : Nat, f.ack = (A : Int) := ⟨f.ack.toNat, by omega⟩
  obtain ⟨q, hq⟩ : ∃ q : Nat, f.seq = (q : Int) := ⟨f.seq.toNat, by omega⟩
  obtain ⟨hh, hhh⟩ : ∃ hh, l.hear E = hh := ⟨_, rfl⟩
  have hho : hh.2.ok := by rw [← hhh]; exact hear_ok HH.out.ok (by omega)
  have eT : T = if f.peer ≠ hh.2.epoch then (([], hh.1), { hh.2 with owes := true }) else ((((hh.2.ackd A).get q f.body).1, hh.1), ((hh.2.ackd A).get q f.body).2) := by
    rw [← HT.out]
    unfold LK.take
    rw [if_neg hwr, hE, hA, hq, Int.toNat_natCast, Int.toNat_natCast, Int.toNat_natCast, hhh]
  -- hear
  refine wp_mid (fun a W => ∃ vv v', Fxk a vv ∧ vv.v0 = .pointer (some ⟨b, 0, none⟩) ∧ vv.v3 = .pointer (some ⟨w.heap.size, 0, none⟩) ∧ vv.v7 = .bool hh.1 ∧ XT w b v w.heap.size (.cells #[.int .i64 f.epoch, .int .i64 f.peer, .int .i64 f.seq, .int .i64 f.ack, .string f.body] 31 (0, 0)) W v' (xc hh.2) hh.2.wait) ?_ ?_
  · refine wp_seq (reg_mono (xk_r5 (f := f) (by kernel_rfl) _ F3 rfl rfl X2 ?_))
    intro a4 w4 F4 h29 b4
    have X4 := X2.below b4
    by_cases c1 : E ≤ l.peer
    · have e1 : hh = (false, l) := by rw [← hhh]; unfold LK.hear; rw [if_pos c1]
      rw [decide_eq_false (show ¬ (xc l).p < f.epoch by rw [hE]; show ¬ (l.peer : Int) < (E : Int); omega)] at h29
      refine wp_cond_false h29 (wp_skip ?_)
      subst e1
      exact ⟨_, v, F4, rfl, rfl, rfl, X4⟩
    · rw [decide_eq_true (show (xc l).p < f.epoch by rw [hE]; show (l.peer : Int) < (E : Int); omega)] at h29
      refine wp_cond_true h29 ?_
      refine wp_seq (wp_seq (reg_mono (xk_r6 (f := f) (by kernel_rfl) _ F4 rfl X4 ?_)))
      intro a5 F5 h34
      by_cases c2 : l.peer = 0
      · have e1 : hh = (false, { l with peer := E, taken := 0 }) := by rw [← hhh]; unfold LK.hear; rw [if_neg c1, if_pos c2]
        rw [show ((xc l).p != 0) = false by show ((l.peer : Int) != 0) = false; rw [c2]; rfl] at h34
        refine wp_cond_false h34 (wp_skip ?_)
        show Code.wp _ _ _ _ _
        refine wp_seq (reg_mono (xk_r13 (f := f) (by kernel_rfl) _ F5 rfl rfl X4 ?_))
        intro a6 w6 F6 X6
        refine reg_all (xk_r14 (f := f) (by kernel_rfl) _ F6 rfl X6 ?_)
        intro a7 w7 F7 X7
        subst e1
        refine ⟨_, v, F7, rfl, rfl, rfl, ?_⟩
        have e2 : ({ ({ xc l with p := f.epoch } : XC) with ta := 0 } : XC) = xc { l with peer := E, taken := 0 } := by rw [hE]; rfl
        rw [e2] at X7
        exact X7
      · have e1 : hh = (true, { l with wait := [], first := 1, out := 0, due := 0, ticks := 0, peer := E, taken := 0 }) := by rw [← hhh]; unfold LK.hear; rw [if_neg c1, if_neg c2]
        rw [show ((xc l).p != 0) = true by show ((l.peer : Int) != 0) = true; rw [bne_iff_ne]; omega] at h34
        refine wp_cond_true h34 ?_
        refine wp_seq (reg_mono (xk_r7 (by kernel_rfl) _ F5 ?_))
        intro a6 F6
        refine wp_seq (reg_mono (xk_r8 (f := f) (by kernel_rfl) _ F6 rfl X4 ?_))
        intro a7 w7 F7 X7
        refine wp_seq (reg_mono (xk_r9 (f := f) (by kernel_rfl) _ F7 rfl X7 ?_))
        intro a8 w8 F8 X8
        refine wp_seq (reg_mono (xk_r10 (f := f) (by kernel_rfl) _ F8 rfl X8 ?_))
        intro a9 w9 F9 X9
        refine wp_seq (reg_mono (xk_r11 (f := f) (by kernel_rfl) _ F9 rfl X9 ?_))
        intro a10 w10 F10 X10
        refine reg_all (xk_r12 (f := f) (by kernel_rfl) _ F10 rfl X10 ?_)
        intro a11 w11 F11 X11
        show Code.wp _ _ _ _ _
        refine wp_seq (reg_mono (xk_r13 (f := f) (by kernel_rfl) _ F11 rfl rfl X11 ?_))
        intro a12 w12 F12 X12
        refine reg_all (xk_r14 (f := f) (by kernel_rfl) _ F12 rfl X12 ?_)
        intro a13 w13 F13 X13
        subst e1
        refine ⟨_, .slice none 0 0, F13, rfl, rfl, rfl, ?_⟩
        have e2 : ({ xc l with fi := 1, ou := 0, du := 0, ti := 0, p := f.epoch, ta := 0 } : XC) = xc { l with wait := [], first := 1, out := 0, due := 0, ticks := 0, peer := E, taken := 0 } := by rw [hE]; rfl
        have X14 : XT w b v w.heap.size (.cells #[.int .i64 f.epoch, .int .i64 f.peer, .int .i64 f.seq, .int .i64 f.ack, .string f.body] 31 (0, 0)) w13 (.slice none 0 0) ({ xc l with fi := 1, ou := 0, du := 0, ti := 0, p := f.epoch, ta := 0 } : XC) [] := X13
        rw [e2] at X14
        exact X14
  clear F3 F2 X2
  rintro a4 w4 ⟨v4, x4, F4, g0, g3, g7, X4⟩
  -- to another epoch
  refine wp_seq (wp_seq (reg_mono (xk_r15 (f := f) (by kernel_rfl) _ F4 g0 g3 X4 ?_)))
  intro a5 w5 F5 h64 b5
  have X5 := X4.below b5
  by_cases c3 : f.peer ≠ hh.2.epoch
  · rw [show (f.peer != (xc hh.2).e) = true by rw [bne_iff_ne]; exact c3] at h64
    refine wp_cond_true h64 ?_
    refine wp_seq (reg_mono (xk_r16 (f := f) (by kernel_rfl) _ F5 g0 X5 ?_))
    intro a6 w6 F6 X6
    refine wp_seq (reg_mono (xk_r17 (by kernel_rfl) _ F6 ?_))
    intro a7 F7
    refine wp_ret ?_
    rw [if_pos c3] at eT
    exact xk_end (bodies := []) (l' := { hh.2 with owes := true }) F7 rfl g7 X6 (hho.owes true) (World.ownsRow_nil _ _ _ _) eT
  have c3 : f.peer = hh.2.epoch := Decidable.not_not.1 c3
  rw [show (f.peer != (xc hh.2).e) = false by rw [bne_eq_false_iff_eq]; exact c3] at h64
  refine wp_cond_false h64 (wp_skip ?_)
  show Code.wp _ _ _ _ _
  rw [if_neg (fun e => e c3)] at eT
  have k1 := hho.first
  have k2 := hho.outw
  have k3 := hho.most
  have k4 := hho.due
  have k5 := hho.taken
  have k6 := hho.win
  refine wp_seq (reg_mono (xk_r18 (f := f) (by kernel_rfl) _ F5 g0 g3 X5 (by show 0 ≤ (hh.2.first : Int) ∧ (hh.2.first : Int) ≤ 9007199254740992; omega) (by omega) ?_))
  intro a6 w6 F6 b6
  have X6 := X5.below b6
  obtain ⟨lk, hlk⟩ : ∃ lk, hh.2.ackd A = lk := ⟨_, rfl⟩
  rw [hlk] at eT
  have htk : lk.taken = hh.2.taken := by rw [← hlk]; unfold LK.ackd; split <;> rfl
  -- what is acknowledged
  refine wp_mid (fun a W => ∃ vv v', Fxk a vv ∧ vv.v0 = .pointer (some ⟨b, 0, none⟩) ∧ vv.v3 = .pointer (some ⟨w.heap.size, 0, none⟩) ∧ vv.v7 = .bool hh.1 ∧ XT w b v w.heap.size (.cells #[.int .i64 f.epoch, .int .i64 f.peer, .int .i64 f.seq, .int .i64 f.ack, .string f.body] 31 (0, 0)) W v' (xc lk) lk.wait) ?_ ?_
  · refine wp_seq (reg_mono (xk_r19 (f := f) (by kernel_rfl) _ F6 g0 rfl X6 ?_))
    intro a7 F7 h86
    by_cases c4 : hh.2.first ≤ A ∧ A + 1 ≤ hh.2.first + hh.2.out
    · obtain ⟨m, hm⟩ : ∃ m, A + 1 - hh.2.first = m := ⟨_, rfl⟩
      have hmz : f.ack - (xc hh.2).fi + 1 = (m : Int) := by rw [hA]; show (A : Int) - (hh.2.first : Int) + 1 = _; omega
      rw [hmz] at F7 h86
      rw [decide_eq_true (show (0 : Int) < (m : Int) ∧ (m : Int) ≤ (xc hh.2).ou by show (0 : Int) < (m : Int) ∧ (m : Int) ≤ (hh.2.out : Int); omega)] at h86
      have e1 : lk = { hh.2 with wait := hh.2.wait.drop m, first := A + 1, out := hh.2.out - m, due := hh.2.due - m, ticks := 0 } := by rw [← hlk, ← hm]; unfold LK.ackd; rw [if_pos c4]
      refine wp_cond_true h86 ?_
      refine wp_seq (reg_mono (xk_r20 (f := f) (by kernel_rfl) _ F7 g0 rfl X6 ⟨by omega, by omega⟩ (by omega) ?_))
      intro a8 w8 v8 F8 X8
      refine wp_seq (reg_mono (xk_r21 (f := f) (by kernel_rfl) _ F8 g0 rfl X8 (by show 0 ≤ (hh.2.first : Int) ∧ (hh.2.first : Int) ≤ 9007199254740992; omega) (by omega) ?_))
      intro a9 w9 F9 X9
      refine wp_seq (reg_mono (xk_r22 (f := f) (by kernel_rfl) _ F9 g0 rfl X9 (by show 0 ≤ (hh.2.out : Int) ∧ (hh.2.out : Int) ≤ 100; omega) (by omega) ?_))
      intro a10 w10 F10 X10
      refine wp_seq (reg_mono (xk_r23 (f := f) (k := hh.2.due) (by kernel_rfl) _ F10 g0 rfl X10 rfl ⟨by omega, by omega⟩ ?_))
      intro a11 w11 F11 X11
      refine reg_all (xk_r24 (f := f) (by kernel_rfl) _ F11 g0 X11 ?_)
      intro a12 w12 F12 X12
      refine ⟨_, v8, F12, g0, g3, g7, ?_⟩
      have X13 : XT w b v w.heap.size (.cells #[.int .i64 f.epoch, .int .i64 f.peer, .int .i64 f.seq, .int .i64 f.ack, .string f.body] 31 (0, 0)) w12 v8 ({ xc hh.2 with fi := (hh.2.first : Int) + m, ou := (hh.2.out : Int) - m, du := ((hh.2.due - m : Nat) : Int), ti := 0 } : XC) (hh.2.wait.drop m) := X12
      rw [show ({ xc hh.2 with fi := (hh.2.first : Int) + m, ou := (hh.2.out : Int) - m, du := ((hh.2.due - m : Nat) : Int), ti := 0 } : XC) = xc lk by
        rw [e1]
        show XC.mk _ _ _ _ _ _ _ _ = XC.mk _ _ _ _ _ _ _ _
        have q1 : (hh.2.first : Int) + m = ((A + 1 : Nat) : Int) := by omega
        have q2 : (hh.2.out : Int) - m = ((hh.2.out - m : Nat) : Int) := by omega
        rw [q1, q2]
        rfl] at X13
      rw [show lk.wait = hh.2.wait.drop m by rw [e1]]
      exact X13
    · have e1 : lk = hh.2 := by rw [← hlk]; unfold LK.ackd; rw [if_neg c4]
      rw [decide_eq_false (show ¬ ((0 : Int) < f.ack - (xc hh.2).fi + 1 ∧ f.ack - (xc hh.2).fi + 1 ≤ (xc hh.2).ou) by rw [hA]; show ¬ ((0 : Int) < (A : Int) - (hh.2.first : Int) + 1 ∧ (A : Int) - (hh.2.first : Int) + 1 ≤ (hh.2.out : Int)); omega)] at h86
      refine wp_cond_false h86 (wp_skip ?_)
      rw [e1]
      exact ⟨_, x4, F7, g0, g3, g7, X6⟩
  clear F4 F5 F6 X4 X5 X6 g0 g3 g7 h64 b5 b6
  rintro a7 w7 ⟨v7, x7, F7, g0, g3, g7, X7⟩
  refine wp_seq (reg_mono (xk_r25 (by kernel_rfl) _ F7 ?_))
  intro a8 F8
  refine wp_seq (wp_seq (reg_mono (xk_r26 (f := f) (by kernel_rfl) _ F8 g0 g3 X7 (by show 0 ≤ (lk.taken : Int) ∧ (lk.taken : Int) ≤ 9007199254740991; omega) ?_)))
  intro a9 w9 F9 h134 b9
  have X9 := X7.below b9
  have HOT := HOK.out
  by_cases c5 : q = lk.taken + 1
  · rw [show (f.seq == (xc lk).ta + 1) = true by rw [hq]; show ((q : Int) == (lk.taken : Int) + 1) = true; rw [beq_iff_eq]; omega] at h134
    refine wp_cond_true h134 ?_
    refine wp_seq (reg_mono (xk_r27 (f := f) (by kernel_rfl) _ F9 g0 X9 (by show 0 ≤ (lk.taken : Int) ∧ (lk.taken : Int) ≤ 9007199254740991; omega) ?_))
    intro a10 w10 F10 X10
    refine reg_all (xk_r28 (f := f) (by kernel_rfl) _ F10 g3 rfl X10 X10.touch.size ?_)
    intro a11 w11 ao cp F11 b11 R11
    show Code.wp _ _ _ _ _
    have X11 := X10.below b11
    refine wp_seq (wp_seq (reg_mono (xk_r29 (f := f) (by kernel_rfl) _ F11 g3 X11 ?_)))
    intro a12 F12 h149
    rw [show (f.seq != 0) = true by rw [hq, bne_iff_ne]; omega] at h149
    refine wp_cond_true h149 (reg_all (xk_r30 (f := f) (by kernel_rfl) _ F12 g0 X11 ?_))
    intro a13 F13 X13
    show Code.wp _ _ _ _ _
    refine wp_seq (reg_mono (xk_r31 (by kernel_rfl) _ F13 ?_))
    intro a14 F14
    refine wp_ret ?_
    have eG : lk.get q f.body = ([f.body], { lk with taken := lk.taken + 1, owes := true }) := by unfold LK.get; rw [if_pos c5]
    rw [eG] at eT
    have R13 := set_row R11 b 7 (.bool true) (fun e => by have h1 := (R11.lt b e).1; have h2 := heap_lt HH.out.box; omega)
    have e2 : ({ ({ xc lk with ta := (xc lk).ta + 1 } : XC) with ow := true } : XC) = xc { lk with taken := lk.taken + 1, owes := true } := by
      show XC.mk _ _ _ _ _ _ _ _ = XC.mk _ _ _ _ _ _ _ _
      rw [show (((lk.taken + 1 : Nat) : Int)) = (lk.taken : Int) + 1 by omega]
    have X14 : XT w b v w.heap.size (.cells #[.int .i64 f.epoch, .int .i64 f.peer, .int .i64 f.seq, .int .i64 f.ack, .string f.body] 31 (0, 0)) (w11.setCell ⟨b, 7, none⟩ (.bool true)) x7 ({ ({ xc lk with ta := (xc lk).ta + 1 } : XC) with ow := true } : XC) lk.wait := X13
    rw [e2] at X14
    exact xk_end (bodies := [f.body]) (l' := { lk with taken := lk.taken + 1, owes := true }) F14 rfl g7 X14 (by rw [eT] at HOT; exact HOT) R13 eT
  · rw [show (f.seq == (xc lk).ta + 1) = false by rw [hq]; show ((q : Int) == (lk.taken : Int) + 1) = false; rw [beq_eq_false_iff_ne]; omega] at h134
    refine wp_cond_false h134 (wp_skip ?_)
    show Code.wp _ _ _ _ _
    refine wp_seq (wp_seq (reg_mono (xk_r29 (f := f) (by kernel_rfl) _ F9 g3 X9 ?_)))
    intro a12 F12 h149
    by_cases c6 : q = 0
    · rw [show (f.seq != 0) = false by rw [hq, c6]; rfl] at h149
      refine wp_cond_false h149 (wp_skip ?_)
      show Code.wp _ _ _ _ _
      refine wp_seq (reg_mono (xk_r31 (by kernel_rfl) _ F12 ?_))
      intro a14 F14
      refine wp_ret ?_
      have eG : lk.get q f.body = ([], lk) := by unfold LK.get; rw [if_neg c5, if_pos c6]
      rw [eG] at eT
      exact xk_end (bodies := []) (l' := lk) F14 rfl g7 X9 (by rw [eT] at HOT; exact HOT) (World.ownsRow_nil _ _ _ _) eT
    · rw [show (f.seq != 0) = true by rw [hq, bne_iff_ne]; omega] at h149
      refine wp_cond_true h149 (reg_all (xk_r30 (f := f) (by kernel_rfl) _ F12 g0 X9 ?_))
      intro a13 F13 X13
      show Code.wp _ _ _ _ _
      refine wp_seq (reg_mono (xk_r31 (by kernel_rfl) _ F13 ?_))
      intro a14 F14
      refine wp_ret ?_
      have eG : lk.get q f.body = ([], { lk with owes := true }) := by unfold LK.get; rw [if_neg c5, if_neg c6]
      rw [eG] at eT
      exact xk_end (bodies := []) (l' := { lk with owes := true }) F14 rfl g7 X13 (by rw [eT] at HOT; exact HOT) (World.ownsRow_nil _ _ _ _) eT
end Go.Proofs.Ythgfijmpofbchaa
