/-
  MachineApart: for all commands and truths the law's call returns true and leaves them as they were; no condition.
-/
import Derived.Test.YtlfodldlkchmoaaGreatZJ25
import Derived.Test.YtlfodldlkchmoaaGreatZJ26
import Derived.Test.YtlfodldlkchmoaaGreatZYC5
namespace Go.Proofs.YtlfodldlkchmoaaGreat.Y
open Go.RowKit
set_option maxHeartbeats 16000000
set_option maxRecDepth 100000
attribute [local go_sem ↓] Go.wp_at_zero Go.wp_at_succ
set_option linter.unusedSimpArgs false
set_option linter.unusedVariables false
open Go.Maps
theorem toList_nil (s : ByteArray) : s.toList = [] ↔ s = ⟨#[]⟩ := by
  rw [ByteArray.toList_eq]
  constructor
  · intro h
    obtain ⟨d⟩ := s
    obtain ⟨l⟩ := d
    have h : l = [] := h
    rw [h]
  · intro h
    rw [h]
theorem toList_one (s : ByteArray) (b : UInt8) : s.toList = [b] ↔ s = ⟨#[b]⟩ := by
  rw [ByteArray.toList_eq]
  constructor
  · intro h
    obtain ⟨d⟩ := s
    obtain ⟨l⟩ := d
    have h : l = [b] := h
    rw [h]
  · intro h
    rw [h]
theorem _root_.Go.Proofs.YtlfodldlkchmoaaGreat.BoolsAt.below {w w1 : World} {ao : Option Addr} {l : List Bool} (h : BoolsAt w ao l) (hb : Below w.heap.size w w1) : BoolsAt w1 ao l := fun i hi => by
  obtain ⟨b, off, h1, h2, h3⟩ := h i hi
  exact ⟨b, off, h1, Nat.lt_of_lt_of_le h2 hb.size, (hb.cell (p := ⟨b, _, none⟩) h2).trans h3⟩
def farOf (l : List Bool) (k : Nat) : Bool := if h : k < l.length then l[k] else false
def BoxC (W0 : World) (cb : Nat) (x : CM) (W : World) : Prop := W.heap[cb]? = some (.cells #[.int .i64 x.kind, .string x.topic, .string x.name, .int .i64 x.seq, .string x.key, .string x.val, .int .i64 x.n, .int .i64 x.node, .int .i64 x.ask] 31 (0, 0)) ∧ Touch (fun j => j = cb) W0 W
theorem BoxC.top {W0 W : World} {cb : Nat} {x : CM} (h : BoxC W0 cb x W) (t : ByteArray) : BoxC W0 cb { x with topic := t } (W.setCell ⟨cb, 1, none⟩ (.string t)) :=
  ⟨by have := wset (o := 1) (x := .string t) h.1; simpa using this, h.2.setCell ⟨cb, 1, none⟩ _ (fun _ => rfl)⟩
theorem BoxC.nam {W0 W : World} {cb : Nat} {x : CM} (h : BoxC W0 cb x W) (t : ByteArray) : BoxC W0 cb { x with name := t } (W.setCell ⟨cb, 2, none⟩ (.string t)) :=
  ⟨by have := wset (o := 2) (x := .string t) h.1; simpa using this, h.2.setCell ⟨cb, 2, none⟩ _ (fun _ => rfl)⟩
def apT0 (s : ByteArray) : ByteArray := if s = ⟨#[]⟩ then s else ⟨#[97]⟩
theorem apT0_nil (s : ByteArray) : apT0 s = ⟨#[]⟩ ↔ s = ⟨#[]⟩ := by
  unfold apT0
  split
  · exact Iff.rfl
  · rename_i h
    exact ⟨fun e => absurd e (by decide), fun e => absurd e h⟩
theorem apT_far (s : ByteArray) (h : s ≠ ⟨#[]⟩) : apT true s = ⟨#[98]⟩ := by unfold apT; rw [if_neg h]; rfl
theorem apT_near (s : ByteArray) : apT false s = apT0 s := by unfold apT apT0; split <;> rfl
theorem apT_nil (f : Bool) (s : ByteArray) (h : s = ⟨#[]⟩) : apT f s = apT0 s := by unfold apT apT0; rw [if_pos h, if_pos h]
theorem ap_ok (far : Bool) {x : CM} (h : x.ok) : (apC far x).ok := by
  refine ⟨?_, ?_, h.y, h.v⟩
  · show (apT far x.topic).size ≤ 9223372036854775807
    unfold apT
    split
    · exact h.t
    · split <;> decide
  · show (apN far x.kind x.name).size ≤ 9223372036854775807
    unfold apN
    split
    · decide
    · unfold apN0
      split
      · exact h.m
      · decide
theorem Two.touch {w0 w w' : World} {La Lb : LM} {X Y : MS} {own : Nat → Prop} (h : Two w0 w La Lb X Y) (t : Touch own w w') (ha : ∀ j, La.own j → ¬ own j) (hb : ∀ j, Lb.own j → ¬ own j) (hg : ∀ j, own j → w0.heap.size ≤ j) : Two w0 w' La Lb X Y :=
  ⟨h.a.keep t ha, h.b.keep t hb, h.ap, h.bel.trans (t.toBelow h.bel.size fun j hj e => by have := hg j e; omega), h.oa, h.ob⟩
theorem apN_near (k : Int) (s : ByteArray) : apN false k s = apN0 k s := by unfold apN; rw [if_neg (fun e => by cases e.1)]
theorem ap_r7 {K : Act → World → Prop} {c : Code} (hc : regOf (Tryz.f6.body.getD .skip) 7 = some c) (a : Act) {v : Vap} {wq : World} {ao : Option Addr} {n cp k : Nat} (hF : Fap a v) (h1 : v.v0 = .slice ao n cp) (h2 : v.v10 = .int .i64 (k : Int)) (hQ : ∀ a', Fap a' v → a'.tmps.getD 38 undef = .bool (decide (k < n ∧ k < 60)) → K a' wq) : Code.wp Tryz.prog c (Exit.then K fun _ _ _ => False) a wq := by
  by_cases hk : k < n
  · refine ap_r7y hc a hF h1 h2 (by omega) fun a' F g => hQ a' F ?_
    rw [g]
    by_cases h8 : k < 60
    · rw [decide_eq_true (show (k : Int) < 60 by omega), decide_eq_true (⟨hk, h8⟩ : k < n ∧ k < 60)]
    · rw [decide_eq_false (show ¬ (k : Int) < 60 by omega), decide_eq_false (fun e : k < n ∧ k < 60 => h8 e.2)]
  · refine ap_r7n hc a hF h1 h2 (by omega) fun a' F g => hQ a' F ?_
    rw [g, decide_eq_false (fun e : k < n ∧ k < 60 => hk e.1)]
theorem ap_r11 {K : Act → World → Prop} {c : Code} (hc : regOf (Tryz.f6.body.getD .skip) 11 = some c) (a : Act) {v : Vap} {wq : World} {bo : Option Addr} {cp k : Nat} {ls : List Bool} (hF : Fap a v) (h1 : v.v1 = .slice bo ls.length cp) (h2 : v.v10 = .int .i64 (k : Int)) (hB : BoolsAt wq bo ls) (hQ : ∀ a', Fap a' { v with v12 := .bool (farOf ls k) } → K a' wq) : Code.wp Tryz.prog c (Exit.then K fun _ _ _ => False) a wq := by
  by_cases hk : k < ls.length
  · obtain ⟨bb, bf, rfl, hb, hc2⟩ := hB k hk
    refine ap_r11y hc a hF h1 h2 hk hc2 fun a' F => hQ a' ?_
    have e : farOf ls k = ls[k] := by unfold farOf; rw [dif_pos hk]
    rw [e]
    exact F
  · refine ap_r11n hc a hF h1 h2 (by omega) fun a' F => hQ a' ?_
    have e : farOf ls k = false := by unfold farOf; rw [dif_neg hk]
    rw [e]
    exact F
theorem apart_walk (ao bo : Option Addr) (cp cq : Nat) (us : List CM) (ls : List Bool) (w : World) (hG : CMs w ao us) (hL : BoolsAt w bo ls) :
    Calls Tryz.prog 6 #[.slice ao us.length cp, .slice bo ls.length cq] w fun e w' => e = .returned (.bool true) ∧ Below w.heap.size w w' := by
  have hlen := hG.len
  go_enter Tryz.func6, Tryz.ntmps6
  refine wp_seq (reg_mono (ap_r0 (by kernel_rfl) _ (v := ⟨_, _, _, _, _, _, _, _, _, _, _, _, _, _⟩) ⟨rfl, rfl, rfl, rfl, rfl, rfl, rfl, rfl, rfl, rfl, rfl, rfl, rfl, rfl, rfl, rfl⟩ ?_))
  intro a0 F0
  try dsimp only at F0
  refine wp_seq (reg_mono (ap_r1 (by kernel_rfl) _ F0 (pexamples w) ?_))
  intro a1 w2 F1 b12
  try dsimp only at F1
  have hG2 := hG.all.below b12
  have hL2 := hL.below b12
  refine wp_seq (reg_mono (ap_r2 (ec := 0) (R := fun po W => ∃ L : LM, po = some ⟨L.b, 0, none⟩ ∧ MAt W L (MS.new 3) ∧ Below w2.heap.size w2 W ∧ ∀ j, L.own j → w2.heap.size ≤ j) (by kernel_rfl) _ F1 ((pmnew 3 w2).mono fun e u q => ?_) ?_))
  · rcases q with ⟨q1, _⟩ | ⟨_, _, L, q1, q2, q3, q4⟩
    · exact absurd (by decide) q1
    · exact ⟨_, q1, L, rfl, q2, q3, q4⟩
  rintro a2 w3 _ F2 ⟨La, rfl, mA, b3, oA⟩
  try dsimp only at F2
  refine wp_seq (reg_mono (ap_r3 (ec := 0) (R := fun po W => ∃ L : LM, po = some ⟨L.b, 0, none⟩ ∧ MAt W L (MS.new 3) ∧ Below w3.heap.size w3 W ∧ ∀ j, L.own j → w3.heap.size ≤ j) (by kernel_rfl) _ F2 ((pmnew 3 w3).mono fun e u q => ?_) ?_))
  · rcases q with ⟨q1, _⟩ | ⟨_, _, L, q1, q2, q3, q4⟩
    · exact absurd (by decide) q1
    · exact ⟨_, q1, L, rfl, q2, q3, q4⟩
  rintro a3 w4 _ F3 ⟨Lb, rfl, mB, b4, oB⟩
  try dsimp only at F3
  have T0 : Two w2 w4 La Lb (MS.new 3) (MS.new 3) := ⟨mA.below b4, mB, fun j e e2 => by have := mA.lim j e; have := oB j e2; omega, b3.trans (b4.mono b3.size), oA, fun j e => Nat.le_trans b3.size (oB j e)⟩
  refine wp_seq (wp_seq (reg_mono (ap_r4 (by kernel_rfl) _ F3 rfl rfl ?_)))
  intro a4 F4 g4
  refine wp_cond_false g4 (wp_skip ?_)
  show Code.wp _ _ _ _ _
  refine wp_seq (wp_seq (reg_mono (ap_r6 (by kernel_rfl) _ F4 ?_)))
  intro a6 F6
  try dsimp only at F6
  refine wp_block (wp_loop (fun a W => ∃ (k : Nat) (La Lb : LM) (X Y : MS) (v : Vap), k ≤ us.length ∧ k ≤ 60 ∧ Fap a v ∧ v.v0 = .slice ao us.length cp ∧ v.v1 = .slice bo ls.length cq ∧ v.v5 = .bool true ∧ v.v6 = .pointer (some ⟨La.b, 0, none⟩) ∧ v.v8 = .pointer (some ⟨Lb.b, 0, none⟩) ∧ v.v10 = .int .i64 (k : Int) ∧ Two w2 W La Lb X Y ∧ Near X Y ∧ X.Ok k ∧ Y.Ok k ∧ X.cnt ≤ k ∧ Y.cnt ≤ k) (fun a _ => us.length - (intOf (a.tmps.getD 10 undef)).toNat) ⟨0, La, Lb, MS.new 3, MS.new 3, _, Nat.zero_le _, Nat.zero_le _, F6, rfl, rfl, rfl, rfl, rfl, rfl, T0, Near.new 3, MS.Ok.new _, MS.Ok.new _, Nat.le_refl _, Nat.le_refl _⟩ ?_)
  clear F0 F1 F2 F3 F4 F6 T0 mA mB oA oB b3 b4 g4
  rintro a W ⟨k, La, Lb, X, Y, v, hk, hk60, F, q0, q1, q5, q6, q8, q10, T, hN, hX, hY, hXc, hYc⟩
  have hmk : (intOf (a.tmps.getD 10 undef)).toNat = k := by rw [F.s10, q10]; simp [intOf]
  obtain ⟨v0, v1, v4, v5, v6, v7, v8, v9, v10, v11, v12, v13, v14, v15⟩ := v
  simp only at q0 q1 q5 q6 q8 q10
  subst q0 q1 q5 q6 q8 q10
  refine wp_seq (wp_seq (reg_mono (ap_r7 (by kernel_rfl) _ F rfl rfl ?_)))
  intro a7 F7 g7
  by_cases hlt2 : k < us.length ∧ k < 60
  case neg =>
    rw [decide_eq_false hlt2] at g7
    refine wp_cond_false g7 (wp_exit ?_)
    show Code.wp _ _ _ _ _
    refine wp_seq (reg_mono (ap_r26 (by kernel_rfl) _ F7 rfl ?_))
    intro a26 F26
    try dsimp only at F26
    refine wp_ret ?_
    exact ap_ret F26 rfl ⟨rfl, b12.trans (T.bel.mono b12.size)⟩
  rw [decide_eq_true hlt2] at g7
  obtain ⟨hlt, h60⟩ := hlt2
  refine wp_cond_true g7 (wp_skip ?_)
  show Code.wp _ _ _ _ _
  obtain ⟨db, df, rfl, hdb, hD⟩ := hG2 k hlt
  have hdo := hG.ok _ (List.getElem_mem hlt)
  have hDW : CMAt W db (df + k * 9) us[k] := by
    obtain ⟨_, _, e1, _, hD2⟩ := (hG2.below T.bel) k hlt
    cases e1
    exact hD2
  clear hD
  have hLW := hL2.below T.bel
  generalize us[k] = x at *
  refine wp_seq (wp_block ?_)
  refine wp_seq (reg_mono (ap_r9 (by kernel_rfl) _ F7 rfl rfl hlt hDW ?_))
  intro a9 F9
  try dsimp only at F9
  have bu9 := (Below.refl W.heap.size W).alloc (Nat.le_refl _) (.cells #[.int .i64 x.kind, .string x.topic, .string x.name, .int .i64 x.seq, .string x.key, .string x.val, .int .i64 x.n, .int .i64 x.node, .int .i64 x.ask] 31)
  have x9 := heap_alloc_new W (.cells #[.int .i64 x.kind, .string x.topic, .string x.name, .int .i64 x.seq, .string x.key, .string x.val, .int .i64 x.n, .int .i64 x.node, .int .i64 x.ask] 31)
  have T9 := T.to bu9
  have L9 := hLW.below bu9
  have hca : ¬ La.own W.heap.size := fun e => by have := T.a.lim _ e; omega
  have hcb : ¬ Lb.own W.heap.size := fun e => by have := T.b.lim _ e; omega
  have hcs := T.bel.size
  generalize W.heap.size = cb at *
  generalize W.alloc (.cells #[.int .i64 x.kind, .string x.topic, .string x.name, .int .i64 x.seq, .string x.key, .string x.val, .int .i64 x.n, .int .i64 x.node, .int .i64 x.ask] 31) = w9 at *
  have okY1 := hY.mono (Nat.le_succ k) (by omega)
  have okX1 := hX.mono (Nat.le_succ k) (by omega)
  by_cases hk1 : x.kind ≠ 10 ∧ x.kind ≠ 11
  case neg =>
    by_cases h10 : x.kind = 10
    · refine wp_seq (wp_seq (reg_mono (ap_r10a (cm := x) (by kernel_rfl) _ F9 rfl x9 h10 ?_)))
      intro a10 F10 g10
      refine wp_cond_true g10 (wp_exit ?_)
      show Code.wp _ _ _ _ _
      refine reg_mono (ap_r8 (by kernel_rfl) _ F10 rfl (by omega) ?_)
      intro a8 F8
      try dsimp only at F8
      refine ⟨⟨k + 1, La, Lb, X, Y, _, hlt, by omega, F8, rfl, rfl, rfl, rfl, rfl, rfl, T9, hN, okX1, okY1, by omega, by omega⟩, ?_⟩
      rw [hmk, F8.s10]
      simp [intOf]
      omega
    · refine wp_seq (wp_seq (reg_mono (ap_r10b (cm := x) (by kernel_rfl) _ F9 rfl x9 (by omega) ?_)))
      intro a10 F10 g10
      refine wp_cond_true g10 (wp_exit ?_)
      show Code.wp _ _ _ _ _
      refine reg_mono (ap_r8 (by kernel_rfl) _ F10 rfl (by omega) ?_)
      intro a8 F8
      try dsimp only at F8
      refine ⟨⟨k + 1, La, Lb, X, Y, _, hlt, by omega, F8, rfl, rfl, rfl, rfl, rfl, rfl, T9, hN, okX1, okY1, by omega, by omega⟩, ?_⟩
      rw [hmk, F8.s10]
      simp [intOf]
      omega
  refine wp_seq (wp_seq (reg_mono (ap_r10c (cm := x) (by kernel_rfl) _ F9 rfl x9 hk1 ?_)))
  intro a10 F10 g10
  refine wp_cond_false g10 (wp_skip ?_)
  show Code.wp _ _ _ _ _
  refine wp_seq (reg_mono (ap_r11 (by kernel_rfl) _ F10 rfl rfl L9 ?_))
  intro a11 F11
  try dsimp only at F11
  generalize farOf ls k = far at *
  have B11 : BoxC w9 cb x w9 := ⟨x9, Touch.refl _ _⟩
  refine wp_midR (fun a W => Fap a ⟨.slice (some ⟨db, df, none⟩) us.length cp, .slice bo ls.length cq, v4, .bool true, .pointer (some ⟨La.b, 0, none⟩), v7, .pointer (some ⟨Lb.b, 0, none⟩), v9, .int .i64 (k : Int), .pointer (some ⟨cb, 0, none⟩), .bool far, v13, v14, v15⟩ ∧ BoxC w9 cb { x with topic := apT0 x.topic } W) ?_ ?_
  · by_cases he : x.topic = ⟨#[]⟩
    · refine wp_seq (reg_mono (ap_r12e (cm := x) (by kernel_rfl) _ F11 rfl x9 ((toList_nil _).2 he) ?_))
      intro a12 F12 g12
      refine wp_cond_false g12 (wp_skip ?_)
      refine ⟨F12, ?_⟩
      have e : apT0 x.topic = x.topic := if_pos he
      rw [e]
      exact B11
    · refine wp_seq (reg_mono (ap_r12n (cm := x) (by kernel_rfl) _ F11 rfl x9 (fun e => he ((toList_nil _).1 e)) ?_))
      intro a12 F12 g12
      refine wp_cond_true g12 ?_
      refine reg_mono (ap_r13 (cm := x) (by kernel_rfl) _ F12 rfl x9 ?_)
      intro a13 F13
      refine ⟨F13, ?_⟩
      have e : apT0 x.topic = ⟨#[97]⟩ := if_neg he
      rw [e]
      exact B11.top _
  rintro a13 w13 ⟨F13, B13⟩
  refine wp_midR (fun a W => Fap a ⟨.slice (some ⟨db, df, none⟩) us.length cp, .slice bo ls.length cq, v4, .bool true, .pointer (some ⟨La.b, 0, none⟩), v7, .pointer (some ⟨Lb.b, 0, none⟩), v9, .int .i64 (k : Int), .pointer (some ⟨cb, 0, none⟩), .bool far, v13, v14, v15⟩ ∧ BoxC w9 cb { x with topic := apT0 x.topic, name := apN0 x.kind x.name } W) ?_ ?_
  · by_cases he : x.name = ⟨#[]⟩
    · refine wp_seq (reg_mono (ap_r14e (cm := { x with topic := apT0 x.topic }) (by kernel_rfl) _ F13 rfl B13.1 ((toList_nil _).2 he) ?_))
      intro a14 F14 g14
      refine wp_cond_false g14 (wp_skip ?_)
      refine ⟨F14, ?_⟩
      have e : apN0 x.kind x.name = x.name := if_pos (Or.inl he)
      rw [e]
      exact B13
    · by_cases h2 : x.kind = 2
      · refine wp_seq (reg_mono (ap_r14p (cm := { x with topic := apT0 x.topic }) (by kernel_rfl) _ F13 rfl B13.1 (fun e => he ((toList_nil _).1 e)) h2 ?_))
        intro a14 F14 g14
        refine wp_cond_false g14 (wp_skip ?_)
        refine ⟨F14, ?_⟩
        have e : apN0 x.kind x.name = x.name := if_pos (Or.inr h2)
        rw [e]
        exact B13
      · refine wp_seq (reg_mono (ap_r14n (cm := { x with topic := apT0 x.topic }) (by kernel_rfl) _ F13 rfl B13.1 (fun e => he ((toList_nil _).1 e)) h2 ?_))
        intro a14 F14 g14
        refine wp_cond_true g14 ?_
        refine reg_mono (ap_r15 (cm := { x with topic := apT0 x.topic }) (by kernel_rfl) _ F14 rfl B13.1 ?_)
        intro a15 F15
        refine ⟨F15, ?_⟩
        have e : apN0 x.kind x.name = ⟨#[115]⟩ := if_neg (fun q => q.elim he h2)
        rw [e]
        exact B13.nam _
  rintro a15 w15 ⟨F15, B15⟩
  refine wp_midR (fun a W => Fap a ⟨.slice (some ⟨db, df, none⟩) us.length cp, .slice bo ls.length cq, v4, .bool true, .pointer (some ⟨La.b, 0, none⟩), v7, .pointer (some ⟨Lb.b, 0, none⟩), v9, .int .i64 (k : Int), .pointer (some ⟨cb, 0, none⟩), .bool far, v13, v14, v15⟩ ∧ BoxC w9 cb { x with topic := apT far x.topic, name := apN0 x.kind x.name } W) ?_ ?_
  · cases far with
    | false =>
      refine wp_seq (reg_mono (ap_r16f (cm := { x with topic := apT0 x.topic, name := apN0 x.kind x.name }) (by kernel_rfl) _ F15 rfl rfl B15.1 ?_))
      intro a16 F16 g16
      refine wp_cond_false g16 (wp_skip ?_)
      refine ⟨F16, ?_⟩
      rw [apT_near]
      exact B15
    | true =>
      by_cases he : x.topic = ⟨#[]⟩
      · refine wp_seq (reg_mono (ap_r16e (cm := { x with topic := apT0 x.topic, name := apN0 x.kind x.name }) (by kernel_rfl) _ F15 rfl rfl B15.1 ((toList_nil _).2 ((apT0_nil _).2 he)) ?_))
        intro a16 F16 g16
        refine wp_cond_false g16 (wp_skip ?_)
        refine ⟨F16, ?_⟩
        rw [apT_nil true _ he]
        exact B15
      · refine wp_seq (reg_mono (ap_r16n (cm := { x with topic := apT0 x.topic, name := apN0 x.kind x.name }) (by kernel_rfl) _ F15 rfl rfl B15.1 (fun e => he ((apT0_nil _).1 ((toList_nil _).1 e))) ?_))
        intro a16 F16 g16
        refine wp_cond_true g16 ?_
        refine reg_mono (ap_r17 (cm := { x with topic := apT0 x.topic, name := apN0 x.kind x.name }) (by kernel_rfl) _ F16 rfl B15.1 ?_)
        intro a17 F17
        refine ⟨F17, ?_⟩
        rw [apT_far _ he]
        exact B15.top _
  rintro a17 w17 ⟨F17, B17⟩
  refine wp_midR (fun a W => Fap a ⟨.slice (some ⟨db, df, none⟩) us.length cp, .slice bo ls.length cq, v4, .bool true, .pointer (some ⟨La.b, 0, none⟩), v7, .pointer (some ⟨Lb.b, 0, none⟩), v9, .int .i64 (k : Int), .pointer (some ⟨cb, 0, none⟩), .bool far, v13, v14, v15⟩ ∧ BoxC w9 cb (apC far x) W) ?_ ?_
  · cases far with
    | false =>
      refine wp_seq (reg_mono (ap_r18f (cm := { x with topic := apT false x.topic, name := apN0 x.kind x.name }) (by kernel_rfl) _ F17 rfl rfl B17.1 ?_))
      intro a18 F18 g18
      refine wp_cond_false g18 (wp_skip ?_)
      refine ⟨F18, ?_⟩
      unfold apC
      rw [apN_near]
      exact B17
    | true =>
      by_cases he : apN0 x.kind x.name = ⟨#[115]⟩
      · refine wp_seq (reg_mono (ap_r18e (cm := { x with topic := apT true x.topic, name := apN0 x.kind x.name }) (by kernel_rfl) _ F17 rfl rfl B17.1 ((toList_one _ _).2 he) ?_))
        intro a18 F18 g18
        refine wp_cond_true g18 ?_
        refine reg_mono (ap_r19 (cm := { x with topic := apT true x.topic, name := apN0 x.kind x.name }) (by kernel_rfl) _ F18 rfl B17.1 ?_)
        intro a19 F19
        refine ⟨F19, ?_⟩
        have e : apN true x.kind x.name = ⟨#[116]⟩ := if_pos ⟨rfl, he⟩
        unfold apC
        rw [e]
        exact B17.nam _
      · refine wp_seq (reg_mono (ap_r18n (cm := { x with topic := apT true x.topic, name := apN0 x.kind x.name }) (by kernel_rfl) _ F17 rfl rfl B17.1 (fun e => he ((toList_one _ _).1 e)) ?_))
        intro a18 F18 g18
        refine wp_cond_false g18 (wp_skip ?_)
        refine ⟨F18, ?_⟩
        have e : apN true x.kind x.name = apN0 x.kind x.name := if_neg (fun q => he q.2)
        unfold apC
        rw [e]
        exact B17
  rintro a19 w19 ⟨F19, B19⟩
  have T19 := T9.touch B19.2 (fun j e e2 => hca (by rw [← e2]; exact e)) (fun j e e2 => hcb (by rw [← e2]; exact e)) (fun j e => by omega)
  have hap := ap_ok far hdo
  have hok2 := apply_ok hX (by omega) (rencP (apC far x)).data.toList
  have hct2 := (apply_cnt X (rencP (apC far x)).data.toList).1
  have hrl := apply_recs hX (rencP (apC far x)).data.toList
  have PD := pdo T19.a hX (by omega) (by omega) (apC far x) hap
  have bx := B19.1
  generalize hP : applyM X (rencP (apC far x)).data.toList = P at *
  refine wp_seq (reg_mono (ap_r20 (cm := apC far x) (x := P.1.code) (y := P.1.n) (ln := P.1.recs.length) (R := fun aq cq u => ∃ L', MAt u L' P.2 ∧ MStep w19 u La L' ∧ RecsAt u (.slice aq P.1.recs.length cq) P.1.recs ∧ ∀ z, (Value.slice aq 0 cq).ownBlock = some z → w19.heap.size ≤ z ∧ ¬ L'.own z) (by kernel_rfl) _ F19 rfl rfl bx (PD.mono fun e u q => ?_) ?_))
  · obtain ⟨aq, cq, p1, p2, L', p3, p4, p5⟩ := q
    exact ⟨aq, cq, p1, L', p3, p4, p2, p5⟩
  rintro a20 u20 aq cr F20 ⟨La', m20, s20, rc20, no20⟩
  try dsimp only at F20
  have T20 := T19.stepA s20 m20
  have bu20 := (Below.refl u20.heap.size u20).alloc (Nat.le_refl _) (.cells #[.int .i64 P.1.code, .int .i64 P.1.n, .slice aq P.1.recs.length cr] 37)
  have x20 := heap_alloc_new u20 (.cells #[.int .i64 P.1.code, .int .i64 P.1.n, .slice aq P.1.recs.length cr] 37)
  have T20b := T20.to bu20
  have bx20 := Below.at bu20 (s20.touch.at bx hca)
  have rc20b := rc20.below bu20
  have nb20 : ¬ Lb.own u20.heap.size := fun e => by have := T20.b.lim _ e; omega
  have nr20 : ∀ z, (Value.slice aq 0 cr).ownBlock = some z → ¬ Lb.own z := fun z e e2 => by have := (no20 z e).1; have := T19.b.lim z e2; omega
  generalize u20.heap.size = bA at *
  generalize u20.alloc (.cells #[.int .i64 P.1.code, .int .i64 P.1.n, .slice aq P.1.recs.length cr] 37) = w20 at *
  have ea : La'.b = La.b := s20.b
  refine wp_seq (wp_seq (reg_mono (ap_r21 (far := far) (by kernel_rfl) _ F20 rfl ?_)))
  intro a21 F21 g21
  cases far with
  | true =>
    have N2 := far_step hN hX x hk1
    rw [hP] at N2
    refine wp_cond_true g21 (wp_exit ?_)
    show Code.wp _ _ _ _ _
    refine reg_mono (ap_r8 (by kernel_rfl) _ F21 rfl (by omega) ?_)
    intro a8 F8
    try dsimp only at F8
    refine ⟨⟨k + 1, La', Lb, P.2, Y, _, hlt, by omega, F8, rfl, rfl, rfl, by rw [ea], rfl, rfl, T20b, N2, hok2, okY1, by omega, by omega⟩, ?_⟩
    rw [hmk, F8.s10]
    simp [intOf]
    omega
  | false =>
  obtain ⟨n1, n2⟩ := near_step hN hX hY x hk1
  rw [hP] at n1 n2
  refine wp_cond_false g21 (wp_skip ?_)
  show Code.wp _ _ _ _ _
  have hokY := apply_ok hY (by omega) (rencP (apC false x)).data.toList
  have hctY := (apply_cnt Y (rencP (apC false x)).data.toList).1
  have PDY := pdo T20b.b hY (by omega) (by omega) (apC false x) hap
  generalize applyM Y (rencP (apC false x)).data.toList = Q at *
  refine wp_seq (reg_mono (ap_r22 (cm := apC false x) (x := P.1.code) (y := P.1.n) (ln := P.1.recs.length) (R := fun aq cq u => ∃ L', MAt u L' Q.2 ∧ MStep w20 u Lb L' ∧ RecsAt u (.slice aq P.1.recs.length cq) P.1.recs ∧ ∀ z, (Value.slice aq 0 cq).ownBlock = some z → w20.heap.size ≤ z ∧ ¬ L'.own z) (by kernel_rfl) _ F21 rfl rfl bx20 (PDY.mono fun e u q => ?_) ?_))
  · obtain ⟨aq, cq, p1, p2, L', p3, p4, p5⟩ := q
    rw [← n1] at p1 p2
    exact ⟨aq, cq, p1, L', p3, p4, p2, p5⟩
  rintro a22 u22 ar cs F22 ⟨Lb', m22, s22, rc22, no22⟩
  try dsimp only at F22
  have T22 := T20b.stepB s22 m22
  have x22 := s22.touch.at x20 nb20
  have rc20c := RecsAt.keep rc20b s22.touch nr20
  have bu22 := (Below.refl u22.heap.size u22).alloc (Nat.le_refl _) (.cells #[.int .i64 P.1.code, .int .i64 P.1.n, .slice ar P.1.recs.length cs] 37)
  have y22 := heap_alloc_new u22 (.cells #[.int .i64 P.1.code, .int .i64 P.1.n, .slice ar P.1.recs.length cs] 37)
  have x22b := Below.at bu22 x22
  have rc20d := rc20c.below bu22
  have rc22b := rc22.below bu22
  have T22b := T22.to bu22
  generalize u22.heap.size = bB at *
  generalize u22.alloc (.cells #[.int .i64 P.1.code, .int .i64 P.1.n, .slice ar P.1.recs.length cs] 37) = w22 at *
  refine wp_seq (reg_mono (ap_r23 (by kernel_rfl) _ F22 rfl rfl x22b y22 (preplies P.1.recs hrl _ _ _ _ _ _ rc20d rc22b) ?_))
  intro a23 w23 F23 b23
  try dsimp only at F23
  have T23 := T22b.to b23
  have eb : Lb'.b = Lb.b := s22.b
  refine wp_seq (reg_mono (ap_r24 (by kernel_rfl) _ F23 rfl ?_))
  intro a24 F24 g24
  refine wp_cond_false g24 (wp_skip ?_)
  show Code.wp _ _ _ _ _
  refine reg_mono (ap_r8 (by kernel_rfl) _ F24 rfl (by omega) ?_)
  intro a8 F8
  try dsimp only at F8
  refine ⟨⟨k + 1, La', Lb', P.2, Q.2, _, hlt, by omega, F8, rfl, rfl, rfl, by rw [ea], by rw [eb], rfl, T23, n2, hok2, hokY, by omega, by omega⟩, ?_⟩
  rw [hmk, F8.s10]
  simp [intOf]
  omega
end Go.Proofs.YtlfodldlkchmoaaGreat.Y
namespace Go.Proofs.YtlfodldlkchmoaaGreat
open Go.ChangeShapes Go.WideShapes Go.ChangeAt Go.RowKit
set_option maxRecDepth 100000
open Go.ChangeMaps (open_string shut_string)
theorem machineApart_lifted (os : Os) (started : os.Started) (H : Type) (enc : TypeId × Value → H) :
    ReturnsInHanded {} Tryz.checked os 6 .any (Rows.machineApartSpec.pre6 enc Tryz.prog Tryz.f6 Rows.machineApartRow.domain false) (Rows.machineApartSpec.post enc Tryz.prog Tryz.f6 false true false false) := by
  refine returnsInHanded_of_change_sized (C := Tryz.checked) own started (by kernel_rfl) Tryz.func6
    (ChangeSpec.witness6 (enc := enc) (C := Tryz.checked) false ⟨#[], #[.slice none 0 0, .slice none 0 0], []⟩ 8 (by kernel_rfl) (by kernel_rfl) (by kernel_rfl) (by kernel_rfl)) ?_
  intro W base args ds gs before hval0 hW hcnd hsz0 _
  have hval : ∀ (j : Nat) t v, Tryz.f6.params[j]? = some t → args[j]? = some v → Value.okWide Tryz.prog W .any base t v := hval0
  have hsz : (DataW.weightsEach Tryz.prog (Tryz.f6.params.toList ++ Rows.machineApartSpec.plain.varTypes Tryz.prog) (ds ++ gs)).all (· ≤ reachBytes) = true := hsz0
  have hW' := hW
  obtain ⟨p, q, hA0, hV, rfl, hfz, hnd⟩ := hW
  have hA : DataW.TrodAll enc Tryz.prog W 0 (fun _ => true) true Tryz.f6.params.toList args.toList ds p := hA0
  rw [Tryz.params6] at hA hval hsz
  obtain ⟨v0, vs0, d0, ds0, p0, q0, hargs, rfl, rfl, h0, r0⟩ := trodAll_cons hA
  obtain ⟨v1, vs1, d1, ds1, p1, q1, rfl, rfl, rfl, h1, r1⟩ := trodAll_cons r0
  obtain ⟨rfl, rfl, rfl⟩ := trodAll_nil r1
  obtain rfl : args = #[v0, v1] := by cases args; simp_all
  obtain ⟨rfl, rfl⟩ := trodVars_none hV
  have k0 := h0
  have lt0 : ∀ x ∈ p0, x.block < W.heap.size := by obtain ⟨m, hm⟩ := k0; exact DataW.trod_lt m _ _ _ hm
  obtain ⟨a0, len0, cap0, rfl⟩ := okWide_slice Tryz.underlying57 (hval 0 57 v0 rfl rfl)
  obtain ⟨us0, rfl, cm0⟩ := cms_open h0 hsz (j := 0) rfl rfl
  have k1 := h1
  have lt1 : ∀ x ∈ p1, x.block < W.heap.size := by obtain ⟨m, hm⟩ := k1; exact DataW.trod_lt m _ _ _ hm
  obtain ⟨a1, cap1, us1, rfl, cm1, _⟩ := bools_param (hval 1 58 v1 rfl rfl) h1 hsz (j := 1) rfl rfl
  clear hA0 hval0
  refine (Y.apart_walk a0 a1 cap0 cap1 us0 us1 W cm0 cm1).mono fun e W' ⟨he, bel⟩ => ?_
  subst he
  exact ⟨_, rfl, _, _, _, [], _, [], hW', trodAll_mk1 (shut_bool Tryz.underlying4 _), (trodAll_cons_mk (Below.trod laidOut (by kernel_rfl) (of_decide_eq_true (by kernel_rfl)) k0 bel lt0) (trodAll_cons_mk (Below.trod laidOut (by kernel_rfl) (of_decide_eq_true (by kernel_rfl)) k1 bel lt1) trodAll_mk0)), rfl, bel.frame _, fun h => by cases h⟩
theorem machineApart_holds : Rows.MachineApartSaid :=
  OpenClaim.holds_of_wide 6 Tryz.f6 rfl rfl rfl rfl rfl rfl rfl ⟨rfl, rfl, rfl, rfl, rfl⟩ rfl rfl rfl rfl rfl (by kernel_rfl) Tryz.func6 (by kernel_rfl)
    (of_decide_eq_true (by kernel_rfl)) (by unfold Func.isWrapper; first | (rw [if_pos (by decide +kernel)]; kernel_rfl) | (rw [if_neg (by decide +kernel)]; exact ⟨rfl, rfl⟩))
    (fun os started H enc _ => machineApart_lifted os started H enc)
#print axioms machineApart_holds
end Go.Proofs.YtlfodldlkchmoaaGreat
