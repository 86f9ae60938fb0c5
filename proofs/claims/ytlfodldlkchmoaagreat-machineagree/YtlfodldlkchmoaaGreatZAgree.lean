/-
  MachineAgree: for all numbers, deeds and one deed more the law's call returns true and leaves them as they were; no condition.
-/
import Derived.Test.YtlfodldlkchmoaaGreatZSh
import Derived.Test.YtlfodldlkchmoaaGreatZJ23
import Derived.Test.YtlfodldlkchmoaaGreatZJ24
import Derived.Test.YtlfodldlkchmoaaGreatZYCl
namespace Go.Proofs.YtlfodldlkchmoaaGreat.Y
open Go.RowKit
set_option maxHeartbeats 16000000
set_option maxRecDepth 100000
attribute [local go_sem ↓] Go.wp_at_zero Go.wp_at_succ
set_option linter.unusedSimpArgs false
set_option linter.unusedVariables false
open Go.Maps
theorem grant_len (s : SB) (H : TG) (n : Int) : (pollF s H n).2.1.length ≤ H.recs.length := by
  unfold pollF pollI
  repeat' split
  all_goals first
    | exact Nat.zero_le _
    | (unfold grantF readF
       simp only [List.length_take, List.length_drop]
       omega)
theorem keep_recs (X : MS) (s : SB) (code : Int) : (keepM X s code).1.recs = [] := num_recs _ _
theorem do_recs {c : Nat} {X : MS} (h : X.Ok c) (x : CM) : (doM X x).1.recs.length ≤ 100000 := by
  have z : ∀ r : RM, r.recs = [] → r.recs.length ≤ 100000 := fun r e => by rw [e]; exact Nat.zero_le _
  unfold doM
  split
  · unfold createM
    split
    · exact z _ rfl
    · split <;> exact z _ rfl
  split
  · unfold publishM
    split
    · exact z _ rfl
    · exact z _ (num_recs _ _)
  split
  · unfold subscribeM
    split
    · exact z _ rfl
    · split
      · exact z _ rfl
      · split
        · exact z _ rfl
        · exact z _ (keep_recs _ _ _)
  split
  · unfold attachM
    split
    · exact z _ rfl
    · exact z _ (keep_recs _ _ _)
  split
  · unfold pollM
    split
    · exact z _ rfl
    · split
      · exact z _ rfl
      · rename_i H e
        split
        · have := grant_len ‹SB› H x.n
          have := (h.tops _ H e).1.len
          have := h.big
          show (pollF _ H x.n).2.1.length ≤ 100000
          omega
        · exact z _ rfl
  split
  · unfold ackM
    split
    · exact z _ rfl
    · exact z _ (keep_recs _ _ _)
  split
  · unfold seekM
    split
    · exact z _ rfl
    · split
      · exact z _ rfl
      · exact z _ (keep_recs _ _ _)
  split
  · unfold trimM
    split
    · exact z _ rfl
    · exact z _ (num_recs _ _)
  split
  · unfold compactM
    split
    · exact z _ rfl
    · exact z _ (num_recs _ _)
  split
  · exact z _ (num_recs _ _)
  · unfold leaveM
    split
    · exact z _ rfl
    · exact z _ (num_recs _ _)
theorem apply_recs {c : Nat} {X : MS} (h : X.Ok c) (s : List UInt8) : (applyM X s).1.recs.length ≤ 100000 := by
  unfold applyM
  split
  · exact Nat.zero_le _
  · exact do_recs (h.tick s) _
theorem keep_tn (X : MS) (s : SB) (code : Int) : X.tn ≤ (keepM X s code).2.tn := by
  unfold keepM
  simp only
  split <;> exact Nat.le_refl _
theorem do_tn (X : MS) (x : CM) : X.tn ≤ (doM X x).2.tn := by
  unfold doM
  split
  · unfold createM
    split
    · exact Nat.le_refl _
    · split
      · exact Nat.le_refl _
      · exact Nat.le_succ _
  split
  · unfold publishM
    split <;> exact Nat.le_refl _
  split
  · unfold subscribeM
    split
    · exact Nat.le_refl _
    · split
      · exact Nat.le_refl _
      · split
        · exact Nat.le_refl _
        · exact keep_tn _ _ _
  split
  · unfold attachM
    split
    · exact Nat.le_refl _
    · exact keep_tn _ _ _
  split
  · unfold pollM
    split
    · exact Nat.le_refl _
    · split
      · exact Nat.le_refl _
      · split <;> exact Nat.le_refl _
  split
  · unfold ackM
    split
    · exact Nat.le_refl _
    · exact keep_tn _ _ _
  split
  · unfold seekM
    split
    · exact Nat.le_refl _
    · split
      · exact Nat.le_refl _
      · exact keep_tn _ _ _
  split
  · unfold trimM
    split <;> exact Nat.le_refl _
  split
  · unfold compactM
    split <;> exact Nat.le_refl _
  split
  · exact Nat.le_refl _
  · unfold leaveM
    split <;> exact Nat.le_refl _
theorem apply_tn (X : MS) (s : List UInt8) : X.tn ≤ (applyM X s).2.tn := by
  unfold applyM
  split
  · exact Nat.le_refl _
  · exact do_tn (X.tick s) _
theorem text_le {de : GD} (h : de.ok) : (textF de.c de.s).size ≤ 9223372036854775807 := by
  unfold textF
  split
  · have := renc_le de.c; omega
  · have := h.2; omega
theorem ag_r7 {K : Act → World → Prop} {c : Code} (hc : regOf (Tryz.f4.body.getD .skip) 7 = some c) (a : Act) {v : Vag} {wq : World} {ao : Option Addr} {n cp k : Nat} (hF : Fag a v) (h1 : v.v1 = .slice ao n cp) (h2 : v.v12 = .int .i64 (k : Int)) (hQ : ∀ a', Fag a' v → a'.tmps.getD 54 undef = .bool (decide (k < n ∧ k < 80)) → K a' wq) : Code.wp Tryz.prog c (Exit.then K fun _ _ _ => False) a wq := by
  by_cases hk : k < n
  · refine ag_r7y hc a hF h1 h2 (by omega) fun a' F g => hQ a' F ?_
    rw [g]
    by_cases h8 : k < 80
    · rw [decide_eq_true (show (k : Int) < 80 by omega), decide_eq_true (⟨hk, h8⟩ : k < n ∧ k < 80)]
    · rw [decide_eq_false (show ¬ (k : Int) < 80 by omega), decide_eq_false (fun e : k < n ∧ k < 80 => h8 e.2)]
  · refine ag_r7n hc a hF h1 h2 (by omega) fun a' F g => hQ a' F ?_
    rw [g, decide_eq_false (fun e : k < n ∧ k < 80 => hk e.1)]
theorem agree_walk (n : Int) (ao : Option Addr) (cp : Nat) (us : List GD) (de : GD) (hde : de.ok) (w : World) (hG : GDs w ao us) :
    Calls Tryz.prog 4 #[.int .i64 n, .slice ao us.length cp, .agg #[.int .i64 de.c.kind, .string de.c.topic, .string de.c.name, .int .i64 de.c.seq, .string de.c.key, .string de.c.val, .int .i64 de.c.n, .int .i64 de.c.node, .int .i64 de.c.ask, .string de.s]] w fun e w' => e = .returned (.bool true) ∧ Below w.heap.size w w' := by
  have b1 : Below w.heap.size w (w.alloc (.cells #[.int .i64 de.c.kind, .string de.c.topic, .string de.c.name, .int .i64 de.c.seq, .string de.c.key, .string de.c.val, .int .i64 de.c.n, .int .i64 de.c.node, .int .i64 de.c.ask, .string de.s] 33)) := (Below.refl w.heap.size w).alloc (Nat.le_refl _) _
  have d1 := heap_alloc_new w (.cells #[.int .i64 de.c.kind, .string de.c.topic, .string de.c.name, .int .i64 de.c.seq, .string de.c.key, .string de.c.val, .int .i64 de.c.n, .int .i64 de.c.node, .int .i64 de.c.ask, .string de.s] 33)
  have hlen := hG.len
  go_enter Tryz.func4, Tryz.ntmps4
  refine wp_seq (reg_mono (ag_r0 (by kernel_rfl) _ (v := ⟨_, _, _, _, _, _, _, _, _, _, _, _, _, _⟩) ⟨rfl, rfl, rfl, rfl, rfl, rfl, rfl, rfl, rfl, rfl, rfl, rfl, rfl, rfl, rfl, rfl⟩ rfl ?_))
  intro a0 F0
  try dsimp only at F0
  generalize w.alloc _ = w1 at *
  refine wp_seq (reg_mono (ag_r1 (by kernel_rfl) _ F0 (pexamples w1) ?_))
  intro a1 w2 F1 b2
  try dsimp only at F1
  have b12 := b1.trans (b2.mono b1.size)
  have d2 := Below.at b2 d1
  have hG2 := hG.all.below b12
  by_cases hn : 1 ≤ n ∧ n ≤ 7
  case neg =>
    refine wp_seq (reg_mono (ag_r2 (ec := 1) (R := fun po W => Below w2.heap.size w2 W) (by kernel_rfl) _ F1 rfl ((pmnew n w2).mono fun e u q => ?_) ?_))
    · rcases q with ⟨_, q1, q2⟩ | ⟨q1, q2, _⟩
      · exact ⟨none, q1, q2⟩
      · exact absurd ⟨q1, q2⟩ hn
    intro a2 w3 po F2 b3
    try dsimp only at F2
    refine wp_seq (reg_mono (ag_r3 (ec := 1) (R := fun po W => Below w3.heap.size w3 W) (by kernel_rfl) _ F2 rfl ((pmnew n w3).mono fun e u q => ?_) ?_))
    · rcases q with ⟨_, q1, q2⟩ | ⟨q1, q2, _⟩
      · exact ⟨none, q1, q2⟩
      · exact absurd ⟨q1, q2⟩ hn
    intro a3 w4 po2 F3 b4
    try dsimp only at F3
    refine wp_seq (wp_seq (reg_mono (ag_r4b (by kernel_rfl) _ F3 rfl ?_)))
    intro a4 F4 g4
    refine wp_cond_true g4 ?_
    refine wp_seq (reg_mono (ag_r5 (by kernel_rfl) _ F4 rfl rfl rfl ?_))
    intro a5 F5
    try dsimp only at F5
    refine wp_ret ?_
    simp only [Exit.then]
    exact ag_ret F5 rfl ⟨rfl, (b12.trans (b3.mono b12.size)).trans (b4.mono (Nat.le_trans b12.size b3.size))⟩
  refine wp_seq (reg_mono (ag_r2 (ec := 0) (R := fun po W => ∃ L : LM, po = some ⟨L.b, 0, none⟩ ∧ MAt W L (MS.new n.toNat) ∧ Below w2.heap.size w2 W ∧ ∀ j, L.own j → w2.heap.size ≤ j) (by kernel_rfl) _ F1 rfl ((pmnew n w2).mono fun e u q => ?_) ?_))
  · rcases q with ⟨q1, _⟩ | ⟨_, _, L, q1, q2, q3, q4⟩
    · exact absurd hn q1
    · exact ⟨_, q1, L, rfl, q2, q3, q4⟩
  rintro a2 w3 _ F2 ⟨La, rfl, mA, b3, oA⟩
  try dsimp only at F2
  refine wp_seq (reg_mono (ag_r3 (ec := 0) (R := fun po W => ∃ L : LM, po = some ⟨L.b, 0, none⟩ ∧ MAt W L (MS.new n.toNat) ∧ Below w3.heap.size w3 W ∧ ∀ j, L.own j → w3.heap.size ≤ j) (by kernel_rfl) _ F2 rfl ((pmnew n w3).mono fun e u q => ?_) ?_))
  · rcases q with ⟨q1, _⟩ | ⟨_, _, L, q1, q2, q3, q4⟩
    · exact absurd hn q1
    · exact ⟨_, q1, L, rfl, q2, q3, q4⟩
  rintro a3 w4 _ F3 ⟨Lb, rfl, mB, b4, oB⟩
  try dsimp only at F3
  have T0 : Two w2 w4 La Lb (MS.new n.toNat) (MS.new n.toNat) := ⟨mA.below b4, mB, fun j e e2 => by have := mA.lim j e; have := oB j e2; omega, b3.trans (b4.mono b3.size), oA, fun j e => Nat.le_trans b3.size (oB j e)⟩
  refine wp_seq (wp_seq (reg_mono (ag_r4g (by kernel_rfl) _ F3 rfl rfl rfl rfl ?_)))
  intro a4 F4 g4
  refine wp_cond_false g4 (wp_skip ?_)
  show Code.wp _ _ _ _ _
  refine wp_seq (wp_seq (reg_mono (ag_r6 (by kernel_rfl) _ F4 ?_)))
  intro a6 F6
  try dsimp only at F6
  refine wp_block (wp_loop (fun a W => ∃ (k : Nat) (La Lb : LM) (X : MS) (v : Vag), k ≤ us.length ∧ k ≤ 80 ∧ Fag a v ∧ v.v1 = .slice ao us.length cp ∧ v.v5 = .pointer (some ⟨w.heap.size, 0, none⟩) ∧ v.v7 = .bool true ∧ v.v8 = .pointer (some ⟨La.b, 0, none⟩) ∧ v.v10 = .pointer (some ⟨Lb.b, 0, none⟩) ∧ v.v12 = .int .i64 (k : Int) ∧ Two w2 W La Lb X X ∧ X.Ok k ∧ X.cnt = k) (fun a _ => us.length - (intOf (a.tmps.getD 12 undef)).toNat) ⟨0, La, Lb, MS.new n.toNat, _, Nat.zero_le _, Nat.zero_le _, F6, rfl, rfl, rfl, rfl, rfl, rfl, T0, MS.Ok.new _, rfl⟩ ?_)
  clear F0 F1 F2 F3 F4 F6 T0 mA mB oA oB b3 b4 g4
  rintro a W ⟨k, La, Lb, X, v, hk, hk80, F, q1, q5, q7, q8, q10, q12, T, hX, hXc⟩
  have hmk : (intOf (a.tmps.getD 12 undef)).toNat = k := by rw [F.s12, q12]; simp [intOf]
  obtain ⟨v0, v1, v2, v5, v6, v7, v8, v9, v10, v11, v12, v13, v14, v15⟩ := v
  simp only at q1 q5 q7 q8 q10 q12
  subst q1 q5 q7 q8 q10 q12
  refine wp_seq (wp_seq (reg_mono (ag_r7 (by kernel_rfl) _ F rfl rfl ?_)))
  intro a7 F7 g7
  by_cases hlt2 : k < us.length ∧ k < 80
  case neg =>
    rw [decide_eq_false hlt2] at g7
    refine wp_cond_false g7 (wp_exit ?_)
    show Code.wp _ _ _ _ _
    have htx := text_le hde
    have hT := fun V => ptext de.c hde.1 de.s V
    have dW := Below.at T.bel d2
    generalize textF de.c de.s = tx at *
    have hok2 := apply_ok hX (by omega) tx.data.toList
    have hct2 := (apply_cnt X tx.data.toList).1
    have htn2 := apply_tn X tx.data.toList
    have AP := fun {V : World} (h : MAt V La X) => papply h hX (by omega) (by omega) tx htx
    generalize applyM X tx.data.toList = P at *
    refine wp_seq (reg_mono (ag_r14 (R := fun V u => ∃ L', MAt u L' P.2 ∧ MStep V u La L') (by kernel_rfl) _ F7 rfl rfl dW (hT W) (fun V hV => (AP (T.a.below hV)).mono fun e u q => ?_) ?_))
    · obtain ⟨aq, cq, p1, p2, L', p3, p4, p5⟩ := q
      exact ⟨_, _, aq, _, cq, p1, L', p3, p4⟩
    rintro a14 V14 u14 F14 bV14 ⟨La', m14, s14⟩
    have T14 := (T.to bV14).stepA s14 m14
    have ea : La'.b = La.b := s14.b
    have hc1 : (P.2.cnt : Int) = (X.cnt : Int) + 1 := by rw [hct2]; rfl
    have CA := fun V (hV : Below u14.heap.size u14 V) => pmcount (T14.a.below hV)
    have CB := fun V (hV : Below u14.heap.size u14 V) => pmcount (T14.b.below hV)
    have TA := fun V (hV : Below u14.heap.size u14 V) => pmtopics (T14.a.below hV) hok2
    have TB := fun V (hV : Below u14.heap.size u14 V) => pmtopics (T14.b.below hV) hX
    rw [ea] at CA TA
    rw [hc1] at CA
    refine wp_seq (reg_mono (ag_r15 (kc := X.cnt) (m1 := P.2.tn) (m2 := X.tn) (by kernel_rfl) _ F14 rfl rfl rfl htn2 (by omega) CA CB (fun V hV => (TA V hV).mono fun e u q => by obtain ⟨ao, cp, q1, q2, q3, q4⟩ := q; exact ⟨ao, cp, q1, q4⟩) (fun V hV => (TB V hV).mono fun e u q => by obtain ⟨ao, cp, q1, q2, q3, q4⟩ := q; exact ⟨ao, cp, q1, q4⟩) ?_))
    intro a15 w15 F15 b15
    try dsimp only at F15
    refine wp_ret ?_
    have bz := b12.trans (T14.bel.mono b12.size)
    exact ag_ret F15 rfl ⟨rfl, bz.trans (b15.mono bz.size)⟩
  rw [decide_eq_true hlt2] at g7
  obtain ⟨hlt, h80⟩ := hlt2
  refine wp_cond_true g7 (wp_skip ?_)
  show Code.wp _ _ _ _ _
  obtain ⟨db, df, rfl, hdb, hD⟩ := hG2 k hlt
  have hdo := hG.ok _ (List.getElem_mem hlt)
  have hDk : ∀ V, Below w2.heap.size w2 V → GDAt V db (df + k * 10) us[k] := fun V hV => by
    obtain ⟨_, _, e1, _, hD2⟩ := (hG2.below hV) k hlt
    cases e1
    exact hD2
  clear hD
  have hDW := hDk W T.bel
  have htx := text_le hdo
  have hT := fun V => ptext us[k].c hdo.1 us[k].s V
  generalize us[k] = dk at *
  generalize textF dk.c dk.s = tx at *
  have hok2 := apply_ok hX (by omega) tx.data.toList
  have hct2 := (apply_cnt X tx.data.toList).1
  have hrl := apply_recs hX tx.data.toList
  have AP := fun {V : World} {L : LM} (h : MAt V L X) => papply h hX (by omega) (by omega) tx htx
  generalize applyM X tx.data.toList = P at *
  refine wp_seq (wp_block ?_)
  refine wp_seq (reg_mono (ag_r9 (x := P.1.code) (y := P.1.n) (ln := P.1.recs.length) (R := fun aq cq V u => ∃ L', MAt u L' P.2 ∧ MStep V u La L' ∧ RecsAt u (.slice aq P.1.recs.length cq) P.1.recs ∧ ∀ z, (Value.slice aq 0 cq).ownBlock = some z → V.heap.size ≤ z ∧ ¬ L'.own z) (by kernel_rfl) _ F7 rfl rfl rfl hlt hDW (hT W) (fun V hV => (AP (T.a.below hV)).mono fun e u q => ?_) ?_))
  · obtain ⟨aq, cq, p1, p2, L', p3, p4, p5⟩ := q
    exact ⟨aq, cq, p1, L', p3, p4, p2, p5⟩
  rintro a9 V9 u9 aq cq F9 bV9 ⟨La', m9, s9, rc9, no9⟩
  try dsimp only at F9
  have T9 := (T.to bV9).stepA s9 m9
  have bu9 := (Below.refl u9.heap.size u9).alloc (Nat.le_refl _) (.cells #[.int .i64 P.1.code, .int .i64 P.1.n, .slice aq P.1.recs.length cq] 37)
  have x9 := heap_alloc_new u9 (.cells #[.int .i64 P.1.code, .int .i64 P.1.n, .slice aq P.1.recs.length cq] 37)
  have T9b := T9.to bu9
  have rc9b := rc9.below bu9
  have nb9 : ¬ Lb.own u9.heap.size := fun e => by have := T9.b.lim _ e; omega
  have nr9 : ∀ z, (Value.slice aq 0 cq).ownBlock = some z → ¬ Lb.own z := fun z e e2 => by have := (no9 z e).1; have := (T.to bV9).b.lim z e2; omega
  generalize hu9 : u9.heap.size = bA at *
  generalize u9.alloc (.cells #[.int .i64 P.1.code, .int .i64 P.1.n, .slice aq P.1.recs.length cq] 37) = w9 at *
  have hDW9 := hDk w9 T9b.bel
  refine wp_seq (reg_mono (ag_r10 (x := P.1.code) (y := P.1.n) (ln := P.1.recs.length) (R := fun aq cq V u => ∃ L', MAt u L' P.2 ∧ MStep V u Lb L' ∧ RecsAt u (.slice aq P.1.recs.length cq) P.1.recs ∧ ∀ z, (Value.slice aq 0 cq).ownBlock = some z → V.heap.size ≤ z ∧ ¬ L'.own z) (by kernel_rfl) _ F9 rfl rfl rfl hlt hDW9 (hT w9) (fun V hV => (AP (T9b.b.below hV)).mono fun e u q => ?_) ?_))
  · obtain ⟨aq, cq, p1, p2, L', p3, p4, p5⟩ := q
    exact ⟨aq, cq, p1, L', p3, p4, p2, p5⟩
  rintro a10 V10 u10 ar cr F10 bV10 ⟨Lb', m10, s10, rc10, no10⟩
  try dsimp only at F10
  have T10 := (T9b.to bV10).stepB s10 m10
  have x9c := s10.touch.at (Below.at bV10 x9) nb9
  have rc9c := RecsAt.keep (rc9b.below bV10) s10.touch nr9
  have bu10 := (Below.refl u10.heap.size u10).alloc (Nat.le_refl _) (.cells #[.int .i64 P.1.code, .int .i64 P.1.n, .slice ar P.1.recs.length cr] 37)
  have x10 := heap_alloc_new u10 (.cells #[.int .i64 P.1.code, .int .i64 P.1.n, .slice ar P.1.recs.length cr] 37)
  have x9d := Below.at bu10 x9c
  have rc9d := rc9c.below bu10
  have rc10d := rc10.below bu10
  have T10b := T10.to bu10
  generalize u10.heap.size = bB at *
  generalize u10.alloc (.cells #[.int .i64 P.1.code, .int .i64 P.1.n, .slice ar P.1.recs.length cr] 37) = w10 at *
  refine wp_seq (reg_mono (ag_r11 (by kernel_rfl) _ F10 rfl rfl x9d x10 (preplies P.1.recs hrl _ _ _ _ _ _ rc9d rc10d) ?_))
  intro a11 w11 F11 b11
  try dsimp only at F11
  have T11 := T10b.to b11
  have eb : Lb'.b = Lb.b := s10.b
  have ea : La'.b = La.b := s9.b
  have DA := pmdigest T11.a
  have DB := fun V (hV : Below w11.heap.size w11 V) => pmdigest (T11.b.below hV)
  rw [ea] at DA
  rw [eb] at DB
  refine wp_seq (reg_mono (ag_r12 (by kernel_rfl) _ F11 rfl rfl rfl DA DB ?_))
  intro a12 w12 F12 g12 b12
  refine wp_cond_false g12 (wp_skip ?_)
  show Code.wp _ _ _ _ _
  have T12 := T11.to b12
  refine reg_mono (ag_r8 (by kernel_rfl) _ F12 rfl (by omega) ?_)
  intro a8 F8
  try dsimp only at F8
  refine ⟨⟨k + 1, La', Lb', P.2, _, hlt, by omega, F8, rfl, rfl, rfl, by rw [ea], by rw [eb], rfl, T12, hok2, by rw [hct2, hXc]⟩, ?_⟩
  rw [hmk, F8.s12]
  simp [intOf]
  omega
end Go.Proofs.YtlfodldlkchmoaaGreat.Y
namespace Go.Proofs.YtlfodldlkchmoaaGreat
open Go.ChangeShapes Go.WideShapes Go.ChangeAt Go.RowKit
set_option maxRecDepth 100000
open Go.ChangeMaps (open_string shut_string)
theorem machineAgree_lifted (os : Os) (started : os.Started) (H : Type) (enc : TypeId × Value → H) :
    ReturnsInHanded {} Tryz.checked os 4 .any (Rows.machineAgreeSpec.pre6 enc Tryz.prog Tryz.f4 Rows.machineAgreeRow.domain false) (Rows.machineAgreeSpec.post enc Tryz.prog Tryz.f4 false true false false) := by
  refine returnsInHanded_of_change_sized (C := Tryz.checked) own started (by kernel_rfl) Tryz.func4
    (ChangeSpec.witness6 (enc := enc) (C := Tryz.checked) false ⟨#[], #[.int .i64 0, .slice none 0 0, .agg #[.int .i64 0, .string .empty, .string .empty, .int .i64 0, .string .empty, .string .empty, .int .i64 0, .int .i64 0, .int .i64 0, .string .empty]], []⟩ 8 (by kernel_rfl) (by kernel_rfl) (by kernel_rfl) (by kernel_rfl)) ?_
  intro W base args ds gs before hval0 hW hcnd hsz0 _
  have hval : ∀ (j : Nat) t v, Tryz.f4.params[j]? = some t → args[j]? = some v → Value.okWide Tryz.prog W .any base t v := hval0
  have hsz : (DataW.weightsEach Tryz.prog (Tryz.f4.params.toList ++ Rows.machineAgreeSpec.plain.varTypes Tryz.prog) (ds ++ gs)).all (· ≤ reachBytes) = true := hsz0
  have hW' := hW
  obtain ⟨p, q, hA0, hV, rfl, hfz, hnd⟩ := hW
  have hA : DataW.TrodAll enc Tryz.prog W 0 (fun _ => true) true Tryz.f4.params.toList args.toList ds p := hA0
  rw [Tryz.params4] at hA hval hsz
  obtain ⟨v0, vs0, d0, ds0, p0, q0, hargs, rfl, rfl, h0, r0⟩ := trodAll_cons hA
  obtain ⟨v1, vs1, d1, ds1, p1, q1, rfl, rfl, rfl, h1, r1⟩ := trodAll_cons r0
  obtain ⟨v2, vs2, d2, ds2, p2, q2, rfl, rfl, rfl, h2, r2⟩ := trodAll_cons r1
  obtain ⟨rfl, rfl, rfl⟩ := trodAll_nil r2
  obtain rfl : args = #[v0, v1, v2] := by cases args; simp_all
  obtain ⟨rfl, rfl⟩ := trodVars_none hV
  obtain ⟨a0, rfl, rfl, rfl, w0⟩ := open_int Tryz.underlying3 (hval 0 3 v0 rfl rfl) h0
  have b0 := bounds_i64 w0
  have k1 := h1
  have lt1 : ∀ x ∈ p1, x.block < W.heap.size := by obtain ⟨m, hm⟩ := k1; exact DataW.trod_lt m _ _ _ hm
  obtain ⟨a1, len1, cap1, rfl⟩ := okWide_slice Tryz.underlying22 (hval 1 22 v1 rfl rfl)
  obtain ⟨us1, rfl, cm1⟩ := gds_open h1 hsz (j := 1) rfl rfl
  have k2 := h2
  have lt2 : ∀ x ∈ p2, x.block < W.heap.size := by obtain ⟨m, hm⟩ := k2; exact DataW.trod_lt m _ _ _ hm
  obtain ⟨x2, rfl, ok2⟩ := gd_param (hval 2 33 v2 rfl rfl) h2 hsz (j := 2) rfl rfl
  clear hA0 hval0
  refine (Y.agree_walk a0 a1 cap1 us1 x2 ok2 W cm1).mono fun e W' ⟨he, bel⟩ => ?_
  subst he
  exact ⟨_, rfl, _, _, _, [], _, [], hW', trodAll_mk1 (shut_bool Tryz.underlying4 _), (trodAll_cons_mk (shut_int Tryz.underlying3 w0) (trodAll_cons_mk (Below.trod laidOut (by kernel_rfl) (of_decide_eq_true (by kernel_rfl)) k1 bel lt1) (trodAll_cons_mk (Below.trod laidOut (by kernel_rfl) (of_decide_eq_true (by kernel_rfl)) k2 bel lt2) trodAll_mk0))), rfl, bel.frame _, fun h => by cases h⟩
theorem machineAgree_holds : Rows.MachineAgreeSaid :=
  OpenClaim.holds_of_wide 4 Tryz.f4 rfl rfl rfl rfl rfl rfl rfl ⟨rfl, rfl, rfl, rfl, rfl⟩ rfl rfl rfl rfl rfl (by kernel_rfl) Tryz.func4 (by kernel_rfl)
    (of_decide_eq_true (by kernel_rfl)) (by unfold Func.isWrapper; first | (rw [if_pos (by decide +kernel)]; kernel_rfl) | (rw [if_neg (by decide +kernel)]; exact ⟨rfl, rfl⟩))
    (fun os started H enc _ => machineAgree_lifted os started H enc)
#print axioms machineAgree_holds
end Go.Proofs.YtlfodldlkchmoaaGreat
