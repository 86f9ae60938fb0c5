/-
  A region that draws its order, by what each of its operations leaves behind, with one operation that turns what is known of the world, and ahead of which it is known what it waits for (out of PhiP); nothing of the program is in this text.
-/
import Derived.Test.YtlfodldlkchmoaaGreatZJ10
import Derived.Test.YtlfodldlkchmoaaGreatZPhiG
namespace Go.Proofs.YtlfodldlkchmoaaGreat.Y
open Go.RowKit
set_option maxHeartbeats 8000000
set_option maxRecDepth 100000
attribute [local go_sem ↓] Go.wp_at_zero Go.wp_at_succ
set_option linter.unusedSimpArgs false
set_option linter.unusedVariables false
open Go.Maps
theorem pmleave {w : World} {L : LM} {X : MS} {c : Nat} (h : MAt w L X) (hk : X.Ok c) (hc : c + 1 ≤ 100000) (cm : CM) (hx : cm.right = true) (hnode : 0 ≤ cm.n ∧ cm.n < 7) :
    Calls Tryz.prog 67 #[.pointer (some ⟨L.b, 0, none⟩), .agg #[.int .i64 cm.kind, .string cm.topic, .string cm.name, .int .i64 cm.seq, .string cm.key, .string cm.val, .int .i64 cm.n, .int .i64 cm.node, .int .i64 cm.ask]] w fun e w' => Gave w L (leaveM X cm) e w' := by
  have b1 : Below w.heap.size w ((w.alloc (.cells #[.int .i64 cm.kind, .string cm.topic, .string cm.name, .int .i64 cm.seq, .string cm.key, .string cm.val, .int .i64 cm.n, .int .i64 cm.node, .int .i64 cm.ask] 31)).alloc (.cells #[.int .i64 0, .int .i64 0, .slice none 0 0] 37)) := ((Below.refl w.heap.size w).alloc (Nat.le_refl _) _).alloc (by simp) _
  have c1 : ((w.alloc (.cells #[.int .i64 cm.kind, .string cm.topic, .string cm.name, .int .i64 cm.seq, .string cm.key, .string cm.val, .int .i64 cm.n, .int .i64 cm.node, .int .i64 cm.ask] 31)).alloc (.cells #[.int .i64 0, .int .i64 0, .slice none 0 0] 37)).heap[w.heap.size]? = some (.cells #[.int .i64 cm.kind, .string cm.topic, .string cm.name, .int .i64 cm.seq, .string cm.key, .string cm.val, .int .i64 cm.n, .int .i64 cm.node, .int .i64 cm.ask] 31 (0, 0)) := Below.at ((Below.refl _ _).alloc (Nat.le_refl _) _) (heap_alloc_new w _)
  have r1 : ((w.alloc (.cells #[.int .i64 cm.kind, .string cm.topic, .string cm.name, .int .i64 cm.seq, .string cm.key, .string cm.val, .int .i64 cm.n, .int .i64 cm.node, .int .i64 cm.ask] 31)).alloc (.cells #[.int .i64 0, .int .i64 0, .slice none 0 0] 37)).heap[w.heap.size + 1]? = some (.cells #[.int .i64 0, .int .i64 0, .slice none 0 0] 37 (0, 0)) := by
    have := heap_alloc_new (w.alloc (.cells #[.int .i64 cm.kind, .string cm.topic, .string cm.name, .int .i64 cm.seq, .string cm.key, .string cm.val, .int .i64 cm.n, .int .i64 cm.node, .int .i64 cm.ask] 31)) (.cells #[.int .i64 0, .int .i64 0, .slice none 0 0] 37)
    simpa using this
  obtain ⟨sz1, sz2, sz3, sz4⟩ := cm_sizes hx
  have szT : cm.topic.size ≤ maxLen := by unfold maxLen; omega
  have szN : cm.name.size ≤ maxLen := by unfold maxLen; omega
  go_enter Tryz.func67, Tryz.ntmps67
  refine wp_seq (reg_mono (mz_r0 (by kernel_rfl) _ (v := ⟨_, _, _, _⟩) (cm := cm) ⟨rfl, rfl, rfl, rfl, rfl, rfl⟩ rfl ?_))
  intro a0 F0
  try dsimp only at F0
  generalize (w.alloc _).alloc _ = w1 at *
  have h1 := h.below b1
  have l1 := h1.lt.1
  have m1 := h1.cells
  obtain ⟨n0, n7⟩ := hnode
  obtain ⟨kn, hn⟩ : ∃ kn : Nat, cm.n = (kn : Int) := ⟨cm.n.toNat, by omega⟩
  have hkn : kn < 7 := by omega
  have htn : cm.n.toNat = kn := by omega
  have hw : X.wan[kn]? = some (X.wan.getD kn false) := by
    rw [List.getD_eq_getElem?_getD, List.getElem?_eq_getElem (show kn < X.wan.length by rw [hk.wan]; exact hkn)]
    rfl
  refine wp_midR (fun a W => ∃ v : Vmz, Fmz a v ∧ v.v0 = .pointer (some ⟨L.b, 0, none⟩) ∧ v.v3 = .pointer (some ⟨w.heap.size, 0, none⟩) ∧ v.v4 = .pointer (some ⟨w.heap.size + 1, 0, none⟩) ∧ Below w.heap.size w W ∧ Below w1.heap.size w1 W ∧ ¬ (X.wan[kn]? = some true ∧ wcount X.wan = 1)) ?first ?_
  case first =>
    cases hb : X.wan.getD kn false with
    | false =>
      have hy := h1.wcells kn hkn
      rw [hb] at hy hw
      refine wp_seq (reg_mono (mz_r1f (by kernel_rfl) _ F0 rfl rfl c1 hn hkn hy ?_))
      intro a1 F1 g1
      refine wp_cond_false g1 (wp_skip ?_)
      exact ⟨_, F1, rfl, rfl, rfl, b1.drew, (Below.refl _ _).drew, fun e => by rw [hw] at e; cases e.1⟩
    | true =>
      have hy := h1.wcells kn hkn
      rw [hb] at hy hw
      have HW := fun W (hW : Below w1.heap.size w1 W) => pmwanted (h1.below hW)
      have el := wlist_length hk.wan
      refine wp_seq (reg_mono (mz_r1t (m := wcount X.wan) (by kernel_rfl) _ F0 rfl rfl c1 hn hkn hy (fun W hW => (HW W hW).mono fun e w' q => by obtain ⟨ao, cp, q1, q2, q3⟩ := q; exact ⟨ao, cp, by rw [q1, el], q3⟩) ?_))
      intro a1 w2 F1 g1 b2
      have b12 := b1.trans (b2.mono b1.size)
      by_cases h1w : wcount X.wan = 1
      · rw [h1w] at g1
        refine wp_cond_true g1 ?_
        have hE : leaveM X cm = (codedM 7, X) := by unfold leaveM; rw [htn, if_pos ⟨hw, h1w⟩]
        rw [hE]
        have r2 := Below.at b2 r1
        refine wp_seq (reg_mono (mz_r2 (by kernel_rfl) _ F1 rfl r2 ?_))
        intro a9 w9 F9 b9
        refine wp_ret ?_
        have bb : Below w.heap.size w (set3 w9 (w.heap.size + 1) (.int .i64 7) (.int .i64 0) (.slice none 0 0)) := (b12.trans (b9.mono b12.size)).trans (touch_newX set3_touch (Nat.le_trans b12.size b9.size) (fun k e => by omega))
        exact mz_ret F9 rfl (set3_box (Below.at b9 r2)) (gave0 rfl rfl rfl (h.below bb) (MStep.below bb))
      · rw [beq_eq_false_iff_ne.2 h1w] at g1
        refine wp_cond_false g1 (wp_skip ?_)
        exact ⟨_, F1, rfl, rfl, rfl, b12, b2, fun e => h1w e.2⟩
  rintro a1 W ⟨v, F1, q0, q3, q4, bw, bw1, hno⟩
  obtain ⟨v0, v1, v3, v4⟩ := v
  simp only at q0 q3 q4
  subst q0 q3 q4
  have hE : leaveM X cm = (numM 0 (wcount (X.wan.set kn false) : Int), { X with wan := X.wan.set kn false }) := by unfold leaveM; rw [htn, if_neg hno]
  rw [hE]
  have hW1 := h1.below bw1
  have cW := Below.at bw1 c1
  have rW := Below.at bw1 r1
  have mk := hW1.marked hk.wan kn hkn false rfl
  obtain ⟨h2, st2⟩ := mk
  refine wp_seq (reg_mono (mz_r3 (by kernel_rfl) _ F1 rfl rfl cW hn hkn (hW1.wcells kn hkn) (hW1.free _) ?_))
  intro a3 F3
  try dsimp only at F3
  have t2 : Touch (fun j => j = L.b) W (W.setCell ⟨L.b, 3 + kn, none⟩ (.bool false)).drew := ((Touch.refl (fun j => j = L.b) W).setCell ⟨L.b, 3 + kn, none⟩ _ fun _ => rfl).drew
  have lb := h.lt.1
  have r2 := t2.at rW (fun e => by omega)
  generalize (W.setCell ⟨L.b, 3 + kn, none⟩ (.bool false)).drew = w2 at *
  have HW := pmwanted h2
  have el := wlist_length (l := X.wan.set kn false) (by rw [List.length_set]; exact hk.wan)
  refine wp_seq (reg_mono (mz_r4 (m := wcount (X.wan.set kn false)) (by kernel_rfl) _ F3 rfl rfl r2 (HW.mono fun e w' q => by obtain ⟨ao, cp, q1, q2, q3⟩ := q; exact ⟨ao, cp, by rw [q1]; show Ending.returned (Value.slice ao (wlist (X.wan.set kn false)).length cp) = _; rw [el], q3⟩) ?_))
  intro a4 w4 F4 b4
  refine wp_ret ?_
  obtain ⟨h5, st5⟩ := h.fin (rb := w.heap.size + 1) bw (Nat.le_succ _) (heap_lt rW) (h2.below b4) (st2.then b4) (set3_touch (x0 := .int .i64 0) (x1 := .int .i64 (wcount (X.wan.set kn false) : Int)) (x2 := .slice none 0 0))
  exact mz_ret F4 rfl (set3_box (Below.at b4 r2)) (gave0 rfl rfl rfl h5 st5)
end Go.Proofs.YtlfodldlkchmoaaGreat.Y
namespace Go.Proofs.YtlfodldlkchmoaaGreat
open Go Go.RowKit
set_option linter.unusedSimpArgs false
section
variable {P : Program} {ops : Array Oper} {Q : Exit → Act → World → Prop}
def depsOn (ops : Array Oper) (st i : Nat) : Bool := (ops[st]?.map fun o => o.after.toList.any fun e => Region.binds .any e && e.on == i).getD false
theorem wpAny_store {ns : Nat} {uses : Nat → List Nat} {a : Act} {w : World} (hok : phiOk ops ns = true) (hu : usesOk ops uses = true) (Rel : Nat → World → World → Prop) (st : Nat) (hst0 : st < ops.size) (BW : Bool → World → Prop) (hBW : ∀ j b w w', j ≠ st → BW b w → Rel j w w' → BW b w') (hst : ∀ w w', BW false w → Rel st w w' → BW true w') (h0 : BW false w)
    (H : Nat → (Nat → Value) → World → Prop) (hC : ∀ i s s' w, (∀ d ∈ uses i, s d = s' d) → H i s w → H i s' w) (hH : ∀ i j s w w', i ≠ j → H i s w → Rel j w w' → H i s w')
    (step : ∀ i o, ops.toList[i]? = some o → ∀ a' w' b, ((i == st || depsOn ops st i) = true → b = false) → Same ops a a' → BW b w' → (∀ k, (o.after.toList.any fun e => Region.binds .any e && e.on == k) = true → H k (slots a') w') → wpOp P ops Q i (fun a'' w'' => ∃ v, a'' = a'.put o.dst v ∧ H i (slots a'') w'' ∧ Rel i w' w'') a' w')
    (done : ∀ a' w', Same ops a a' → BW true w' → (∀ i, i < ops.size → H i (slots a') w') → Q .normal a' w') : wpAny P .any ops Q ops.size (Array.replicate ops.size false) a w := by
  refine wpAny_inv (fun listed a' w' => listed.size = ops.size ∧ Same ops a a' ∧ BW (listed.getD st false) w' ∧ (∀ i o, ops[i]? = some o → listed.getD i false = true → ∀ e ∈ o.after, Region.binds .any e = true → listed.getD e.on false = true) ∧ ∀ i o, ops[i]? = some o → listed.getD i false = true → H i (slots a') w') ?_ ?_ _ _ _ _ (Nat.le_trans List.countP_le_length (by simp)) ⟨by simp, Same.refl _ _, by rw [show (Array.replicate ops.size false).getD st false = false by simp [Array.getD_eq_getD_getElem?, hst0]]; exact h0, fun i o ho hl => ?_, fun i o ho hl => ?_⟩
  · rintro listed a' w' i hi ⟨hz, hsa, hb, hcl, hh⟩
    obtain ⟨h1, o, ho, hdep⟩ := mem_ready.1 hi
    refine wpOp_mono ?_ (step i o (by rw [Array.getElem?_toList]; exact ho) a' w' _ ?_ hsa hb fun k hk => ?_)
    · rintro a'' w'' ⟨v, rfl, hv, hr⟩
      have hlt9 := (Array.getElem?_eq_some_iff.1 ho).1
      refine ⟨by rw [Array.size_setIfInBounds]; exact hz, hsa.put ho, ?_, fun j oj hoj hl e he hbn => ?_, fun j oj hoj hl => ?_⟩
      · by_cases x : i = st
        · subst x
          have e1 : listed.getD i false = false := by simpa [Array.getD_eq_getD_getElem?, show i < listed.size by omega] using h1
          have e2 : (listed.setIfInBounds i true).getD i false = true := by simp [Array.getD_eq_getD_getElem?, show i < listed.size by omega]
          rw [e1] at hb
          rw [e2]
          exact hst _ _ hb hr
        · rw [getD_set_ne false x]
          exact hBW _ _ _ _ x hb hr
      · by_cases x : i = j
        · subst x
          rw [ho] at hoj
          obtain rfl := Option.some.inj hoj
          exact getD_set_true (hdep e he hbn)
        · rw [getD_set_ne false x] at hl
          exact getD_set_true (hcl j oj hoj hl e he hbn)
      · by_cases x : i = j
        · subst x
          exact hv
        · rw [getD_set_ne false x] at hl
          refine hH j i _ w' w'' (fun y => x y.symm) (hC j (slots a') _ w' (fun d hd => ?_) (hh j oj hoj hl)) hr
          cases hod : o.dst with
          | none => rfl
          | some d' =>
            by_cases y : d' = d
            · subst y
              exfalso
              rcases usesOk_spec hu hoj ho hd hod with z | ⟨e, he, hbn, hon⟩
              · exact x z
              · have h5 := hcl j oj hoj hl e he hbn
                rw [hon] at h5
                rcases Nat.lt_or_ge i listed.size with h | h
                · simp [Array.getD_eq_getD_getElem?, h] at h1 h5
                  rw [h1] at h5
                  cases h5
                · simp [Array.getD_eq_getD_getElem?, Array.getElem?_eq_none h] at h5
            · unfold slots
              simp [Act.put, Array.getD_eq_getD_getElem?, Array.getElem?_setIfInBounds_ne y]
    · intro x
      have hlt9 := (Array.getElem?_eq_some_iff.1 ho).1
      by_cases y : i = st
      · subst y
        simpa [Array.getD_eq_getD_getElem?, show i < listed.size by omega] using h1
      · cases hb9 : listed.getD st false with
        | false => rfl
        | true =>
          exfalso
          have x2 : depsOn ops st i = true := by
            rw [Bool.or_eq_true] at x
            rcases x with x | x
            · exact absurd (by simpa using x) y
            · exact x
          have hget : ops[st]? = some ops[st] := Array.getElem?_eq_getElem hst0
          unfold depsOn at x2
          rw [hget] at x2
          simp only [Option.map_some, Option.getD_some] at x2
          obtain ⟨e, he, hx⟩ := List.any_eq_true.1 x2
          simp only [Bool.and_eq_true, beq_iff_eq] at hx
          have h5 := hcl st _ hget hb9 e (by rw [← Array.mem_toList_iff]; exact he) hx.1
          rw [hx.2] at h5
          simp [Array.getD_eq_getD_getElem?, show i < listed.size by omega] at h1 h5
          rw [h1] at h5
          cases h5
    · obtain ⟨e, he, hx⟩ := List.any_eq_true.1 hk
      simp only [Bool.and_eq_true, beq_iff_eq] at hx
      obtain ⟨hbn, rfl⟩ := hx
      have he' : e ∈ o.after := by rw [← Array.mem_toList_iff]; exact he
      have hlt := (phiOk_spec hok).2.2 i o ho e he' hbn
      have hi := (Array.getElem?_eq_some_iff.1 ho).1
      exact hh e.on _ (Array.getElem?_eq_getElem (show e.on < ops.size by omega)) (hdep e he' hbn)
  · rintro listed a' w' hr ⟨hz, hsa, hb, hcl, hh⟩
    have all : ∀ i o, ops[i]? = some o → listed.getD i false = true := by
      intro i
      induction i using Nat.strongRecOn with
      | _ i ih =>
        intro o ho
        cases hl : listed.getD i true with
        | false =>
          exfalso
          have : i ∈ Region.ready .any ops listed := mem_ready.2 ⟨hl, o, ho, fun e he hbn => by
            have hlt := (phiOk_spec hok).2.2 i o ho e he hbn
            have hi := (Array.getElem?_eq_some_iff.1 ho).1
            exact ih e.on hlt _ (Array.getElem?_eq_getElem (show e.on < ops.size by omega))⟩
          rw [hr] at this
          cases this
        | true =>
          rcases Nat.lt_or_ge i listed.size with h | h
          · simpa [Array.getD_eq_getD_getElem?, h] using hl
          · have hi := (Array.getElem?_eq_some_iff.1 ho).1
            omega
    have ht := all st _ (Array.getElem?_eq_getElem hst0)
    rw [ht] at hb
    exact done a' w' hsa hb fun i hi => hh i _ (Array.getElem?_eq_getElem hi) (all i _ (Array.getElem?_eq_getElem hi))
  all_goals
    have hi := (Array.getElem?_eq_some_iff.1 ho).1
    simp [Array.getD_eq_getD_getElem?, hi] at hl
end
end Go.Proofs.YtlfodldlkchmoaaGreat
