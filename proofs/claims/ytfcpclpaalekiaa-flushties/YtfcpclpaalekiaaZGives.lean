/-
  Ranges over a function whose rounds never say 'no more', and that may itself go over another function; nothing of the program is in this text.
-/
import Derived.Test.YtfcpclpaalekiaaZFL2
import Derived.Test.YtfcpclpaalekiaaZPhi
import Derived.RangeFuncSeq
import Derived.Test.YtfcpclpaalekiaaZVE1
import Derived.BigQuiet
import Derived.Deep.QuietTactic
import Derived.Test.YtfcpclpaalekiaaZFH
import Derived.RangeFuncNested
import Derived.RangeFuncBox
import Derived.RangeFuncCalls
import Derived.RangeFuncLeaves
namespace Go.Proofs.Ytfcpclpaalekiaa
open Go.RowKit Go.Shelf
set_option maxHeartbeats 8000000
set_option maxRecDepth 100000
attribute [local go_sem ↓] Go.wp_at_zero Go.wp_at_succ
set_option linter.unusedSimpArgs false
set_option linter.unusedVariables false
theorem fe_fits {hd : ByteArray} {h4 sz : Nat} {lt : List K.It} {R : ByteArray × Int} {num : Int} {ao lo : Option Addr} {n cp lc ln : Nat} {w : World} (HE : Hid (Calls Try.prog 27 #[.agg #[.int .i64 num, .slice ao n cp]] (w.alloc (.cells #[.int .i64 num, .slice ao n cp] tView)) fun e w' => e = .returned (.tuple #[.string hd, .int .i64 0]) ∧ Below (w.alloc (.cells #[.int .i64 num, .slice ao n cp] tView)).heap.size (w.alloc (.cells #[.int .i64 num, .slice ao n cp] tView)) w')) (HS1 : Hid (∀ W : World, Calls Try.prog 28 #[.slice (some ⟨W.heap.size, 0, none⟩) 1 1] (W.alloc (.cells #[.string hd] 9)) fun e w' => e = .returned (.int .i64 (h4 : Int)) ∧ ∃ n, w' = (W.alloc (.cells #[.string hd] 9)).drewN n)) (HS2 : Hid (∀ W : World, Below w.heap.size w W → Calls Try.prog 28 #[.slice lo ln lc] W fun e w' => e = .returned (.int .i64 (sz : Int)) ∧ ∃ n, w' = W.drewN n)) (h9 : ln ≤ 990) (h1 : h4 ≤ 3000000) (h2 : sz ≤ 139611588448485376) (h3 : h4 + sz ≤ 100000) (hlt : lt.length = ln)
    (HI1 : Hid (∀ W : World, Calls Try.prog 30 #[.slice (some ⟨W.heap.size, 0, none⟩) 1 1] (W.alloc (.cells #[.string hd] 9)) fun e w' => ∃ ro rc, e = .returned (.slice ro 1 rc) ∧ w'.ownsRow (W.alloc (.cells #[.string hd] 9)).heap.size tItem 3 (.slice ro 1 rc) 1 (itCells [txI hd]) ∧ Below (W.alloc (.cells #[.string hd] 9)).heap.size (W.alloc (.cells #[.string hd] 9)) w'))
    (HI2 : Hid (∀ W : World, Below w.heap.size w W → Calls Try.prog 30 #[.slice lo ln lc] W fun e w' => ∃ ro rc, e = .returned (.slice ro ln rc) ∧ w'.ownsRow W.heap.size tItem 3 (.slice ro ln rc) ln (itCells lt) ∧ Below W.heap.size W w'))
    (HEN : Hid (∀ (W : World) (B : Nat) (oo : Option Addr) (oc : Nat), W.ownsRow B tItem 3 (.slice oo (1 + ln) oc) (1 + ln) (itCells ([txI hd] ++ lt)) → Calls Try.prog 29 #[.slice oo (1 + ln) oc] W fun e w' => e = .returned (.tuple #[.string R.1, .int .i64 R.2]) ∧ Below W.heap.size W w')) :
    Calls Try.prog 17 #[.agg #[.int .i64 num, .slice ao n cp], .slice lo ln lc] w fun e w' => e = .returned (.tuple #[.string R.1, .int .i64 R.2]) ∧ Below w.heap.size w w' := by
  have d1 : decide ((990 : Int) < (ln : Int)) = false := decide_eq_false (by omega)
  have w1 : IntKind.i64.wrap ((h4 : Int) + (sz : Int)) = (h4 : Int) + (sz : Int) := by rw [IntKind.wrap_i64]; omega
  have d2 : decide ((100000 : Int) < (h4 : Int) + (sz : Int)) = false := decide_eq_false (by omega)
  have H9 := hide h9
  have HB := hide ((Below.refl w.heap.size w).alloc (Nat.le_refl _) (.cells #[.int .i64 num, .slice ao n cp] tView))
  have HD := hide (heap_alloc_new w (.cells #[.int .i64 num, .slice ao n cp] tView))
  have y0 := box_cell HD.out 0 rfl
  have y1 := box_cell HD.out 1 rfl
  clear h9 h1 h2 h3
  go_enter Try.func17, Try.ntmps17
  go_upto_region 6 with (first
    | (go_at_call 27; refine HE.out.mono ?_; rintro e w2 ⟨rfl, b2⟩; have B2 : Hid (Below w.heap.size w w2) := HB.out.trans (b2.mono HB.out.size); have B2a : Hid (Below w.heap.size w (w2.alloc (.cells #[.string hd] 9))) := B2.out.alloc B2.out.size _; clear b2)
    | (go_at_call 28; refine (HS2.out _ B3.out).mono ?_; rintro e w4 ⟨rfl, n2, rfl⟩; have B4 := hide (below_drewN B3.out n2))
    | (go_at_call 28; refine (HS1.out _).mono ?_; rintro e w3 ⟨rfl, n1, rfl⟩; have B3 : Hid (Below w.heap.size w ((w2.alloc (.cells #[.string hd] 9)).drewN n1)) := below_drewN B2a.out n1))
  clear HS1 HS2
  generalize hW4 : (World.drewN (w2.alloc (.cells #[.string hd] 9)) (n1 + n2)) = w4
  have B4b : Hid (Below w.heap.size w w4) := by rw [← hW4]; exact below_drewN B2a.out _
  clear hW4 B4 B3 B2a B2 HE
  have B4a : Hid (Below w.heap.size w (w4.alloc (.cells #[.string hd] 9))) := B4b.out.alloc B4b.out.size _
  go_wp2_with (first
    | (go_at_call 30; refine (HI2.out _ B5.out).mono ?_; rintro e w6 ⟨so, sc, rfl, hrow6, b6⟩; have B6 := hide (B5.out.trans (b6.mono B5.out.size)); obtain ⟨ta, tc, w7, hrun, hrow7, b7⟩ := app_items (ownsRow_base (below_row b6 R5.out) B4a.out.size) hrow6 hlt (by have := H9.out; omega) B6.out.size; have HRUN := hide hrun; have R7 := hide hrow7; have B7 := hide (B6.out.trans b7); clear b6 hrow6 hrun hrow7 b7)
    | (go_at_call 30; refine (HI1.out _).mono ?_; rintro e w5 ⟨ro, rc, rfl, hrow5, b5⟩; have B5 := hide (B4a.out.trans (b5.mono B4a.out.size)); have R5 := hide hrow5; clear b5 hrow5)
    | (at_builtin; refine wpList_append_run rfl _ _ 60 rfl _ _ _ rfl rfl HRUN.out ?_)
    | (go_at_call 29; refine (HEN.out _ _ _ _ R7.out).mono ?_; rintro e w8 ⟨rfl, b8⟩; have B8 := hide (B7.out.trans (b8.mono B7.out.size)); clear b8))
  go_ret2
  exact ⟨rfl, B8.out⟩
end Go.Proofs.Ytfcpclpaalekiaa
namespace Go.Proofs.Ytfcpclpaalekiaa
open Go.RowKit Go.Shelf
set_option maxHeartbeats 8000000
set_option maxRecDepth 100000
attribute [local go_sem ↓] Go.wp_at_zero Go.wp_at_succ
set_option linter.unusedSimpArgs false
set_option linter.unusedVariables false
theorem fencode (v : VW) (ao lo : Option Addr) (cp lc : Nat) (log : List ByteArray) (w : World) (hM : MemsAt w ao v.mem) (hm : v.mem.length ≤ 4611686018427387903) (hL : TextsAt w lo log) (hl : log.length ≤ 17592186044416) (hs : ∀ s ∈ log, s.size ≤ 140737488351232) :
    Calls Try.prog 17 #[v.v ao cp, .slice lo log.length lc] w fun e w' => e = .returned (.tuple #[.string ⟨(encL v log).1.toArray⟩, .int .i64 (encL v log).2]) ∧ Below w.heap.size w w' := by
  have HB := hide ((Below.refl w.heap.size w).alloc (Nat.le_refl _) (.cells #[.int .i64 v.num, .slice ao v.mem.length cp] tView))
  have HE := hide (pencode v ao cp _ (hM.below HB.out) hm)
  simp only [VW.v] at HE ⊢
  by_cases hr : v.right
  · rw [if_pos hr, if_pos hr] at HE
    have hcd : (⟨(codeV v).toArray⟩ : ByteArray) = headV v := rfl
    rw [hcd] at HE
    by_cases h9 : 990 < log.length
    · have HQ : encL v log = ([], 3) := by
        unfold encL
        rw [if_pos hr, if_neg (fun h => by have := h.1; omega)]
      rw [HQ]
      exact fe_many HE h9
    · have h90 : log.length ≤ 990 := by omega
      have hh := headV_size hr
      have hz := sizeF_up (l := log) (by omega) hs
      have HS1 : Hid (∀ W : World, Calls Try.prog 28 #[.slice (some ⟨W.heap.size, 0, none⟩) 1 1] (W.alloc (.cells #[.string (headV v)] 9)) fun e w' => e = .returned (.int .i64 ((sizeF [headV v] : Nat) : Int)) ∧ ∃ n, w' = (W.alloc (.cells #[.string (headV v)] 9)).drewN n) := fun W => fsize _ 1 [headV v] _ (texts_one W _) (by simp) (fun s h => by rw [List.mem_singleton.1 h]; omega)
      have HS2 : Hid (∀ W : World, Below w.heap.size w W → Calls Try.prog 28 #[.slice lo log.length lc] W fun e w' => e = .returned (.int .i64 (sizeF log : Nat)) ∧ ∃ n, w' = W.drewN n) := fun W b => fsize lo lc log W (hL.below b) h90 hs
      have h4 : sizeF [headV v] = 4 + (headV v).size := rfl
      have h5 : sizeF (headV v :: log) = 4 + (headV v).size + sizeF log := rfl
      by_cases hf : sizeF [headV v] + sizeF log ≤ 100000
      · have hfit : fitsL v log := ⟨h90, by omega⟩
        have HQ : encL v log = K.encF (itemsL v log) := by
          unfold encL
          rw [if_pos hr, if_pos hfit, encF_L hfit]
        have hok := itemsL_ok hfit
        have hil : (itemsL v log).length = 1 + log.length := by unfold itemsL; simp; omega
        refine fe_fits (R := (⟨(encL v log).1.toArray⟩, (encL v log).2)) (lt := log.map txI) HE HS1 HS2 h90 (by omega) hz hf (List.length_map _) (fun W => fitems _ 1 [headV v] _ (texts_one W _) (by simp)) (fun W b => fitems lo lc log W (hL.below b) h90) fun W B oo oc h => ?_
        have := K.encode_any oo oc (itemsL v log) W (its_of_row (L := itemsL v log) h hil) hok (by rw [hil]; unfold maxLen; omega)
        rw [hil] at this
        rw [HQ]
        exact this
      · have HQ : encL v log = ([], 3) := by
          unfold encL
          rw [if_pos hr, if_neg (fun h => by have := h.2; omega)]
        rw [HQ]
        exact fe_big HE HS1 HS2 h90 (by omega) hz (by omega)
  · rw [if_neg hr, if_neg hr] at HE
    have HQ : encL v log = ([], 1) := by
      unfold encL
      rw [if_neg hr]
    rw [HQ]
    exact fe_no HE
end Go.Proofs.Ytfcpclpaalekiaa
namespace Go.Proofs.Ytfcpclpaalekiaa
open Go Go.RowKit
set_option linter.unusedSimpArgs false
theorem wpAnyIn_inv {F : Fence} {n : Nat} {P : Program} {md : Region.Mode} {ops : Array Oper} {Q : Exit → Act → World → Prop} (I : Array Bool → Act → World → Prop)
    (step : ∀ listed a w i, i ∈ Region.ready md ops listed → I listed a w → wpOpIn F n P ops Q i (fun a' w' => I (listed.setIfInBounds i true) a' w') a w)
    (done : ∀ listed a w, Region.ready md ops listed = [] → I listed a w → Q .normal a w) :
    ∀ (fuel : Nat) (listed : Array Bool) (a : Act) (w : World), left ops.size listed ≤ fuel → I listed a w → wpAnyIn F n P md ops Q fuel listed a w := by
  intro fuel
  induction fuel with
  | zero =>
    intro listed a w hl h
    have hr : Region.ready md ops listed = [] := by
      cases e : Region.ready md ops listed with
      | nil => rfl
      | cons i l =>
        have := left_set (md := md) (ops := ops) (listed := listed) (i := i) (by rw [e]; exact List.mem_cons_self)
        omega
    exact ⟨hr, done listed a w hr h⟩
  | succ fuel ih =>
    intro listed a w hl h
    refine ⟨fun hr => done listed a w hr h, fun i hi => ?_⟩
    refine wpOpIn_mono (fun a' w' h' => ih _ a' w' ?_ h') (step listed a w i hi h)
    have := left_set hi
    omega
section
variable {P : Program} {ops : Array Oper} {Q : Exit → Act → World → Prop} {F : Fence} {n : Nat}
theorem wpAnyIn_pivot {ns : Nat} {uses : Nat → List Nat} {a : Act} {w : World} (hok : phiOk ops ns = true) (hu : usesOk ops uses = true) (Rel : Nat → World → World → Prop) (st : Nat) (hst0 : st < ops.size) (BW : Bool → World → Prop) (hBW : ∀ j b w w', j ≠ st → BW b w → Rel j w w' → BW b w') (hst : ∀ w w', BW false w → Rel st w w' → BW true w') (h0 : BW false w)
    (H : Nat → (Nat → Value) → World → Prop) (hC : ∀ i s s' w, (∀ d ∈ uses i, s d = s' d) → H i s w → H i s' w) (hH : ∀ i j s w w', i ≠ j → H i s w → Rel j w w' → H i s w')
    (step : ∀ i o, ops.toList[i]? = some o → ∀ a' w' b, (i = st → b = false) → Same ops a a' → BW b w' → (∀ k, (o.after.toList.any fun e => Region.binds .any e && e.on == k) = true → H k (slots a') w') → wpOpIn F n P ops Q i (fun a'' w'' => ∃ v, a'' = a'.put o.dst v ∧ H i (slots a'') w'' ∧ Rel i w' w'') a' w')
    (done : ∀ a' w', Same ops a a' → BW true w' → (∀ i, i < ops.size → H i (slots a') w') → Q .normal a' w') : wpAnyIn F n P .any ops Q ops.size (Array.replicate ops.size false) a w := by
  refine wpAnyIn_inv (fun listed a' w' => listed.size = ops.size ∧ Same ops a a' ∧ BW (listed.getD st false) w' ∧ (∀ i o, ops[i]? = some o → listed.getD i false = true → ∀ e ∈ o.after, Region.binds .any e = true → listed.getD e.on false = true) ∧ ∀ i o, ops[i]? = some o → listed.getD i false = true → H i (slots a') w') ?_ ?_ _ _ _ _ (Nat.le_trans List.countP_le_length (by simp)) ⟨by simp, Same.refl _ _, by rw [show (Array.replicate ops.size false).getD st false = false by simp [Array.getD_eq_getD_getElem?, hst0]]; exact h0, fun i o ho hl => ?_, fun i o ho hl => ?_⟩
  · rintro listed a' w' i hi ⟨hz, hsa, hb, hcl, hh⟩
    obtain ⟨h1, o, ho, hdep⟩ := mem_ready.1 hi
    refine wpOpIn_mono ?_ (step i o (by rw [Array.getElem?_toList]; exact ho) a' w' _ ?_ hsa hb fun k hk => ?_)
    · rintro a'' w'' ⟨v, rfl, hv, hr⟩
      have hlt9 := (Array.getElem?_eq_some_iff.1 ho).1
      refine ⟨by rw [Array.size_setIfInBounds]; exact hz, hsa.put ho, ?_, fun j oj hoj hl e he hbn => ?_, fun j oj hoj hl => ?_⟩
      · by_cases x : i = st
        · subst x
          have e1 : listed.getD i false = false := by simpa [Array.getD_eq_getD_getElem?, show i < listed.size by omega] using h1
          have e2 : (listed.setIfInBounds i true).getD i false = true := by simp [Array.getD_eq_getD_getElem?, show i < listed.size by omega]
          rw [e1] at hb
          rw [e2]
          exact hst _ _ hb hr
        · rw [getD_set_ne false x]
          exact hBW _ _ _ _ x hb hr
      · by_cases x : i = j
        · subst x
          rw [ho] at hoj
          obtain rfl := Option.some.inj hoj
          exact getD_set_true (hdep e he hbn)
        · rw [getD_set_ne false x] at hl
          exact getD_set_true (hcl j oj hoj hl e he hbn)
      · by_cases x : i = j
        · subst x
          exact hv
        · rw [getD_set_ne false x] at hl
          refine hH j i _ w' w'' (fun y => x y.symm) (hC j (slots a') _ w' (fun d hd => ?_) (hh j oj hoj hl)) hr
          cases hod : o.dst with
          | none => rfl
          | some d' =>
            by_cases y : d' = d
            · subst y
              exfalso
              rcases usesOk_spec hu hoj ho hd hod with z | ⟨e, he, hbn, hon⟩
              · exact x z
              · have h5 := hcl j oj hoj hl e he hbn
                rw [hon] at h5
                rcases Nat.lt_or_ge i listed.size with h | h
                · simp [Array.getD_eq_getD_getElem?, h] at h1 h5
                  rw [h1] at h5
                  cases h5
                · simp [Array.getD_eq_getD_getElem?, Array.getElem?_eq_none h] at h5
            · unfold slots
              simp [Act.put, Array.getD_eq_getD_getElem?, Array.getElem?_setIfInBounds_ne y]
    · intro x
      subst x
      have hlt9 := (Array.getElem?_eq_some_iff.1 ho).1
      simpa [Array.getD_eq_getD_getElem?, show i < listed.size by omega] using h1
    · obtain ⟨e, he, hx⟩ := List.any_eq_true.1 hk
      simp only [Bool.and_eq_true, beq_iff_eq] at hx
      obtain ⟨hbn, rfl⟩ := hx
      have he' : e ∈ o.after := by rw [← Array.mem_toList_iff]; exact he
      have hlt := (phiOk_spec hok).2.2 i o ho e he' hbn
      have hi := (Array.getElem?_eq_some_iff.1 ho).1
      exact hh e.on _ (Array.getElem?_eq_getElem (show e.on < ops.size by omega)) (hdep e he' hbn)
  · rintro listed a' w' hr ⟨hz, hsa, hb, hcl, hh⟩
    have all : ∀ i o, ops[i]? = some o → listed.getD i false = true := by
      intro i
      induction i using Nat.strongRecOn with
      | _ i ih =>
        intro o ho
        cases hl : listed.getD i true with
        | false =>
          exfalso
          have : i ∈ Region.ready .any ops listed := mem_ready.2 ⟨hl, o, ho, fun e he hbn => by
            have hlt := (phiOk_spec hok).2.2 i o ho e he hbn
            have hi := (Array.getElem?_eq_some_iff.1 ho).1
            exact ih e.on hlt _ (Array.getElem?_eq_getElem (show e.on < ops.size by omega))⟩
          rw [hr] at this
          cases this
        | true =>
          rcases Nat.lt_or_ge i listed.size with h | h
          · simpa [Array.getD_eq_getD_getElem?, h] using hl
          · have hi := (Array.getElem?_eq_some_iff.1 ho).1
            omega
    have ht := all st _ (Array.getElem?_eq_getElem hst0)
    rw [ht] at hb
    exact done a' w' hsa hb fun i hi => hh i _ (Array.getElem?_eq_getElem hi) (all i _ (Array.getElem?_eq_getElem hi))
  all_goals
    have hi := (Array.getElem?_eq_some_iff.1 ho).1
    simp [Array.getD_eq_getD_getElem?, hi] at hl
theorem wpOpIn_of {i : Nat} {o : Oper} {a : Act} {w : World} {K : Act → World → Prop} (ho : ops.toList[i]? = some o) (hg : o.guard = none) (h : o.wpIn F n P a w K Q) : wpOpIn F n P ops Q i K a w := by
  rw [Array.getElem?_toList] at ho
  unfold wpOpIn
  rw [ho]
  have hw : Region.wanted o (yielded ops a.tmps) = true := by simp [Region.wanted, hg]
  simp only [hw, if_true]
  exact h
theorem op_runIn {o : Oper} {a : Act} {w w' : World} {v : Value} {K : Act → World → Prop} {l : Nat} (hd : ∀ c, o.op ≠ .defer c) (h : (execOp a.eval o).run P w = .ok (.value v) w') (hk : K (a.put o.dst v) w') : o.wpIn (Fence.wide.inRound l) n P a w K Q :=
  oper_inRound hd (op_run h hk)
theorem op_yieldIn {o : Oper} {a : Act} {w : World} {K : Act → World → Prop} {l l2 : Nat} {x : Value} {R : Ending → World → Prop} (f y : Operand) (ts : Array TypeId) (ho : o.op = .call { callee := .value f, args := #[y], argTypes := ts }) (hf : a.eval f = .func (.yield l) #[] #[]) (hx : a.eval y = x) (hy : YieldAt Fence.wide (n - 1) P l #[x] w R)
    (h : ∀ e w', R e w' → ∃ v, e = .returned v ∧ K (a.put o.dst v) w') : o.wpIn (Fence.wide.inRound l2) n P a w K Q := by
  obtain ⟨fn, tmps, assign, body, h1, h2⟩ := hy
  refine ⟨fun _ _ => trivial, ?_⟩
  rw [Oper.semAt_eq _ _ _ (by rw [ho]; intro c e; cases e)]
  have e1 : (execOp a.eval o).run P w = .ok (.round l fn tmps assign body) w := by
    simp [execOp, ho, resolve, invoke, hf, hx, Deferred.ofValue, Sem.run_bind, Result.andThen, h1]
  rw [e1]
  refine ⟨fun e => (by cases e), ?_⟩
  have h3 : RoundIn (Fence.wide.inRound l2) (n - 1) P l fn tmps assign body w R := h2
  refine h3.mono ?_
  intro e w' hr
  obtain ⟨v, rfl, hv⟩ := h e w' hr
  exact hv
end
end Go.Proofs.Ytfcpclpaalekiaa
namespace Go.Proofs.Ytfcpclpaalekiaa
open Go.RowKit Go.Shelf
set_option maxHeartbeats 8000000
set_option maxRecDepth 100000
attribute [local go_sem] Oper.semAt_some
set_option linter.unusedSimpArgs false
set_option linter.unusedVariables false
def ChunkAt (Bs Bn : Nat) (ao : Option Addr) (q cap : Nat) (W : World) : Prop := W.heap[Bs]? = some (.cells #[.slice ao (2 * q) cap] 60 (0, 0)) ∧ W.heap[Bn]? = some (.cells #[.int .i64 2] 3 (0, 0))
theorem chunk1_in (q n l Bs Bn b off cap : Nat) (hq : q ≤ 1000) (hcap : 2 * q ≤ cap) (ao : Option Addr) (hao : 0 < q → ao = some ⟨b, off, none⟩) (J Jx : List (Fin q) → World → Prop)
    (hY : ∀ pre x W, J pre W → pre.length < q → YieldAt Fence.wide (n - 1) Try.prog l #[.slice (some ⟨b, off + x.val * 6, none⟩) 2 2] W fun e W' =>
      (e = .returned (.bool true) ∧ J (pre ++ [x]) W' ∧ (ChunkAt Bs Bn ao q cap W → ChunkAt Bs Bn ao q cap W')) ∨ (e = .returned (.bool false) ∧ Jx (pre ++ [x]) W'))
    (W : World) (hC : ChunkAt Bs Bn ao q cap W) (hJd : ∀ pre W W', J pre W → Below W.heap.size W W' → J pre W') (h0 : J [] W) :
    CallsIn Fence.wide n Try.prog 88 #[.func (.yield l) #[] #[], .pointer (some ⟨Bs, 0, none⟩), .pointer (some ⟨Bn, 0, none⟩)] W fun e W' => (∃ v, e = .returned v) ∧
      ((∃ ys, ys = List.finRange q ∧ J ys W') ∨ (∃ pre, pre <+: List.finRange q ∧ Jx pre W')) := by
  refine callsIn_of_wp Try.func88 rfl trivial ?_ rfl
  simp only [Try.ntmps88, List.size_toArray, List.length_cons, List.length_nil, Nat.reduceAdd, Nat.reduceSub, Array.replicate_succ, Array.replicate_zero, List.push_toArray, List.append_toArray, List.nil_append, List.cons_append]
  gi_wp2
  gi_loopw [4] (fun i wr => ∃ k : Nat, k ≤ q ∧ i = .int .i64 ((2 * k : Nat) : Int) ∧ J ((List.finRange q).take k) wr ∧ ChunkAt Bs Bn ao q cap wr)
    (fun i _ => 2 * q - (intOf i).toNat)
  case atStart => exact ⟨0, Nat.zero_le _, rfl, h0, hC⟩
  case round =>
    obtain ⟨k, hk, rfl, hJs, hnx⟩ := hrel
    have hs := box1_cell hnx.1
    have hn2 := box1_cell hnx.2
    by_cases hlt : k < q
    · obtain rfl := hao (by omega)
      have g1 : ((2 * k : Nat) : Int) < ((2 * q : Nat) : Int) := by omega
      generalize hkk : 2 * k = kk at *
      generalize hqq : 2 * q = qq at *
      gi_wp2
      refine wpIn_wide.2 ?_
      have g2 : kk ≤ qq := by omega
      have g3 : (kk : Int) ≤ (qq : Int) := by omega
      have g4 : (0 : Int) ≤ (kk : Int) := by omega
      have g5 : kk ≤ cap := by omega
      go_quiet (fail)
      have bd : Below wr.heap.size wr (wr.drewN nq) := below_drewN (Below.refl _ _) _
      have hJ2 := hJd _ _ _ hJs bd
      have hnx2 : ChunkAt Bs Bn (some ⟨b, off, none⟩) q cap (wr.drewN nq) := ⟨(bd.block _ (heap_lt hnx.1)).trans hnx.1, (bd.block _ (heap_lt hnx.2)).trans hnx.2⟩
      have hs2 := box1_cell hnx2.1
      rw [hqq] at hs2
      have hn3 := box1_cell hnx2.2
      obtain ⟨fn, tmps, assign, body, hy, hR⟩ := hY _ ⟨k, hlt⟩ (wr.drewN nq) hJ2 (by simp; omega)
      have e6 : off + k * 6 = off + kk * 3 := by omega
      simp only [e6] at hy
      have g6 : (kk : Int) + 2 ≤ (cap : Int) := by omega
      have g7 : -9223372036854775808 ≤ (kk : Int) + 2 := by omega
      have g8 : (kk : Int) + 2 ≤ 9223372036854775807 := by omega
      generalize wr.drewN nq = w9 at *
      gi_wp2
      refine ⟨fun h => (by cases h), hR.mono ?_⟩
      rintro e W3 (⟨rfl, hJ3, hk3⟩ | ⟨rfl, hJx3⟩)
      · have hnx3 := hk3 hnx2
        have hn4 := box1_cell hnx3.2
        gi_wp2
        go_roundw
        case rel => exact ⟨k + 1, by omega, by rw [show 2 * (k + 1) = kk + 2 by omega]; simp, by rw [take_next _ _ (by simpa using hlt), List.getElem_finRange]; exact hJ3, hnx3⟩
        case measure => simp [intOf]; omega
      · gi_wp2
        refine bodyPost_ret (results_none rfl _ _ _) rfl ?_
        refine ⟨⟨_, rfl⟩, .inr ⟨_, ?_, hJx3⟩⟩
        have e9 : (List.finRange q).take k ++ [(⟨k, hlt⟩ : Fin q)] = (List.finRange q).take (k + 1) := by rw [take_next _ _ (by simpa using hlt), List.getElem_finRange]; rfl
        rw [e9]
        exact List.take_prefix _ _
    · obtain rfl : k = q := by omega
      gi_wp2
      go_end0
      exact ⟨⟨_, rfl⟩, .inl ⟨_, List.take_of_length_le (by simp), hJs⟩⟩
theorem chunk_in (n : Nat) (a : Option Addr) (len cap : Nat) (w : World) :
    CallsIn Fence.wide n Try.prog 83 #[.slice a len cap, .int .i64 2] w fun e w' => e = .returned (.func (.func 88) #[] #[.pointer (some ⟨w.heap.size, 0, none⟩), .pointer (some ⟨w.heap.size + 1, 0, none⟩)]) ∧ w' = (w.alloc (.cells #[.slice a len cap] 60)).alloc (.cells #[.int .i64 2] 3) := by
  refine callsIn_of_wp Try.func83 rfl trivial ?_ rfl
  simp only [Try.ntmps83, List.size_toArray, List.length_cons, List.length_nil, Nat.reduceAdd, Nat.reduceSub, Array.replicate_succ, Array.replicate_zero, List.push_toArray, List.append_toArray, List.nil_append, List.cons_append]
  gi_wp2
  go_ret
  exact ⟨rfl, rfl⟩
theorem chunk_stops (q n Bs Bn b off cap : Nat) (hq : q ≤ 1000) (hcap : 2 * q ≤ cap) (ao : Option Addr) (hao : 0 < q → ao = some ⟨b, off, none⟩) (w : World) (hC : ChunkAt Bs Bn ao q cap w) :
    SeqStopsK Fence.wide n Try.prog 88 #[.pointer (some ⟨Bs, 0, none⟩), .pointer (some ⟨Bn, 0, none⟩)] (fun x : Fin q => #[.slice (some ⟨b, off + x.val * 6, none⟩) 2 2]) (fun X Y => ChunkAt Bs Bn ao q cap X → ChunkAt Bs Bn ao q cap Y) (fun ys => ys = List.finRange q) (fun pre => pre <+: List.finRange q) q w := fun l J Jx W hW hJ _ hY h0 =>
  chunk1_in q n l Bs Bn b off cap hq hcap ao hao J Jx hY W ⟨(hW.block _ (heap_lt hC.1)).trans hC.1, (hW.block _ (heap_lt hC.2)).trans hC.2⟩ (fun pre X X' h hb => hJ pre X X' none h ⟨hb.os, hb.tape, hb.output, hb.size, fun k hk _ => hb.block k hk⟩ (fun r e => by cases e)) h0
theorem chunk_put {Bs Bn q cap : Nat} {ao : Option Addr} (W : World) (l : Nat) (o o' : Obj) (h : W.heap[l]? = some o) (hc : o.isCells = false) : ChunkAt Bs Bn ao q cap W → ChunkAt Bs Bn ao q cap (W.putObj l o') := fun hC => by
  have out : ∀ (k : Nat) (o2 : Obj), W.heap[k]? = some o2 → o2.isCells = true → (W.putObj l o').heap[k]? = some o2 := fun k o2 hk h2 => (World.putObj_heap_other (fun e => by subst e; rw [h] at hk; cases hk; rw [hc] at h2; cases h2)).trans hk
  exact ⟨out _ _ hC.1 rfl, out _ _ hC.2 rfl⟩
end Go.Proofs.Ytfcpclpaalekiaa
namespace Go.Proofs.Ytfcpclpaalekiaa
open Go Go.RowKit
structure KeepsT (B : Nat) (t : TypeId) (W W' : World) : Prop where
  size : W.heap.size ≤ W'.heap.size
  same : ∀ (k : Nat) (o : Obj), B ≤ k → W.heap[k]? = some o → (∀ c, o ≠ .cells c t (0, 0)) → W'.heap[k]? = some o
theorem KeepsT.refl (B : Nat) (t : TypeId) (W : World) : KeepsT B t W W := ⟨Nat.le_refl _, fun _ _ _ h _ => h⟩
theorem KeepsT.trans {B : Nat} {t : TypeId} {X Y Z : World} (h : KeepsT B t X Y) (k : KeepsT B t Y Z) : KeepsT B t X Z := ⟨Nat.le_trans h.size k.size, fun i o hB hi ho => k.same i o hB (h.same i o hB hi ho) ho⟩
theorem KeepsT.up {B B' : Nat} {t : TypeId} {W W' : World} (h : KeepsT B t W W') (hB : B ≤ B') : KeepsT B' t W W' := ⟨h.size, fun k o hk => h.same k o (Nat.le_trans hB hk)⟩
theorem KeepsT.from {B : Nat} {t : TypeId} {W W' : World} (h : KeepsT B t W W') : KeepsFrom B W W' := ⟨h.size, fun k o hk ho hc => h.same k o hk ho fun c e => by rw [e] at hc; cases hc⟩
theorem KeepsT.of_grownBy {B : Nat} {t : TypeId} {W W' : World} {row : Option Nat} (hg : W.grownBy W' row) (hrow : ∀ j, row = some j → j < B ∨ ∃ c, W.heap[j]? = some (.cells c t (0, 0))) : KeepsT B t W W' :=
  ⟨hg.size, fun k o hB hk ho => (hg.block k (Array.getElem?_eq_some_iff.1 hk).1 (fun e => by
    rcases hrow k e.symm with h | ⟨c, h⟩
    · omega
    · rw [hk] at h
      exact ho c (Option.some.inj h))).trans hk⟩
theorem KeepsT.alloc {B : Nat} {t : TypeId} {W X : World} (h : KeepsT B t W X) (o : Obj) : KeepsT B t W (X.alloc o) := h.trans (KeepsT.of_grownBy (World.grownBy_alloc X o none) fun j e => by cases e)
def Gives {α : Type} (P : Program) (t : TypeId) (g : Nat) (lb : Array Value) (enc : α → Value) (n₀ : Nat) (S : List α → Prop) (N : Nat) (w : World) : Prop :=
  ∀ (l : Nat) (J : List α → World → Prop) (W : World), Below w.heap.size w W → OwnFrom W.heap.size J →
    (∀ pre x W1, J pre W1 → pre.length < N → W.heap.size ≤ W1.heap.size → ∀ m, YieldAt Fence.wide m P l #[enc x] W1 fun e W' => e = .returned (.bool true) ∧ J (pre ++ [x]) W' ∧ Below n₀ W1 W' ∧ KeepsT W.heap.size t W1 W') →
    J [] W → ∀ n, CallsIn Fence.wide n P g (#[.func (.yield l) #[] #[]] ++ lb) W fun e W' => (∃ v, e = .returned v) ∧ ∃ xs, S xs ∧ J xs W'
theorem own_up {β : Type} {B B' : Nat} {I : β → World → Prop} (h : OwnFrom B I) (hB : B ≤ B') : OwnFrom B' I := fun s X Y row hs hg hr => h s X Y row hs hg fun r e => ⟨Nat.le_trans hB (hr r e).1, (hr r e).2⟩
theorem put_from {B l : Nat} {t : TypeId} {W : World} {o : Obj} (hl : l < B) : KeepsT B t W (W.putObj l o) :=
  KeepsT.of_grownBy (grownBy_putObj' W l o) fun j e => by cases e; exact .inl hl
theorem put_below {B l : Nat} {W : World} {o o2 : Obj} (hl : B ≤ l) (h : W.heap[l]? = some o2) : Below B W (W.putObj l o) :=
  (Below.refl B W).grown (grownBy_putObj' W l o) (by have := (Array.getElem?_eq_some_iff.1 h).1; omega) fun k e => by cases e; exact hl
section
variable {P : Program} {n : Nat}
theorem wpIn_range_gives {α : Type} {g : Operand} {ps : Array Tmp} {assign body : Code} {Q : Exit → Act → World → Prop} {a : Act} {w : World} {gf : Nat} {lb : Array Value}
    (hg : a.eval g = .func (.func gf) #[] lb) (eg : ∀ args w, (callFunc gf args).run P w = .ok (.enter gf args) w)
    {t : TypeId} {enc : α → Value} {n₀ : Nat} {S : List α → Prop} {N : Nat} {w0 : World} (hseq : Gives P t gf lb enc n₀ S N w0) (hn0 : n₀ ≤ w.heap.size) (hb0 : Below w0.heap.size w0 w) (hps : ps.size = 1)
    (I : List α → World → Prop) (hI : OwnFrom w.heap.size I) (h0 : I [] w) (Ax : α → Act → World → Prop) (hAx : ∀ x a', OwnFrom w.heap.size (fun (_ : Unit) W => Ax x a' W))
    (hassign : ∀ (l m : Nat) (pre : List α) (x : α) (W : World) (K : Act → World → Prop), I pre W → (∀ a' W', KeepsT w.heap.size t W W' → Below n₀ W W' → I pre W' → Ax x a' W' → K a' W') →
      assign.wpIn (Fence.wide.inRound l) m P (Exit.then K (fun _ _ _ => False)) { tmps := (ps.zip #[enc x]).foldl (fun t (p, v) => t.setIfInBounds p v) a.tmps, defers := [] } W)
    (hbody : ∀ (l m : Nat) (pre : List α) (x : α) (a' : Act) (W : World), I pre W → Ax x a' W → pre.length < N → body.wpIn (Fence.wide.inRound l) m P (fun e _ W' => e = .normal ∧ KeepsT w.heap.size t W W' ∧ Below n₀ W W' ∧ I (pre ++ [x]) W') a' W)
    (hdone : ∀ (D : Nat) (xs : List α) (W : World), w.heap.size ≤ D → S xs → I xs W → W.heap[D]? = some (.deferred (some [])) → Q .normal { a with defers := { target := .collected D, args := #[] } :: a.defers } W) :
    (Code.rangeFunc g ps assign body).wpIn Fence.wide n P Q a w := by
  refine wpIn_rangeFunc fun fn hfn => ?_
  obtain ⟨D, hD⟩ : ∃ D, w.heap.size = D := ⟨_, rfl⟩
  obtain ⟨rc, hrc⟩ : ∃ rc : Loop, rc = { state := .ready, pending := none, fn, tmps := a.tmps, params := ps, assign, body, defers := D } := ⟨_, rfl⟩
  obtain ⟨V, hV⟩ : ∃ V, (w.alloc (.deferred (some []))).alloc (.loop rc) = V := ⟨_, rfl⟩
  have v1 : V.heap.size = D + 2 := by rw [← hV, ← hD]; simp
  have v2 : V.heap[D + 1]? = some (.loop rc) := by
    rw [← hV, ← hD, show w.heap.size + 1 = (w.alloc (.deferred (some []))).heap.size by simp]
    exact World.alloc_heap_new _ _
  have v3 : V.heap[D]? = some (.deferred (some [])) := by
    rw [← hV, ← hD]
    exact (Below.heap_alloc _ _ _ (by simp)).trans (World.alloc_heap_new w _)
  have v4 : I [] V := by rw [← hV]; exact hI.alloc _ (hI.alloc _ h0)
  have v5 : Below w0.heap.size w0 V := by
    rw [← hV]
    exact hb0.trans ((((Below.refl _ w).alloc (Nat.le_refl _) _).alloc (by simp) _).mono hb0.size)
  rw [hD] at hI hAx hassign hbody hdone hn0
  refine ⟨D + 1, [{ target := .collected D, args := #[] }], V, { target := .fn (.func gf) lb, args := #[.func (.yield (D + 1)) #[] #[]] }, V, gf, #[.func (.yield (D + 1)) #[] #[]] ++ lb, V, ?_, ?_, fun _ _ => trivial, ?_, fun h => (by cases h), ?_⟩
  · rw [← hV, hrc, ← hD]
    exact run_enterLoop_outer _ _ _ _ _
  · simp only [resolve, hg]
    simp [go_sem]
  · simp [invoke, go_sem, eg]
  refine (hseq (D + 1) (fun pre W => I pre W ∧ W.heap[D + 1]? = some (.loop rc) ∧ W.heap[D]? = some (.deferred (some []))) V v5 ?_ ?_ ⟨v4, v2, v3⟩ (n - 1)).mono ?_
  · -- what the caller keeps
    intro s X Y row hs hgr hr
    have out : ∀ k, k < V.heap.size → some k ≠ row := fun k hk e => by have := (hr k e.symm).1; omega
    exact ⟨(own_up hI (by omega)) s X Y row hs.1 hgr hr, (hgr.block _ (heap_lt hs.2.1) (out _ (by omega))).trans hs.2.1, (hgr.block _ (heap_lt hs.2.2) (out _ (by omega))).trans hs.2.2⟩
  · -- a round
    rintro pre x X ⟨hi, hl, hk⟩ hlen hsz m
    have hy := run_yield (P := P) (args := #[enc x]) hl (by rw [hrc]; simp [hps])
    have e1 : rc.fn = fn := by rw [hrc]
    have e2 : rc.tmps = a.tmps := by rw [hrc]
    have e3 : rc.params = ps := by rw [hrc]
    have e4 : rc.assign = assign := by rw [hrc]
    have e5 : rc.body = body := by rw [hrc]
    have e6 : rc.state = .ready := by rw [hrc]
    have e7 : rc.pending = none := by rw [hrc]
    rw [e1, e2, e3, e4, e5] at hy
    refine ⟨fn, _, assign, body, hy, roundIn_of_wpIn trivial (hassign _ m pre x X _ hi ?_)⟩
    intro a1 X1 k1 b1 i1 ax1
    have l1 := k1.same _ _ (by omega) hl (fun c e => by cases e)
    have d1 := k1.same _ _ (Nat.le_refl _) hk (fun c e => by cases e)
    refine ⟨_, run_beginRound l1 e6, ?_⟩
    obtain ⟨rb, hrb⟩ : ∃ rb : Loop, rb = { rc with state := .busy } := ⟨_, rfl⟩
    rw [← hrb]
    have l2 : (X1.putObj (D + 1) (.loop rb)).heap[D + 1]? = some (.loop rb) := World.putObj_heap_same (heap_lt l1)
    have d2 : (X1.putObj (D + 1) (.loop rb)).heap[D]? = some (.deferred (some [])) := (World.putObj_heap_other (by omega)).trans d1
    have b2 : Below n₀ X1 (X1.putObj (D + 1) (.loop rb)) := put_below (by omega) l1
    have k2 : KeepsT V.heap.size t X1 (X1.putObj (D + 1) (.loop rb)) := put_from (by omega)
    refine wpIn_mono (hbody _ m pre x a1 _ (hI.putObj _ i1 (by omega) l1 rfl) ((hAx x a1).putObj (s := ()) _ ax1 (by omega) l1 rfl) hlen) ?_
    rintro e a3 X3 ⟨rfl, k3, b3, i3⟩
    have l3 := k3.same _ _ (by omega) l2 (fun c e => by cases e)
    have d3 := k3.same _ _ (Nat.le_refl _) d2 (fun c e => by cases e)
    have hend := run_endRound (P := P) none l3
    have hback : ({ rb with state := if (none : Option Code).isNone then LoopState.ready else LoopState.done, pending := none } : Loop) = rc := by rw [hrb, hrc]; rfl
    rw [hback] at hend
    refine ⟨_, _, hend, rfl, ⟨hI.putObj _ i3 (by omega) l3 rfl, World.putObj_heap_same (heap_lt l3), (World.putObj_heap_other (by omega)).trans d3⟩, ?_, ?_⟩
    · exact ((b1.trans b2).trans b3).trans (put_below (by omega) l3)
    · exact (((k1.up (by omega)).trans k2).trans (k3.up (by omega))).trans (put_from (by omega))
  · -- behind them
    rintro e X ⟨⟨v, rfl⟩, xs, hS, hi, hl, hk⟩
    refine ⟨rc.pending, _, run_endLoop hl (by rw [hrc]; simp), ?_⟩
    rw [show rc.pending = none by rw [hrc]]
    exact hdone _ xs _ (Nat.le_refl _) hS (hI.putObj _ hi (by omega) hl rfl) ((World.putObj_heap_other (by omega)).trans hk)
end
end Go.Proofs.Ytfcpclpaalekiaa
