/-
  A region that draws its order, by what each of its operations leaves behind, in whatever order they come up: as many steps as operations; nothing of the program is in this text.
-/
import Derived.Orders
import Derived.WalkKit
import Derived.Laws.AppendOwn
import Derived.Below
namespace Go.Proofs.YtfoomgdlbkjaeaaGreat
open Go
theorem countP_less {p q : Nat → Bool} {L : List Nat} {i : Nat} (hi : i ∈ L) (hpq : ∀ k, q k = true → p k = true) (hp : p i = true) (hq : q i = false) : L.countP q < L.countP p := by
  induction L with
  | nil => cases hi
  | cons a L ih =>
    rw [List.countP_cons, List.countP_cons]
    have hle : L.countP q ≤ L.countP p := List.countP_mono_left fun k _ => hpq k
    by_cases e : a = i
    · subst e
      simp [hp, hq]
      omega
    · have h1 := ih (by
        rcases List.mem_cons.1 hi with h | h
        · exact absurd h.symm e
        · exact h)
      have h2 : (if q a = true then 1 else 0) ≤ (if p a = true then 1 else 0) := by
        cases h : q a
        · simp
        · simp [hpq a h]
      omega
def left (n : Nat) (listed : Array Bool) : Nat := (List.range n).countP fun k => !listed.getD k true
theorem left_set {ops : Array Oper} {md : Region.Mode} {listed : Array Bool} {i : Nat} (h : i ∈ Region.ready md ops listed) : left ops.size (listed.setIfInBounds i true) < left ops.size listed := by
  obtain ⟨h1, o, h2, _⟩ := mem_ready.1 h
  have hn : i < ops.size := (Array.getElem?_eq_some_iff.1 h2).1
  refine countP_less (i := i) (List.mem_range.2 hn) ?_ (by simp only [h1]; rfl) ?_
  · intro k hk
    by_cases e : i = k
    · subst e; simp only [h1]; rfl
    · rw [getD_set_ne true e] at hk
      exact hk
  · have hl : i < listed.size := by
      rcases Nat.lt_or_ge i listed.size with h' | h'
      · exact h'
      · rw [Array.getD_eq_getD_getElem?, Array.getElem?_eq_none h'] at h1
        cases h1
    simp [Array.getD_eq_getD_getElem?, hl]
theorem wpAny_inv {P : Program} {md : Region.Mode} {ops : Array Oper} {Q : Exit → Act → World → Prop} (I : Array Bool → Act → World → Prop)
    (step : ∀ listed a w i, i ∈ Region.ready md ops listed → I listed a w → wpOp P ops Q i (fun a' w' => I (listed.setIfInBounds i true) a' w') a w)
    (done : ∀ listed a w, Region.ready md ops listed = [] → I listed a w → Q .normal a w) :
    ∀ (fuel : Nat) (listed : Array Bool) (a : Act) (w : World), left ops.size listed ≤ fuel → I listed a w → wpAny P md ops Q fuel listed a w := by
  intro fuel
  induction fuel with
  | zero =>
    intro listed a w hl h
    have hr : Region.ready md ops listed = [] := by
      cases e : Region.ready md ops listed with
      | nil => rfl
      | cons i l =>
        have := left_set (md := md) (ops := ops) (listed := listed) (i := i) (by rw [e]; exact List.mem_cons_self)
        omega
    exact ⟨hr, done listed a w hr h⟩
  | succ fuel ih =>
    intro listed a w hl h
    refine ⟨fun hr => done listed a w hr h, fun i hi => ?_⟩
    refine wpOp_mono (fun a' w' h' => ih _ a' w' ?_ h') (step listed a w i hi h)
    have := left_set hi
    omega
end Go.Proofs.YtfoomgdlbkjaeaaGreat
namespace Go.Proofs.YtfoomgdlbkjaeaaGreat
open Go Go.RowKit
set_option linter.unusedSimpArgs false
structure Same (ops : Array Oper) (a a' : Act) : Prop where
  size : a'.tmps.size = a.tmps.size
  defers : a'.defers = a.defers
  rest : ∀ d, ops.toList.all (fun o => o.dst != some d) = true → a'.tmps.getD d undef = a.tmps.getD d undef
def phiOk (ops : Array Oper) (ns : Nat) : Bool :=
  ((List.range ops.size).all fun i => (List.range ops.size).all fun j => i == j || (match ops.toList[i]?, ops.toList[j]? with
    | some a, some b => a.dst.isNone || a.dst != b.dst
    | _, _ => true)) &&
  (ops.toList.all fun o => match o.dst with
    | some d => decide (d < ns)
    | none => true) &&
  ((List.range ops.size).all fun i => match ops.toList[i]? with
    | some o => o.after.toList.all fun e => !Region.binds .any e || decide (e.on < i)
    | none => true)
section
variable {P : Program} {ops : Array Oper} {Q : Exit → Act → World → Prop}
theorem phiOk_spec {ns : Nat} (h : phiOk ops ns = true) : (∀ (i j : Nat) (a b : Oper), ops[i]? = some a → ops[j]? = some b → i ≠ j → a.dst = none ∨ a.dst ≠ b.dst) ∧ (∀ (i : Nat) (o : Oper) d, ops[i]? = some o → o.dst = some d → d < ns) ∧ ∀ (i : Nat) (o : Oper), ops[i]? = some o → ∀ e ∈ o.after, Region.binds .any e = true → e.on < i := by
  unfold phiOk at h
  simp only [Bool.and_eq_true, List.all_eq_true, List.mem_range] at h
  obtain ⟨⟨h1, h2⟩, h3⟩ := h
  refine ⟨fun i j a b ha hb hij => ?_, fun i o d ho hd => ?_, fun i o ho e he hbn => ?_⟩
  · have hi := (Array.getElem?_eq_some_iff.1 ha).1
    have hj := (Array.getElem?_eq_some_iff.1 hb).1
    have := h1 i hi j hj
    rw [← Array.getElem?_toList] at ha hb
    rw [ha, hb] at this
    simp only [Bool.or_eq_true, beq_iff_eq, bne_iff_ne, Option.isNone_iff_eq_none] at this
    exact this.resolve_left hij
  · have := h2 o (by rw [Array.mem_toList_iff]; exact Array.mem_of_getElem? ho)
    rw [hd] at this
    exact of_decide_eq_true this
  · have hi := (Array.getElem?_eq_some_iff.1 ho).1
    have := h3 i hi
    rw [← Array.getElem?_toList] at ho
    rw [ho] at this
    have h4 := List.all_eq_true.1 this e (by rw [Array.mem_toList_iff]; exact he)
    rw [hbn] at h4
    exact of_decide_eq_true h4
theorem Same.refl (ops : Array Oper) (a : Act) : Same ops a a := ⟨rfl, rfl, fun _ _ => rfl⟩
theorem Same.put {a a' : Act} {o : Oper} {v : Value} {i : Nat} (h : Same ops a a') (ho : ops[i]? = some o) : Same ops a (a'.put o.dst v) := by
  cases hd : o.dst with
  | none => exact h
  | some d =>
    refine ⟨by simp [Act.put, h.size], h.defers, fun k hk => ?_⟩
    have hne : d ≠ k := fun e => by
      have := List.all_eq_true.1 hk o (by rw [Array.mem_toList_iff]; exact Array.mem_of_getElem? ho)
      rw [hd, e] at this
      simp at this
    rw [← h.rest k hk]
    simp [Act.put, Array.getD_eq_getD_getElem?, Array.getElem?_setIfInBounds_ne hne]
def usesOk (ops : Array Oper) (uses : Nat → List Nat) : Bool :=
  (List.range ops.size).all fun i => match ops.toList[i]? with
    | none => true
    | some o => (uses i).all fun d => (List.range ops.size).all fun j => match ops.toList[j]? with
      | none => true
      | some oj => oj.dst != some d || j == i || o.after.toList.any fun e => Region.binds .any e && e.on == j
theorem usesOk_spec {uses : Nat → List Nat} (h : usesOk ops uses = true) {i j d : Nat} {o oj : Oper} (ho : ops[i]? = some o) (hoj : ops[j]? = some oj) (hd : d ∈ uses i) (hj : oj.dst = some d) : j = i ∨ ∃ e ∈ o.after, Region.binds .any e = true ∧ e.on = j := by
  unfold usesOk at h
  have hi := (Array.getElem?_eq_some_iff.1 ho).1
  have hjl := (Array.getElem?_eq_some_iff.1 hoj).1
  rw [← Array.getElem?_toList] at ho hoj
  have h1 := List.all_eq_true.1 h i (List.mem_range.2 hi)
  rw [ho] at h1
  have h2 := List.all_eq_true.1 (List.all_eq_true.1 h1 d hd) j (List.mem_range.2 hjl)
  rw [hoj] at h2
  simp only [Bool.or_eq_true, bne_iff_ne, beq_iff_eq, List.any_eq_true, Bool.and_eq_true] at h2
  rcases h2 with (h2 | h2) | ⟨e, he, h3, h4⟩
  · exact absurd hj h2
  · exact .inl h2
  · exact .inr ⟨e, by rw [← Array.mem_toList_iff]; exact he, h3, h4⟩
def slots (a : Act) (d : Nat) : Value := a.tmps.getD d undef
theorem wpAny_phi {ns : Nat} {uses : Nat → List Nat} {a : Act} {w : World} (hok : phiOk ops ns = true) (hu : usesOk ops uses = true) (Rel : Nat → World → World → Prop) (BW : World → Prop) (hBW : ∀ j w w', BW w → Rel j w w' → BW w') (h0 : BW w)
    (H : Nat → (Nat → Value) → World → Prop) (hC : ∀ i s s' w, (∀ d ∈ uses i, s d = s' d) → H i s w → H i s' w) (hH : ∀ i j s w w', i ≠ j → H i s w → BW w → Rel j w w' → H i s w')
    (step : ∀ i o, ops.toList[i]? = some o → ∀ a' w', Same ops a a' → BW w' → (∀ k, (o.after.toList.any fun e => Region.binds .any e && e.on == k) = true → H k (slots a') w') → wpOp P ops Q i (fun a'' w'' => ∃ v, a'' = a'.put o.dst v ∧ H i (slots a'') w'' ∧ Rel i w' w'') a' w')
    (done : ∀ a' w', Same ops a a' → BW w' → (∀ i, i < ops.size → H i (slots a') w') → Q .normal a' w') : wpAny P .any ops Q ops.size (Array.replicate ops.size false) a w := by
  refine wpAny_inv (fun listed a' w' => listed.size = ops.size ∧ Same ops a a' ∧ BW w' ∧ (∀ i o, ops[i]? = some o → listed.getD i false = true → ∀ e ∈ o.after, Region.binds .any e = true → listed.getD e.on false = true) ∧ ∀ i o, ops[i]? = some o → listed.getD i false = true → H i (slots a') w') ?_ ?_ _ _ _ _ (Nat.le_trans List.countP_le_length (by simp)) ⟨by simp, Same.refl _ _, h0, fun i o ho hl => ?_, fun i o ho hl => ?_⟩
  · rintro listed a' w' i hi ⟨hz, hsa, hb, hcl, hh⟩
    obtain ⟨h1, o, ho, hdep⟩ := mem_ready.1 hi
    refine wpOp_mono ?_ (step i o (by rw [Array.getElem?_toList]; exact ho) a' w' hsa hb fun k hk => ?_)
    · rintro a'' w'' ⟨v, rfl, hv, hr⟩
      refine ⟨by rw [Array.size_setIfInBounds]; exact hz, hsa.put ho, hBW _ _ _ hb hr, fun j oj hoj hl e he hbn => ?_, fun j oj hoj hl => ?_⟩
      · by_cases x : i = j
        · subst x
          rw [ho] at hoj
          obtain rfl := Option.some.inj hoj
          exact getD_set_true (hdep e he hbn)
        · rw [getD_set_ne false x] at hl
          exact getD_set_true (hcl j oj hoj hl e he hbn)
      · by_cases x : i = j
        · subst x
          exact hv
        · rw [getD_set_ne false x] at hl
          refine hH j i _ w' w'' (fun y => x y.symm) (hC j (slots a') _ w' (fun d hd => ?_) (hh j oj hoj hl)) hb hr
          cases hod : o.dst with
          | none => rfl
          | some d' =>
            by_cases y : d' = d
            · subst y
              exfalso
              rcases usesOk_spec hu hoj ho hd hod with z | ⟨e, he, hbn, hon⟩
              · exact x z
              · have h5 := hcl j oj hoj hl e he hbn
                rw [hon] at h5
                rcases Nat.lt_or_ge i listed.size with h | h
                · simp [Array.getD_eq_getD_getElem?, h] at h1 h5
                  rw [h1] at h5
                  cases h5
                · simp [Array.getD_eq_getD_getElem?, Array.getElem?_eq_none h] at h5
            · unfold slots
              simp [Act.put, Array.getD_eq_getD_getElem?, Array.getElem?_setIfInBounds_ne y]
    · obtain ⟨e, he, hx⟩ := List.any_eq_true.1 hk
      simp only [Bool.and_eq_true, beq_iff_eq] at hx
      obtain ⟨hbn, rfl⟩ := hx
      have he' : e ∈ o.after := by rw [← Array.mem_toList_iff]; exact he
      have hlt := (phiOk_spec hok).2.2 i o ho e he' hbn
      have hi := (Array.getElem?_eq_some_iff.1 ho).1
      exact hh e.on _ (Array.getElem?_eq_getElem (show e.on < ops.size by omega)) (hdep e he' hbn)
  · rintro listed a' w' hr ⟨hz, hsa, hb, hcl, hh⟩
    have all : ∀ i o, ops[i]? = some o → listed.getD i false = true := by
      intro i
      induction i using Nat.strongRecOn with
      | _ i ih =>
        intro o ho
        cases hl : listed.getD i true with
        | false =>
          exfalso
          have : i ∈ Region.ready .any ops listed := mem_ready.2 ⟨hl, o, ho, fun e he hbn => by
            have hlt := (phiOk_spec hok).2.2 i o ho e he hbn
            have hi := (Array.getElem?_eq_some_iff.1 ho).1
            exact ih e.on hlt _ (Array.getElem?_eq_getElem (show e.on < ops.size by omega))⟩
          rw [hr] at this
          cases this
        | true =>
          rcases Nat.lt_or_ge i listed.size with h | h
          · simpa [Array.getD_eq_getD_getElem?, h] using hl
          · have hi := (Array.getElem?_eq_some_iff.1 ho).1
            omega
    exact done a' w' hsa hb fun i hi => hh i _ (Array.getElem?_eq_getElem hi) (all i _ (Array.getElem?_eq_getElem hi))
  all_goals
    have hi := (Array.getElem?_eq_some_iff.1 ho).1
    simp [Array.getD_eq_getD_getElem?, hi] at hl
theorem wp_region_phi {id ns : Nat} {uses : Nat → List Nat} {a : Act} {w : World} (hm : P.follows .mixedOrders = true) (hok : phiOk ops ns = true) (hu : usesOk ops uses = true) (Rel : Nat → World → World → Prop) (BW : World → Prop) (hBW : ∀ j w w', BW w → Rel j w w' → BW w') (h0 : BW w.drew)
    (H : Nat → (Nat → Value) → World → Prop) (hC : ∀ i s s' w, (∀ d ∈ uses i, s d = s' d) → H i s w → H i s' w) (hH : ∀ i j s w w', i ≠ j → H i s w → BW w → Rel j w w' → H i s w')
    (step : ∀ i o, ops.toList[i]? = some o → ∀ a' w', Same ops a a' → BW w' → (∀ k, (o.after.toList.any fun e => Region.binds .any e && e.on == k) = true → H k (slots a') w') → wpOp P ops Q i (fun a'' w'' => ∃ v, a'' = a'.put o.dst v ∧ H i (slots a'') w'' ∧ Rel i w' w'') a' w')
    (done : ∀ a' w', Same ops a a' → BW w' → (∀ i, i < ops.size → H i (slots a') w') → Q .normal a' w') : (Code.region id ops true).wp P Q a w :=
  wp_region_any hm (wpAny_phi hok hu Rel BW hBW h0 H hC hH step done)
theorem slots_put {a : Act} {d ns : Nat} {v : Value} (hs : a.tmps.size = ns) (hd : d < ns) : slots (a.put (some d) v) d = v := by
  simp [slots, Act.put, Array.getD_eq_getD_getElem?, hs, hd]
structure Ext (t : TypeId) (B : Nat) (w w' : World) : Prop where
  os : w'.os = w.os
  tape : w'.tape = w.tape
  output : w'.output = w.output
  size : w.heap.size ≤ w'.heap.size
  block : ∀ k, k < w.heap.size → w'.heap[k]? = w.heap[k]? ∨ B ≤ k ∧ ∃ c c' : Array Value, w.heap[k]? = some (.cells c t (0, 0)) ∧ w'.heap[k]? = some (.cells c' t (0, 0)) ∧ c'.size = c.size
theorem Ext.of_below {t : TypeId} {B : Nat} {w w' : World} (h : Below w.heap.size w w') : Ext t B w w' := ⟨h.os, h.tape, h.output, h.size, fun k hk => .inl (h.block k hk)⟩
theorem Ext.below {t : TypeId} {B : Nat} {w0 w w' : World} (h : Ext t B w w') (h0 : Below B w0 w) (hB : B ≤ w0.heap.size) : Below B w0 w' :=
  ⟨h.os.trans h0.os, h.tape.trans h0.tape, h.output.trans h0.output, Nat.le_trans h0.size h.size, fun k hk => by
    rcases h.block k (by have := h0.size; omega) with e | ⟨e, _⟩
    · exact e.trans (h0.block k hk)
    · omega⟩
theorem Ext.other {t e : TypeId} {B k : Nat} {w w' : World} {c : Array Value} (h : Ext t B w w') (hk : w.heap[k]? = some (.cells c e (0, 0))) (hte : t ≠ e) : w'.heap[k]? = some (.cells c e (0, 0)) := by
  rcases h.block k (Array.getElem?_eq_some_iff.1 hk).1 with x | ⟨_, c1, c2, h1, _⟩
  · exact x.trans hk
  · rw [hk] at h1
    injection h1 with h1
    injection h1 with _ h2 _
    exact absurd h2.symm hte
theorem Ext.box {t : TypeId} {B k : Nat} {w w' : World} {c : Array Value} (h : Ext t B w w') (hk : w.heap[k]? = some (.cells c t (0, 0))) : ∃ c' : Array Value, w'.heap[k]? = some (.cells c' t (0, 0)) ∧ c'.size = c.size := by
  rcases h.block k (Array.getElem?_eq_some_iff.1 hk).1 with x | ⟨_, c1, c2, h1, h2, h3⟩
  · exact ⟨c, x.trans hk, rfl⟩
  · rw [hk] at h1
    injection h1 with h1
    injection h1 with h1 _ _
    subst h1
    exact ⟨c2, h2, h3⟩
theorem Ext.row {t e : TypeId} {B base size n : Nat} {w w' : World} {v : Value} {xs : List Value} (h : Ext t B w w') (hr : w.ownsRow base e size v n xs) (hte : t ≠ e) : w'.ownsRow base e size v n xs := by
  refine ⟨hr.1, ?_⟩
  rcases hr.2 with x | ⟨g, cap, cur, hv, hg, hh, rest⟩
  · exact .inl x
  · exact .inr ⟨g, cap, cur, hv, hg, h.other hh hte, rest⟩
def RelX (t : TypeId) (B st j : Nat) (w w' : World) : Prop := (j ≠ st → Below w.heap.size w w') ∧ Ext t B w w'
theorem RelX.of_below {t : TypeId} {B st j : Nat} {w w' : World} (h : Below w.heap.size w w') : RelX t B st j w w' := ⟨fun _ => h, Ext.of_below h⟩
theorem wpOp_of {i : Nat} {o : Oper} {a : Act} {w : World} {K : Act → World → Prop} (ho : ops.toList[i]? = some o) (hg : o.guard = none) (h : o.wp P a w K Q) : wpOp P ops Q i K a w := by
  rw [Array.getElem?_toList] at ho
  unfold wpOp
  rw [ho]
  have hw : Region.wanted o (yielded ops a.tmps) = true := by simp [Region.wanted, hg]
  simp only [hw, if_true]
  exact .inl h
theorem op_run {o : Oper} {a : Act} {w w' : World} {v : Value} {K : Act → World → Prop} (h : (execOp a.eval o).run P w = .ok (.value v) w') (hk : K (a.put o.dst v) w') : o.wp P a w K Q := by
  unfold Oper.wp
  rw [h]
  exact hk
theorem op_skip {o : Oper} {a : Act} {w w' : World} {K : Act → World → Prop} (h : (execOp a.eval o).run P w = .ok .skip w') (hk : K (a.put o.dst undef) w') : o.wp P a w K Q := by
  unfold Oper.wp
  rw [h]
  exact hk
theorem op_call {o : Oper} {a : Act} {w : World} {K : Act → World → Prop} (k : Nat) (args : Array Operand) (ts : Array TypeId) (ho : o.op = .call { callee := .value (.func k), args := args, argTypes := ts }) (hk : ∀ args w, (callFunc k args).run P w = .ok (.enter k args) w) (vs : List Value) (hvs' : args.toList.map a.eval = vs) {R : Ending → World → Prop} (hc : Calls P k vs.toArray w R)
    (h : ∀ e w', R e w' → ∃ v, e = .returned v ∧ K (a.put o.dst v) w') : o.wp P a w K Q := by
  have hvs : args.map a.eval = vs.toArray := by rw [← hvs', ← Array.toList_map, Array.toArray_toList]
  unfold Oper.wp
  simp [execOp, ho, resolve, invoke, hvs, Act.eval, Deferred.ofValue, hk, Oper.upon]
  refine hc.mono ?_
  intro e w' hr
  obtain ⟨v, rfl, hv⟩ := h e w' hr
  exact hv
end
end Go.Proofs.YtfoomgdlbkjaeaaGreat
