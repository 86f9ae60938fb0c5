/-
  A region that draws its order, and whose last operation waits for all others: it may be walked behind them, as a region of its own; nothing of the program is in this text.
-/
import Derived.Orders
import Derived.OrdersHeld
import Derived.Deep.RegionHeld
import Derived.RegionTactic
import Derived.WalkKit
namespace Go.Proofs.YtfoomgdlbkjaeaaGreat
open Go
def lastOk (ops : Array Oper) (n : Nat) : Bool :=
  n + 1 == ops.size &&
  ((List.range n).all fun j => (List.range (n + 1)).any fun k => decide (j < k) && (ops[k]?.map fun o => o.after.toList.any fun e => Region.binds .any e && e.on == j).getD false) &&
  ((List.range (n + 1)).all fun k => (ops[k]?.map fun o => o.after.toList.all fun e => decide (e.on < k)).getD false)
def idle (o : Oper) : Oper := { o with op := .move (.const undef) }
def Behind (P : Program) (o : Oper) (Q : Exit → Act → World → Prop) : Exit → Act → World → Prop
  | .normal, a, w => ∀ K : Act → World → Prop, (∀ a w, Q .normal a w → K a w) → o.wp P a w K Q
  | e, a, w => Q e a w
section
variable {P : Program} {ops : Array Oper} {Q : Exit → Act → World → Prop} {n : Nat} {o : Oper}
theorem lastOk_spec (h : lastOk ops n = true) : n + 1 = ops.size ∧ (∀ j, j < n → ∃ (k : Nat) (o : Oper), j < k ∧ k ≤ n ∧ ops[k]? = some o ∧ ∃ e ∈ o.after, Region.binds .any e = true ∧ e.on = j) ∧ ∀ (k : Nat) (o : Oper), ops[k]? = some o → ∀ e ∈ o.after, e.on < k := by
  unfold lastOk at h
  simp only [Bool.and_eq_true, beq_iff_eq, List.all_eq_true, List.mem_range, List.any_eq_true, decide_eq_true_eq] at h
  obtain ⟨⟨h1, h2⟩, h3⟩ := h
  refine ⟨h1, fun j hj => ?_, fun k o ho e he => ?_⟩
  · obtain ⟨k, hk, hjk, hx⟩ := h2 j hj
    cases ho : ops[k]? with
    | none => rw [ho] at hx; cases hx
    | some o =>
      rw [ho] at hx
      simp only [Option.map_some, Option.getD_some, List.any_eq_true, Bool.and_eq_true, beq_iff_eq] at hx
      obtain ⟨e, he, hb, hon⟩ := hx
      exact ⟨k, o, hjk, by omega, ho, e, by simpa using he, hb, hon⟩
  · have hk : k < n + 1 := by rw [h1]; exact (Array.getElem?_eq_some_iff.1 ho).1
    have hx := h3 k hk
    rw [ho] at hx
    simp only [Option.map_some, Option.getD_some, List.all_eq_true, decide_eq_true_eq] at hx
    exact hx e (by simpa using he)
theorem idle_get (ho : ops[n]? = some o) (j : Nat) : (ops.setIfInBounds n (idle o))[j]? = if j = n then some (idle o) else ops[j]? := by
  have hn := (Array.getElem?_eq_some_iff.1 ho).1
  rw [Array.getElem?_setIfInBounds]
  by_cases e : n = j
  · subst e; simp [hn]
  · rw [if_neg e, if_neg (fun x => e x.symm)]
theorem idle_yielded (ho : ops[n]? = some o) (t : Array Value) : yielded (ops.setIfInBounds n (idle o)) t = yielded ops t := by
  funext j
  unfold yielded
  rw [idle_get ho]
  by_cases e : j = n
  · subst e; rw [if_pos rfl, ho]; rfl
  · rw [if_neg e]
theorem idle_ready (ho : ops[n]? = some o) (listed : Array Bool) (j : Nat) : j ∈ Region.ready .any (ops.setIfInBounds n (idle o)) listed ↔ j ∈ Region.ready .any ops listed := by
  rw [mem_ready, mem_ready]
  refine and_congr_right fun _ => ?_
  rw [idle_get ho]
  by_cases e : j = n
  · subst e
    rw [if_pos rfl, ho]
    constructor
    · rintro ⟨x, hx, h⟩; obtain rfl := Option.some.inj hx; exact ⟨o, rfl, h⟩
    · rintro ⟨x, hx, h⟩; obtain rfl := Option.some.inj hx; exact ⟨idle o, rfl, h⟩
  · rw [if_neg e]
theorem wp_behind {x : Oper} {a : Act} {w : World} {K : Act → World → Prop} (h : x.wp P a w K (Behind P o Q)) : x.wp P a w K Q := by
  unfold Oper.wp at *
  generalize (execOp a.eval x).run P w = r at *
  cases r with
  | ok n w' =>
    cases n <;> simp only [Oper.upon] at h ⊢ <;>
      first
        | exact h
        | exact Calls.mono h (fun e w'' he => by cases e <;> exact he)
  | halt y w' => cases y <;> simp only [Oper.upon] at h ⊢ <;> exact h
theorem wpAny_last (ho : ops[n]? = some o) (hl : lastOk ops n = true) (hd : o.dst = none) (hg : o.guard = none) : ∀ (fuel : Nat) (listed : Array Bool) (a : Act) (w : World), listed.size = ops.size → listed[n]? = some false → (∀ (k : Nat) (o : Oper), ops[k]? = some o → listed[k]? = some true → ∀ e ∈ o.after, Region.binds .any e = true → listed[e.on]? = some true) →
    wpAny P .any (ops.setIfInBounds n (idle o)) (Behind P o Q) fuel listed a w → wpAny P .any ops Q fuel listed a w := by
  obtain ⟨s1, s2, s3⟩ := lastOk_spec hl
  -- some one is ready
  have some_ready : ∀ listed : Array Bool, listed.size = ops.size → listed[n]? = some false → ∃ j, j ∈ Region.ready .any ops listed := by
    intro listed hs hn
    have key : ∀ m, (∃ j, j ∈ Region.ready .any ops listed) ∨ ∀ j, j < m → j ≤ n → listed[j]? = some true := by
      intro m
      induction m with
      | zero => exact .inr fun j hj => absurd hj (Nat.not_lt_zero _)
      | succ m ih =>
        rcases ih with ih | ih
        · exact .inl ih
        · by_cases hm : m ≤ n
          · have hlt : m < listed.size := by omega
            have hlo : m < ops.size := by omega
            cases hb : listed[m]? with
            | none => rw [Array.getElem?_eq_none_iff] at hb; omega
            | some b =>
              cases b with
              | true =>
                refine .inr fun j hj hjn => ?_
                rcases Nat.lt_or_ge j m with h | h
                · exact ih j h hjn
                · obtain rfl : j = m := by omega
                  exact hb
              | false =>
                refine .inl ⟨m, mem_ready.2 ⟨by simp [Array.getD_eq_getD_getElem?, hb], ops[m], Array.getElem?_eq_getElem hlo, fun e he _ => ?_⟩⟩
                have h4 := s3 m _ (Array.getElem?_eq_getElem hlo) e he
                have h5 := ih e.on h4 (by omega)
                simp [Array.getD_eq_getD_getElem?, h5]
          · exact .inr fun j hj hjn => ih j (by omega) hjn
    rcases key (n + 1) with h | h
    · exact h
    · have := h n (by omega) (Nat.le_refl _); rw [hn] at this; cases this
  intro fuel
  induction fuel with
  | zero =>
    intro listed a w hs hn hc H
    obtain ⟨j, hj⟩ := some_ready listed hs hn
    have h1 := (idle_ready ho listed j).2 hj
    rw [H.1] at h1
    cases h1
  | succ fuel ih =>
    intro listed a w hs hn hc H
    refine ⟨fun h => ?_, fun j hj => ?_⟩
    · obtain ⟨j, hj⟩ := some_ready listed hs hn
      rw [h] at hj
      cases hj
    · have h1 := H.2 j ((idle_ready ho listed j).2 hj)
      obtain ⟨hjun, oj, hoj, hall⟩ := mem_ready.1 hj
      have hjlt : j < listed.size := by rw [hs]; exact (Array.getElem?_eq_some_iff.1 hoj).1
      by_cases hjn : j = n
      · subst hjn
        rw [ho] at hoj
        obtain rfl := Option.some.inj hoj
        -- all others are listed
        have allL : ∀ d i, i + d = j → listed[i]? = some true ∨ d = 0 := by
          intro d
          induction d using Nat.strongRecOn with
          | _ d ihd =>
            intro i hi
            rcases Nat.eq_zero_or_pos d with h0 | h0
            · exact .inr h0
            · obtain ⟨k, ok, hik, hkj, hok, e, he, hb, hon⟩ := s2 i (by omega)
              left
              by_cases hkj2 : k = j
              · subst hkj2
                rw [ho] at hok
                obtain rfl := Option.some.inj hok
                have h5 := hall e he hb
                rw [hon] at h5
                have hi2 : i < listed.size := by omega
                simpa [Array.getD_eq_getD_getElem?, Array.getElem?_eq_getElem hi2] using h5
              · have h6 := (ihd (j - k) (by omega) k (by omega)).resolve_right (by omega)
                have h7 := hc k ok hok h6 e he hb
                rw [hon] at h7
                exact h7
        have hdone : Region.ready .any ops (listed.setIfInBounds j true) = [] := by
          refine List.eq_nil_iff_forall_not_mem.2 fun i hi => ?_
          obtain ⟨hun, oi, hoi, _⟩ := mem_ready.1 hi
          have hil : i < ops.size := (Array.getElem?_eq_some_iff.1 hoi).1
          by_cases e : j = i
          · subst e
            simp [Array.getD_eq_getD_getElem?, hjlt] at hun
          · have h8 := (allL (j - i) i (by omega)).resolve_right (by omega)
            rw [getD_set_ne true e] at hun
            simp [Array.getD_eq_getD_getElem?, h8] at hun
        have h2 : Behind P o Q .normal a w := by
          unfold wpOp at h1
          rw [idle_get ho, if_pos rfl] at h1
          have hw : Region.wanted (idle o) (yielded (ops.setIfInBounds j (idle o)) a.tmps) = true := by simp [Region.wanted, idle, hg]
          simp only [hw, if_true] at h1
          rcases h1 with h1 | ⟨h1, _⟩
          · have h9 : wpAny P .any (ops.setIfInBounds j (idle o)) (Behind P o Q) fuel (listed.setIfInBounds j true) (a.put none undef) w := by
              simpa [Oper.wp, idle, execOp, Act.eval, Oper.upon, hd] using h1
            have hr2 : Region.ready .any (ops.setIfInBounds j (idle o)) (listed.setIfInBounds j true) = [] := List.eq_nil_iff_forall_not_mem.2 fun i hi => by
              have := (idle_ready ho (listed.setIfInBounds j true) i).1 hi
              rw [hdone] at this
              cases this
            cases fuel with
            | zero => exact h9.2
            | succ f => exact h9.1 hr2
          · have h8 : noRoomEvent ∈ Sem.events P (pure (Next.value (a.eval (Operand.const undef)))) w #[] := by simpa [Oper.asks, idle, execOp] using h1
            rw [show Sem.events P (pure (Next.value (a.eval (Operand.const undef)))) w #[] = #[] from rfl] at h8
            simp at h8
        unfold wpOp
        rw [ho]
        have hw : Region.wanted o (yielded ops a.tmps) = true := by simp [Region.wanted, hg]
        simp only [hw, if_true]
        exact .inl (h2 _ (fun a' w' q => wpAny_done hdone q fuel))
      · unfold wpOp at h1 ⊢
        rw [idle_get ho, if_neg hjn, hoj, idle_yielded ho] at h1
        rw [hoj]
        have hs' : (listed.setIfInBounds j true).size = ops.size := by rw [Array.size_setIfInBounds]; exact hs
        have hn' : (listed.setIfInBounds j true)[n]? = some false := by rw [Array.getElem?_setIfInBounds_ne hjn]; exact hn
        have hc' : ∀ (k : Nat) (o : Oper), ops[k]? = some o → (listed.setIfInBounds j true)[k]? = some true → ∀ e ∈ o.after, Region.binds .any e = true → (listed.setIfInBounds j true)[e.on]? = some true := by
          intro k ok hok hk e he hb
          have old : listed[e.on]? = some true → (listed.setIfInBounds j true)[e.on]? = some true := fun h => by
            rw [Array.getElem?_setIfInBounds]
            by_cases x : j = e.on
            · rw [if_pos x, if_pos hjlt]
            · rw [if_neg x]; exact h
          by_cases x : j = k
          · subst x
            rw [hoj] at hok
            obtain rfl := Option.some.inj hok
            have h5 := hall e he hb
            refine old ?_
            rcases Nat.lt_or_ge e.on listed.size with h | h
            · simpa [Array.getD_eq_getD_getElem?, Array.getElem?_eq_getElem h] using h5
            · simp [Array.getD_eq_getD_getElem?, Array.getElem?_eq_none h] at h5
          · rw [Array.getElem?_setIfInBounds_ne x] at hk
            exact old (hc k ok hok hk e he hb)
        by_cases hw : Region.wanted oj (yielded ops a.tmps) = true
        · simp only [hw, if_true] at h1 ⊢
          rcases h1 with h1 | ⟨h1, h2⟩
          · exact .inl (Oper.wp_mono (fun a' w' q => ih _ a' w' hs' hn' hc' q) (wp_behind h1))
          · exact .inr ⟨h1, h2⟩
        · simp only [hw] at h1 ⊢
          exact ih _ _ w hs' hn' hc' h1
end
theorem takeIn {P : Program} {md : Region.Mode} {ops : Array Oper} {Q : Exit → Act → World → Prop} {S : World → Prop} (i : Nat) {oi : Oper} {v : Value} {fuel : Nat} {listed : Array Bool} {a : Act} {w : World} (hi : ops.toList[i]? = some oi)
    (hs : Region.noSelect ops = true) (hf : Region.free md ops listed i = true) (hr : (Region.ready md ops listed).contains i = true)
    (hQ : ∀ c a w, Q (.panic c) (a.put oi.dst v) w → Q (.panic c) a w) (hg : oi.guard = none) (hy : ∀ w, S w → (execOp a.eval oi).run P w = .ok (.value v) w) (hS : S w)
    (h : wpAnyH P md ops Q S fuel (listed.setIfInBounds i true) (a.put oi.dst v) w) : wpAnyH P md ops Q S (fuel + 1) listed a w :=
  wpAnyH_take (by rw [← Array.getElem?_toList]; exact hi) hs hf hr hQ (.inl ⟨by simp [Region.wanted, hg], hy⟩) hS h
theorem stepIn {P : Program} {md : Region.Mode} {ops : Array Oper} {Q : Exit → Act → World → Prop} {S : World → Prop} (i : Nat) {oi : Oper} {fuel : Nat} {listed : Array Bool} {a : Act} {w : World} (hi : ops.toList[i]? = some oi) (hr : Region.ready md ops listed = [i])
    (h : ∀ K' : Act → World → Prop, Shut (∀ a w, S w → (S w → wpAnyH P md ops Q S fuel (listed.setIfInBounds i true) a w) → K' a w) → if Region.wanted oi (yielded ops a.tmps) = true then Oper.wp P oi a w K' Q else K' (a.put oi.dst undef) w) : wpAnyH P md ops Q S (fuel + 1) listed a w :=
  wpAnyH_ready hr (by simp) (AllReadyH.cons (by rw [← Array.getElem?_toList]; exact hi) h AllReadyH.nil)
theorem wp_region_last {P : Program} {id : Nat} {ops : Array Oper} {Q : Exit → Act → World → Prop} {a : Act} {w : World} (n : Nat) {o : Oper} (hx : ops.toList[n]? = some o) (hl : lastOk ops n = true) (hd : o.dst = none) (hg : o.guard = none) (hm : P.follows .mixedOrders = true)
    (h : ∀ ops', ops' = ops.setIfInBounds n (idle o) → wpAny P .any ops' (Behind P o Q) ops'.size (Array.replicate ops'.size false) a w.drew) : (Code.region id ops true).wp P Q a w := by
  have ho : ops[n]? = some o := by rw [← Array.getElem?_toList]; exact hx
  refine wp_region_any hm ?_
  have h1 := h _ rfl
  rw [Array.size_setIfInBounds] at h1
  have hn := (Array.getElem?_eq_some_iff.1 ho).1
  refine wpAny_last ho hl hd hg _ _ a _ (by simp) ?_ ?_ h1
  · rw [Array.getElem?_replicate, if_pos hn]
  · intro k ok _ hk
    rw [Array.getElem?_replicate] at hk
    split at hk <;> cases hk
end Go.Proofs.YtfoomgdlbkjaeaaGreat
