/-
  fitsKind: the region that takes a row of the table (mkc3.py)
-/
import Derived.Orders
import Derived.OrdersHeld
import Derived.Deep.RegionHeld
import Derived.RegionTactic
import Derived.WalkKit
import Derived.Test.YtmkkcgkakomacaaGreatZPhiG
namespace Go.Proofs.YtmkkcgkakomacaaGreat
open Go
def lastOk (ops : Array Oper) (n : Nat) : Bool :=
  n + 1 == ops.size &&
  ((List.range n).all fun j => (List.range (n + 1)).any fun k => decide (j < k) && (ops[k]?.map fun o => o.after.toList.any fun e => Region.binds .any e && e.on == j).getD false) &&
  ((List.range (n + 1)).all fun k => (ops[k]?.map fun o => o.after.toList.all fun e => decide (e.on < k)).getD false)
def idle (o : Oper) : Oper := { o with op := .move (.const undef) }
def Behind (P : Program) (o : Oper) (Q : Exit → Act → World → Prop) : Exit → Act → World → Prop
  | .normal, a, w => ∀ K : Act → World → Prop, (∀ a w, Q .normal a w → K a w) → o.wp P a w K Q
  | e, a, w => Q e a w
section
variable {P : Program} {ops : Array Oper} {Q : Exit → Act → World → Prop} {n : Nat} {o : Oper}
theorem lastOk_spec (h : lastOk ops n = true) : n + 1 = ops.size ∧ (∀ j, j < n → ∃ (k : Nat) (o : Oper), j < k ∧ k ≤ n ∧ ops[k]? = some o ∧ ∃ e ∈ o.after, Region.binds .any e = true ∧ e.on = j) ∧ ∀ (k : Nat) (o : Oper), ops[k]? = some o → ∀ e ∈ o.after, e.on < k := by
  unfold lastOk at h
  simp only [Bool.and_eq_true, beq_iff_eq, List.all_eq_true, List.mem_range, List.any_eq_true, decide_eq_true_eq] at h
  obtain ⟨⟨h1, h2⟩, h3⟩ := h
  refine ⟨h1, fun j hj => ?_, fun k o ho e he => ?_⟩
  · obtain ⟨k, hk, hjk, hx⟩ := h2 j hj
    cases ho : ops[k]? with
    | none => rw [ho] at hx; cases hx
    | some o =>
      rw [ho] at hx
      simp only [Option.map_some, Option.getD_some, List.any_eq_true, Bool.and_eq_true, beq_iff_eq] at hx
      obtain ⟨e, he, hb, hon⟩ := hx
      exact ⟨k, o, hjk, by omega, ho, e, by simpa using he, hb, hon⟩
  · have hk : k < n + 1 := by rw [h1]; exact (Array.getElem?_eq_some_iff.1 ho).1
    have hx := h3 k hk
    rw [ho] at hx
    simp only [Option.map_some, Option.getD_some, List.all_eq_true, decide_eq_true_eq] at hx
    exact hx e (by simpa using he)
theorem idle_get (ho : ops[n]? = some o) (j : Nat) : (ops.setIfInBounds n (idle o))[j]? = if j = n then some (idle o) else ops[j]? := by
  have hn := (Array.getElem?_eq_some_iff.1 ho).1
  rw [Array.getElem?_setIfInBounds]
  by_cases e : n = j
  · subst e; simp [hn]
  · rw [if_neg e, if_neg (fun x => e x.symm)]
theorem idle_yielded (ho : ops[n]? = some o) (t : Array Value) : yielded (ops.setIfInBounds n (idle o)) t = yielded ops t := by
  funext j
  unfold yielded
  rw [idle_get ho]
  by_cases e : j = n
  · subst e; rw [if_pos rfl, ho]; rfl
  · rw [if_neg e]
theorem idle_ready (ho : ops[n]? = some o) (listed : Array Bool) (j : Nat) : j ∈ Region.ready .any (ops.setIfInBounds n (idle o)) listed ↔ j ∈ Region.ready .any ops listed := by
  rw [mem_ready, mem_ready]
  refine and_congr_right fun _ => ?_
  rw [idle_get ho]
  by_cases e : j = n
  · subst e
    rw [if_pos rfl, ho]
    constructor
    · rintro ⟨x, hx, h⟩; obtain rfl := Option.some.inj hx; exact ⟨o, rfl, h⟩
    · rintro ⟨x, hx, h⟩; obtain rfl := Option.some.inj hx; exact ⟨idle o, rfl, h⟩
  · rw [if_neg e]
theorem wp_behind {x : Oper} {a : Act} {w : World} {K : Act → World → Prop} (h : x.wp P a w K (Behind P o Q)) : x.wp P a w K Q := by
  unfold Oper.wp at *
  generalize (execOp a.eval x).run P w = r at *
  cases r with
  | ok n w' =>
    cases n <;> simp only [Oper.upon] at h ⊢ <;>
      first
        | exact h
        | exact Calls.mono h (fun e w'' he => by cases e <;> exact he)
  | halt y w' => cases y <;> simp only [Oper.upon] at h ⊢ <;> exact h
theorem wpAny_last (ho : ops[n]? = some o) (hl : lastOk ops n = true) (hd : o.dst = none) (hg : o.guard = none) : ∀ (fuel : Nat) (listed : Array Bool) (a : Act) (w : World), listed.size = ops.size → listed[n]? = some false → (∀ (k : Nat) (o : Oper), ops[k]? = some o → listed[k]? = some true → ∀ e ∈ o.after, Region.binds .any e = true → listed[e.on]? = some true) →
    wpAny P .any (ops.setIfInBounds n (idle o)) (Behind P o Q) fuel listed a w → wpAny P .any ops Q fuel listed a w := by
  obtain ⟨s1, s2, s3⟩ := lastOk_spec hl
  -- some one is ready
  have some_ready : ∀ listed : Array Bool, listed.size = ops.size → listed[n]? = some false → ∃ j, j ∈ Region.ready .any ops listed := by
    intro listed hs hn
    have key : ∀ m, (∃ j, j ∈ Region.ready .any ops listed) ∨ ∀ j, j < m → j ≤ n → listed[j]? = some true := by
      intro m
      induction m with
      | zero => exact .inr fun j hj => absurd hj (Nat.not_lt_zero _)
      | succ m ih =>
        rcases ih with ih | ih
        · exact .inl ih
        · by_cases hm : m ≤ n
          · have hlt : m < listed.size := by omega
            have hlo : m < ops.size := by omega
            cases hb : listed[m]? with
            | none => rw [Array.getElem?_eq_none_iff] at hb; omega
            | some b =>
              cases b with
              | true =>
                refine .inr fun j hj hjn => ?_
                rcases Nat.lt_or_ge j m with h | h
                · exact ih j h hjn
                · obtain rfl : j = m := by omega
                  exact hb
              | false =>
                refine .inl ⟨m, mem_ready.2 ⟨by simp [Array.getD_eq_getD_getElem?, hb], ops[m], Array.getElem?_eq_getElem hlo, fun e he _ => ?_⟩⟩
                have h4 := s3 m _ (Array.getElem?_eq_getElem hlo) e he
                have h5 := ih e.on h4 (by omega)
                simp [Array.getD_eq_getD_getElem?, h5]
          · exact .inr fun j hj hjn => ih j (by omega) hjn
    rcases key (n + 1) with h | h
    · exact h
    · have := h n (by omega) (Nat.le_refl _); rw [hn] at this; cases this
  intro fuel
  induction fuel with
  | zero =>
    intro listed a w hs hn hc H
    obtain ⟨j, hj⟩ := some_ready listed hs hn
    have h1 := (idle_ready ho listed j).2 hj
    rw [H.1] at h1
    cases h1
  | succ fuel ih =>
    intro listed a w hs hn hc H
    refine ⟨fun h => ?_, fun j hj => ?_⟩
    · obtain ⟨j, hj⟩ := some_ready listed hs hn
      rw [h] at hj
      cases hj
    · have h1 := H.2 j ((idle_ready ho listed j).2 hj)
      obtain ⟨hjun, oj, hoj, hall⟩ := mem_ready.1 hj
      have hjlt : j < listed.size := by rw [hs]; exact (Array.getElem?_eq_some_iff.1 hoj).1
      by_cases hjn : j = n
      · subst hjn
        rw [ho] at hoj
        obtain rfl := Option.some.inj hoj
        -- all others are listed
        have allL : ∀ d i, i + d = j → listed[i]? = some true ∨ d = 0 := by
          intro d
          induction d using Nat.strongRecOn with
          | _ d ihd =>
            intro i hi
            rcases Nat.eq_zero_or_pos d with h0 | h0
            · exact .inr h0
            · obtain ⟨k, ok, hik, hkj, hok, e, he, hb, hon⟩ := s2 i (by omega)
              left
              by_cases hkj2 : k = j
              · subst hkj2
                rw [ho] at hok
                obtain rfl := Option.some.inj hok
                have h5 := hall e he hb
                rw [hon] at h5
                have hi2 : i < listed.size := by omega
                simpa [Array.getD_eq_getD_getElem?, Array.getElem?_eq_getElem hi2] using h5
              · have h6 := (ihd (j - k) (by omega) k (by omega)).resolve_right (by omega)
                have h7 := hc k ok hok h6 e he hb
                rw [hon] at h7
                exact h7
        have hdone : Region.ready .any ops (listed.setIfInBounds j true) = [] := by
          refine List.eq_nil_iff_forall_not_mem.2 fun i hi => ?_
          obtain ⟨hun, oi, hoi, _⟩ := mem_ready.1 hi
          have hil : i < ops.size := (Array.getElem?_eq_some_iff.1 hoi).1
          by_cases e : j = i
          · subst e
            simp [Array.getD_eq_getD_getElem?, hjlt] at hun
          · have h8 := (allL (j - i) i (by omega)).resolve_right (by omega)
            rw [getD_set_ne true e] at hun
            simp [Array.getD_eq_getD_getElem?, h8] at hun
        have h2 : Behind P o Q .normal a w := by
          unfold wpOp at h1
          rw [idle_get ho, if_pos rfl] at h1
          have hw : Region.wanted (idle o) (yielded (ops.setIfInBounds j (idle o)) a.tmps) = true := by simp [Region.wanted, idle, hg]
          simp only [hw, if_true] at h1
          rcases h1 with h1 | ⟨h1, _⟩
          · have h9 : wpAny P .any (ops.setIfInBounds j (idle o)) (Behind P o Q) fuel (listed.setIfInBounds j true) (a.put none undef) w := by
              simpa [Oper.wp, idle, execOp, Act.eval, Oper.upon, hd] using h1
            have hr2 : Region.ready .any (ops.setIfInBounds j (idle o)) (listed.setIfInBounds j true) = [] := List.eq_nil_iff_forall_not_mem.2 fun i hi => by
              have := (idle_ready ho (listed.setIfInBounds j true) i).1 hi
              rw [hdone] at this
              cases this
            cases fuel with
            | zero => exact h9.2
            | succ f => exact h9.1 hr2
          · have h8 : noRoomEvent ∈ Sem.events P (pure (Next.value (a.eval (Operand.const undef)))) w #[] := by simpa [Oper.asks, idle, execOp] using h1
            rw [show Sem.events P (pure (Next.value (a.eval (Operand.const undef)))) w #[] = #[] from rfl] at h8
            simp at h8
        unfold wpOp
        rw [ho]
        have hw : Region.wanted o (yielded ops a.tmps) = true := by simp [Region.wanted, hg]
        simp only [hw, if_true]
        exact .inl (h2 _ (fun a' w' q => wpAny_done hdone q fuel))
      · unfold wpOp at h1 ⊢
        rw [idle_get ho, if_neg hjn, hoj, idle_yielded ho] at h1
        rw [hoj]
        have hs' : (listed.setIfInBounds j true).size = ops.size := by rw [Array.size_setIfInBounds]; exact hs
        have hn' : (listed.setIfInBounds j true)[n]? = some false := by rw [Array.getElem?_setIfInBounds_ne hjn]; exact hn
        have hc' : ∀ (k : Nat) (o : Oper), ops[k]? = some o → (listed.setIfInBounds j true)[k]? = some true → ∀ e ∈ o.after, Region.binds .any e = true → (listed.setIfInBounds j true)[e.on]? = some true := by
          intro k ok hok hk e he hb
          have old : listed[e.on]? = some true → (listed.setIfInBounds j true)[e.on]? = some true := fun h => by
            rw [Array.getElem?_setIfInBounds]
            by_cases x : j = e.on
            · rw [if_pos x, if_pos hjlt]
            · rw [if_neg x]; exact h
          by_cases x : j = k
          · subst x
            rw [hoj] at hok
            obtain rfl := Option.some.inj hok
            have h5 := hall e he hb
            refine old ?_
            rcases Nat.lt_or_ge e.on listed.size with h | h
            · simpa [Array.getD_eq_getD_getElem?, Array.getElem?_eq_getElem h] using h5
            · simp [Array.getD_eq_getD_getElem?, Array.getElem?_eq_none h] at h5
          · rw [Array.getElem?_setIfInBounds_ne x] at hk
            exact old (hc k ok hok hk e he hb)
        by_cases hw : Region.wanted oj (yielded ops a.tmps) = true
        · simp only [hw, if_true] at h1 ⊢
          rcases h1 with h1 | ⟨h1, h2⟩
          · exact .inl (Oper.wp_mono (fun a' w' q => ih _ a' w' hs' hn' hc' q) (wp_behind h1))
          · exact .inr ⟨h1, h2⟩
        · simp only [hw] at h1 ⊢
          exact ih _ _ w hs' hn' hc' h1
end
theorem takeIn {P : Program} {md : Region.Mode} {ops : Array Oper} {Q : Exit → Act → World → Prop} {S : World → Prop} (i : Nat) {oi : Oper} {v : Value} {fuel : Nat} {listed : Array Bool} {a : Act} {w : World} (hi : ops.toList[i]? = some oi)
    (hs : Region.noSelect ops = true) (hf : Region.free md ops listed i = true) (hr : (Region.ready md ops listed).contains i = true)
    (hQ : ∀ c a w, Q (.panic c) (a.put oi.dst v) w → Q (.panic c) a w) (hg : oi.guard = none) (hy : ∀ w, S w → (execOp a.eval oi).run P w = .ok (.value v) w) (hS : S w)
    (h : wpAnyH P md ops Q S fuel (listed.setIfInBounds i true) (a.put oi.dst v) w) : wpAnyH P md ops Q S (fuel + 1) listed a w :=
  wpAnyH_take (by rw [← Array.getElem?_toList]; exact hi) hs hf hr hQ (.inl ⟨by simp [Region.wanted, hg], hy⟩) hS h
theorem stepIn {P : Program} {md : Region.Mode} {ops : Array Oper} {Q : Exit → Act → World → Prop} {S : World → Prop} (i : Nat) {oi : Oper} {fuel : Nat} {listed : Array Bool} {a : Act} {w : World} (hi : ops.toList[i]? = some oi) (hr : Region.ready md ops listed = [i])
    (h : ∀ K' : Act → World → Prop, Shut (∀ a w, S w → (S w → wpAnyH P md ops Q S fuel (listed.setIfInBounds i true) a w) → K' a w) → if Region.wanted oi (yielded ops a.tmps) = true then Oper.wp P oi a w K' Q else K' (a.put oi.dst undef) w) : wpAnyH P md ops Q S (fuel + 1) listed a w :=
  wpAnyH_ready hr (by simp) (AllReadyH.cons (by rw [← Array.getElem?_toList]; exact hi) h AllReadyH.nil)
theorem wp_region_last {P : Program} {id : Nat} {ops : Array Oper} {Q : Exit → Act → World → Prop} {a : Act} {w : World} (n : Nat) {o : Oper} (hx : ops.toList[n]? = some o) (hl : lastOk ops n = true) (hd : o.dst = none) (hg : o.guard = none) (hm : P.follows .mixedOrders = true)
    (h : ∀ ops', ops' = ops.setIfInBounds n (idle o) → wpAny P .any ops' (Behind P o Q) ops'.size (Array.replicate ops'.size false) a w.drew) : (Code.region id ops true).wp P Q a w := by
  have ho : ops[n]? = some o := by rw [← Array.getElem?_toList]; exact hx
  refine wp_region_any hm ?_
  have h1 := h _ rfl
  rw [Array.size_setIfInBounds] at h1
  have hn := (Array.getElem?_eq_some_iff.1 ho).1
  refine wpAny_last ho hl hd hg _ _ a _ (by simp) ?_ ?_ h1
  · rw [Array.getElem?_replicate, if_pos hn]
  · intro k ok _ hk
    rw [Array.getElem?_replicate] at hk
    split at hk <;> cases hk
end Go.Proofs.YtmkkcgkakomacaaGreat
namespace Go.Proofs.YtmkkcgkakomacaaGreat
open Go.RowKit
set_option maxHeartbeats 8000000
set_option maxRecDepth 100000
attribute [local go_sem ↓] Go.wp_at_zero Go.wp_at_succ
set_option linter.unusedSimpArgs false
set_option linter.unusedVariables false
def CM.cells (c : CM) : Array Value := #[.int .i64 c.kind, .string c.topic, .string c.name, .int .i64 c.seq, .string c.key, .string c.val, .int .i64 c.n, .int .i64 c.node, .int .i64 c.ask]
def CM.v (c : CM) : Value := .agg c.cells
structure CM.ok (c : CM) : Prop where
  t : c.topic.size ≤ 9223372036854775807
  m : c.name.size ≤ 9223372036854775807
  y : c.key.size ≤ 9223372036854775807
  v : c.val.size ≤ 9223372036854775807
theorem frame_fk (t : Array Value) (h : t.size = 56) : ∃ u : Nat → Value, t = List.toArray (u 0 :: u 1 :: u 2 :: u 3 :: u 4 :: u 5 :: u 6 :: u 7 :: u 8 :: u 9 :: u 10 :: u 11 :: u 12 :: u 13 :: u 14 :: u 15 :: u 16 :: u 17 :: u 18 :: u 19 :: u 20 :: u 21 :: u 22 :: u 23 :: u 24 :: u 25 :: u 26 :: u 27 :: u 28 :: u 29 :: u 30 :: u 31 :: u 32 :: u 33 :: u 34 :: u 35 :: u 36 :: u 37 :: u 38 :: u 39 :: u 40 :: u 41 :: u 42 :: u 43 :: u 44 :: u 45 :: u 46 :: u 47 :: u 48 :: u 49 :: u 50 :: u 51 :: u 52 :: u 53 :: u 54 :: u 55 :: []) := by
  refine ⟨fun i => t.getD i undef, ?_⟩
  refine Eq.trans (b := ((List.range 56).map fun i => t.getD i undef).toArray) ?_ rfl
  apply Array.ext
  · simp [h]
  · intro k h1 h2
    simp [Array.getD, h1]
structure Vfk where
  v1 : Value
  v2 : Value
  v3 : Value
structure Ffk (a : Act) (v : Vfk) : Prop where
  size : a.tmps.size = 56
  defers : a.defers = []
  s1 : a.tmps.getD 1 undef = v.v1
  s2 : a.tmps.getD 2 undef = v.v2
  s3 : a.tmps.getD 3 undef = v.v3
theorem frx_fk {a : Act} {v1 v2 v3 : Value} (h : Ffk a ⟨v1, v2, v3⟩) : ∃ u : Nat → Value, a = ⟨List.toArray (u 0 :: v1 :: v2 :: v3 :: u 4 :: u 5 :: u 6 :: u 7 :: u 8 :: u 9 :: u 10 :: u 11 :: u 12 :: u 13 :: u 14 :: u 15 :: u 16 :: u 17 :: u 18 :: u 19 :: u 20 :: u 21 :: u 22 :: u 23 :: u 24 :: u 25 :: u 26 :: u 27 :: u 28 :: u 29 :: u 30 :: u 31 :: u 32 :: u 33 :: u 34 :: u 35 :: u 36 :: u 37 :: u 38 :: u 39 :: u 40 :: u 41 :: u 42 :: u 43 :: u 44 :: u 45 :: u 46 :: u 47 :: u 48 :: u 49 :: u 50 :: u 51 :: u 52 :: u 53 :: u 54 :: u 55 :: []), []⟩ := by
  obtain ⟨t', d'⟩ := a
  obtain ⟨hs, hd, q1, q2, q3⟩ := h
  obtain ⟨u, hu⟩ := frame_fk t' hs
  simp only at hd q1 q2 q3
  subst hu hd
  have e1 : u 1 = v1 := q1
  have e2 : u 2 = v2 := q2
  have e3 : u 3 = v3 := q3
  refine ⟨u, ?_⟩
  rw [e1, e2, e3]
theorem fk_r3 {K : Act → World → Prop} {c : Code} (hc : regOf (Tryz.f58.body.getD .skip) 3 = some c) (a : Act) {v : Vfk} {wq : World} {cm : CM} {cb f0 f1 f2 f3 f4 f5 : Nat} (hF : Ffk a v) (h1v : v.v1 = .pointer (some ⟨cb, 0, none⟩)) (hC : wq.heap[cb]? = some (.cells cm.cells 54 (0, 0))) (hI : ∀ w, (Instr.index 131 (.agg needsA) (.int .i64 cm.kind)).run Tryz.prog w = .ok (.agg #[fnV f0, fnV f1, fnV f2, fnV f3, fnV f4, fnV f5]) w)
    (hQ : ∀ a' w' b3, Ffk a' { v with v3 := .pointer (some ⟨b3, 0, none⟩) } → w'.heap[b3]? = some (.cells #[fnV f0, fnV f1, fnV f2, fnV f3, fnV f4, fnV f5] tNeeds (0, 0)) → Below wq.heap.size wq w' → K a' w') :
    Code.wp Tryz.prog c (Exit.then K fun _ _ _ => False) a wq := by
  have HQ := hide hQ
  clear hQ
  obtain ⟨v1, v2, v3⟩ := v
  simp only at h1v HQ
  subst h1v
  obtain ⟨u, rfl⟩ := frx_fk hF
  clear hF
  simp only [Tryz.f58, Option.getD_some, regOf] at hc
  injection hc with hc
  subst hc
  have HI : Hid (∀ w, (Instr.index 131 (.agg needsA) (.int .i64 cm.kind)).run Tryz.prog w = .ok (.agg #[fnV f0, fnV f1, fnV f2, fnV f3, fnV f4, fnV f5]) w) := hI
  clear hI
  refine wp_region_last 5 rfl (by kernel_rfl) rfl rfl (by kernel_rfl) ?_
  intro ops' hops'
  simp only [idle, List.setIfInBounds_toArray, List.set_cons_succ, List.set_cons_zero] at hops'
  subst hops'
  refine wpAny_phi (ns := 56) (uses := (fun i => match i with | 0 => [12] | 1 => [13] | 2 => [14] | 3 => [15] | 4 => [3] | 5 => [] | _ => [])) (by kernel_rfl) (by kernel_rfl) (fun _ w w' => Below w.heap.size w w') (fun w => Below wq.heap.size wq w) (fun _ _ _ h r => h.trans (r.mono h.size)) ((Below.refl _ _).drew) (fun i => match i with | 0 => fun s w => s 12 = .agg needsA | 1 => fun s w => s 13 = .pointer (some ⟨cb, 0, none⟩) | 2 => fun s w => s 14 = .int .i64 cm.kind | 3 => fun s w => s 15 = .agg #[fnV f0, fnV f1, fnV f2, fnV f3, fnV f4, fnV f5] | 4 => fun s w => ∃ b3, s 3 = .pointer (some ⟨b3, 0, none⟩) ∧ wq.heap.size ≤ b3 ∧ w.heap[b3]? = some (.cells #[.nilFunc, .nilFunc, .nilFunc, .nilFunc, .nilFunc, .nilFunc] tNeeds (0, 0)) | 5 => fun s w => True | _ => fun _ _ => True) ?phc ?phh ?pstep ?pdone
  case phc =>
    intro i s s' w hx h
    match i, hx, h with
    | 0, hx, h =>
      have e12 := hx 12 (by simp)
      first | exact (show _ from by simp only [← e12] at *; exact h) | (simp only [e12] at h; exact h)
    | 1, hx, h =>
      have e13 := hx 13 (by simp)
      first | exact (show _ from by simp only [← e13] at *; exact h) | (simp only [e13] at h; exact h)
    | 2, hx, h =>
      have e14 := hx 14 (by simp)
      first | exact (show _ from by simp only [← e14] at *; exact h) | (simp only [e14] at h; exact h)
    | 3, hx, h =>
      have e15 := hx 15 (by simp)
      first | exact (show _ from by simp only [← e15] at *; exact h) | (simp only [e15] at h; exact h)
    | 4, hx, h =>
      have e3 := hx 3 (by simp)
      first | exact (show _ from by simp only [← e3] at *; exact h) | (simp only [e3] at h; exact h)
    | 5, hx, h =>
      exact h
    | (n + 6), _, h => exact h
  case phh =>
    intro i j s w w' hij h hb r
    match i, hij, h with
    | 0, hij, h =>
      exact h
    | 1, hij, h =>
      exact h
    | 2, hij, h =>
      exact h
    | 3, hij, h =>
      exact h
    | 4, hij, h =>
      obtain ⟨b3, h1, h2, h3⟩ := h
      exact ⟨b3, h1, h2, (r.block _ (heap_lt h3)).trans h3⟩
    | 5, hij, h =>
      exact h
    | (n + 6), _, h => exact h
  case pstep =>
    intro i o ho a' w' hsa hb hd
    match i, ho with
    | 0, ho =>
      obtain rfl := Option.some.inj ho
      try dsimp only at hd
      refine wpOp_of rfl rfl ?_
      refine op_call 83 _ _ rfl (enters_of Tryz.func83 (by kernel_rfl) rfl) [] (by simp only [List.map, Act.eval]) (pneeds w') ?_
      rintro e w'' ⟨rfl, b2⟩
      refine ⟨_, rfl, _, rfl, ?_, ?_⟩
      · try dsimp only
        exact (slots_put (ns := 56) (hsa.size.trans rfl) (by decide))
      · exact b2
    | 1, ho =>
      obtain rfl := Option.some.inj ho
      try dsimp only at hd
      have g1 : a'.tmps.getD 1 undef = .pointer (some ⟨cb, 0, none⟩) := hsa.rest 1 (by rfl)
      refine wpOp_of rfl rfl ?_
      refine op_run (v := .pointer (some ⟨cb, 0, none⟩)) (w' := w') ?_ ⟨_, rfl, ?_, ?_⟩
      · simp only [execOp, Act.eval, List.map_toArray, List.map_cons, List.map_nil, g1]; first | (go_simp; done) | rfl
      · try dsimp only
        exact (slots_put (ns := 56) (hsa.size.trans rfl) (by decide))
      · exact Below.refl _ _
    | 2, ho =>
      obtain rfl := Option.some.inj ho
      try dsimp only at hd
      have d1 : a'.tmps.getD 13 undef = .pointer (some ⟨cb, 0, none⟩) := hd 1 (by rfl)
      have y0 : w'.cell? ⟨cb, 0, none⟩ = some (.int .i64 cm.kind) := (hb.cell (p := ⟨cb, 0, none⟩) (heap_lt hC)).trans (box_cell hC 0 rfl)
      refine wpOp_of rfl rfl ?_
      refine op_run (v := .int .i64 cm.kind) (w' := w') ?_ ⟨_, rfl, ?_, ?_⟩
      · simp only [execOp, Act.eval, List.map_toArray, List.map_cons, List.map_nil, d1, y0]; first | (go_simp; done) | rfl
      · try dsimp only
        exact (slots_put (ns := 56) (hsa.size.trans rfl) (by decide))
      · exact Below.refl _ _
    | 3, ho =>
      obtain rfl := Option.some.inj ho
      try dsimp only at hd
      have d0 : a'.tmps.getD 12 undef = .agg needsA := hd 0 (by rfl)
      have d2 : a'.tmps.getD 14 undef = .int .i64 cm.kind := hd 2 (by rfl)
      refine wpOp_of rfl rfl ?_
      refine op_run (v := .agg #[fnV f0, fnV f1, fnV f2, fnV f3, fnV f4, fnV f5]) (w' := w') ?_ ⟨_, rfl, ?_, ?_⟩
      · simp only [execOp, Act.eval, d0, d2, Sem.run_bind, HI.out, Result.andThen]; rfl
      · try dsimp only
        exact (slots_put (ns := 56) (hsa.size.trans rfl) (by decide))
      · exact Below.refl _ _
    | 4, ho =>
      obtain rfl := Option.some.inj ho
      try dsimp only at hd
      refine wpOp_of rfl rfl ?_
      refine op_run (v := Value.pointer (some ⟨w'.heap.size, 0, none⟩)) (w' := w'.alloc (.cells #[.nilFunc, .nilFunc, .nilFunc, .nilFunc, .nilFunc, .nilFunc] tNeeds)) ?_ ⟨_, rfl, ?_, ?_⟩
      · simp only [execOp, Act.eval, List.map_toArray, List.map_cons, List.map_nil]; first | (go_simp; done) | rfl
      · try dsimp only
        exact ⟨_, (slots_put (ns := 56) (hsa.size.trans rfl) (by decide)), hb.size, heap_alloc_new _ _⟩
      · exact (Below.refl _ _).alloc (Nat.le_refl _) _
    | 5, ho =>
      obtain rfl := Option.some.inj ho
      try dsimp only at hd
      refine wpOp_of rfl rfl ?_
      refine op_run (v := undef) (w' := w') ?_ ⟨_, rfl, ?_, ?_⟩
      · rfl
      · try dsimp only
        trivial
      · exact Below.refl _ _
    | (n + 6), ho => exact absurd ho (by simp)
  case pdone =>
    intro a' w' hsa hb hd
    have d0 : a'.tmps.getD 12 undef = .agg needsA := hd 0 (by decide)
    have d1 : a'.tmps.getD 13 undef = .pointer (some ⟨cb, 0, none⟩) := hd 1 (by decide)
    have d2 : a'.tmps.getD 14 undef = .int .i64 cm.kind := hd 2 (by decide)
    have d3 : a'.tmps.getD 15 undef = .agg #[fnV f0, fnV f1, fnV f2, fnV f3, fnV f4, fnV f5] := hd 3 (by decide)
    have d4 : ∃ b3, a'.tmps.getD 3 undef = .pointer (some ⟨b3, 0, none⟩) ∧ wq.heap.size ≤ b3 ∧ w'.heap[b3]? = some (.cells #[.nilFunc, .nilFunc, .nilFunc, .nilFunc, .nilFunc, .nilFunc] tNeeds (0, 0)) := hd 4 (by decide)
    have d5 : True := hd 5 (by decide)
    obtain ⟨b3, d4, h2, h3⟩ := d4
    intro K2 hK2
    have q0 := box_cell h3 0 rfl
    have z0 := box_free h3 0
    have q1 := box_cell h3 1 rfl
    have z1 := box_free h3 1
    have q2 := box_cell h3 2 rfl
    have z2 := box_free h3 2
    have q3 := box_cell h3 3 rfl
    have z3 := box_free h3 3
    have q4 := box_cell h3 4 rfl
    have z4 := box_free h3 4
    have q5 := box_cell h3 5 rfl
    have z5 := box_free h3 5
    refine op_skip (w' := (((((w'.setCell ⟨b3, 0, none⟩ (fnV f0)).setCell ⟨b3, 1, none⟩ (fnV f1)).setCell ⟨b3, 2, none⟩ (fnV f2)).setCell ⟨b3, 3, none⟩ (fnV f3)).setCell ⟨b3, 4, none⟩ (fnV f4)).setCell ⟨b3, 5, none⟩ (fnV f5)) ?_ (hK2 _ _ ?_)
    · simp only [execOp, Act.eval, d3, d4, fnV]
      first | (go_simp; done) | (go_simp; rfl)
    refine HQ.out _ _ b3 ⟨hsa.size.trans rfl, hsa.defers.trans rfl, hsa.rest 1 (by rfl), hsa.rest 2 (by rfl), d4⟩ ?_ ?_
    · have h9 := box_set (box_set (box_set (box_set (box_set (box_set (h3) 0 (fnV f0)) 1 (fnV f1)) 2 (fnV f2)) 3 (fnV f3)) 4 (fnV f4)) 5 (fnV f5)
      simpa using h9
    · exact ((((((hb).setCell (p := ⟨b3, 0, none⟩) h2 _).setCell (p := ⟨b3, 1, none⟩) h2 _).setCell (p := ⟨b3, 2, none⟩) h2 _).setCell (p := ⟨b3, 3, none⟩) h2 _).setCell (p := ⟨b3, 4, none⟩) h2 _).setCell (p := ⟨b3, 5, none⟩) h2 _
theorem fk_r4 {K : Act → World → Prop} {c : Code} (hc : regOf (Tryz.f58.body.getD .skip) 4 = some c) (a : Act) {v : Vfk} {wq : World} {cm : CM} {cb b3 f0 f1 f2 f3 f4 f5 : Nat} {p0 : Bool} {p1 : Bool} {p2 : Bool} {p3 : Bool} {p4 : Bool} {p5 : Bool} (hF : Ffk a v) (h1v : v.v1 = .pointer (some ⟨cb, 0, none⟩)) (h3v : v.v3 = .pointer (some ⟨b3, 0, none⟩)) (hC : wq.heap[cb]? = some (.cells cm.cells 54 (0, 0))) (hB : wq.heap[b3]? = some (.cells #[fnV f0, fnV f1, fnV f2, fnV f3, fnV f4, fnV f5] tNeeds (0, 0))) (e0 : ∀ args w, (callFunc f0 args).run Tryz.prog w = .ok (.enter f0 args) w) (H0 : ∀ w, Calls Tryz.prog f0 #[.string cm.topic] w fun e w' => e = .returned (.bool p0) ∧ w' = w) (e1 : ∀ args w, (callFunc f1 args).run Tryz.prog w = .ok (.enter f1 args) w) (H1 : ∀ w, Calls Tryz.prog f1 #[.string cm.name] w fun e w' => e = .returned (.bool p1) ∧ w' = w) (e2 : ∀ args w, (callFunc f2 args).run Tryz.prog w = .ok (.enter f2 args) w) (H2 : ∀ w, Calls Tryz.prog f2 #[.int .i64 cm.seq] w fun e w' => e = .returned (.bool p2) ∧ w' = w) (e3 : ∀ args w, (callFunc f3 args).run Tryz.prog w = .ok (.enter f3 args) w) (H3 : ∀ w, Calls Tryz.prog f3 #[.string cm.key] w fun e w' => e = .returned (.bool p3) ∧ w' = w) (e4 : ∀ args w, (callFunc f4 args).run Tryz.prog w = .ok (.enter f4 args) w) (H4 : ∀ w, Calls Tryz.prog f4 #[.string cm.val] w fun e w' => e = .returned (.bool p4) ∧ w' = w) (e5 : ∀ args w, (callFunc f5 args).run Tryz.prog w = .ok (.enter f5 args) w) (H5 : ∀ w, Calls Tryz.prog f5 #[.int .i64 cm.n] w fun e w' => e = .returned (.bool p5) ∧ w' = w)
    (hQ : ∀ a', Ffk a' { v with v2 := .bool (p0 && (p1 && (p2 && (p3 && (p4 && p5))))) } → K a' wq) :
    Code.wp Tryz.prog c (Exit.then K fun _ _ _ => False) a wq := by
  have HQ := hide hQ
  clear hQ
  obtain ⟨v1, v2, v3⟩ := v
  simp only at h1v h3v HQ
  subst h1v h3v
  obtain ⟨u, rfl⟩ := frx_fk hF
  clear hF
  simp only [Tryz.f58, Option.getD_some, regOf] at hc
  injection hc with hc
  subst hc
  have J0 := hide H0
  have y0 := box_cell hC 0 rfl
  have x0 := box_cell hB 0 rfl
  have J1 := hide H1
  have y1 := box_cell hC 1 rfl
  have x1 := box_cell hB 1 rfl
  have J2 := hide H2
  have y2 := box_cell hC 2 rfl
  have x2 := box_cell hB 2 rfl
  have J3 := hide H3
  have y3 := box_cell hC 3 rfl
  have x3 := box_cell hB 3 rfl
  have J4 := hide H4
  have y4 := box_cell hC 4 rfl
  have x4 := box_cell hB 4 rfl
  have J5 := hide H5
  have y5 := box_cell hC 5 rfl
  have x5 := box_cell hB 5 rfl
  have y6 := box_cell hC 6 rfl
  simp only [fnV] at x0 x1 x2 x3 x4 x5
  clear H0 H1 H2 H3 H4 H5 hC hB
  cases p0
  · go_wp2_with (first | (go_at_fn f0; refine (J0.out _).mono ?_; rintro e w' ⟨rfl, rfl⟩) | (go_at_fn f1; refine (J1.out _).mono ?_; rintro e w' ⟨rfl, rfl⟩) | (go_at_fn f2; refine (J2.out _).mono ?_; rintro e w' ⟨rfl, rfl⟩) | (go_at_fn f3; refine (J3.out _).mono ?_; rintro e w' ⟨rfl, rfl⟩) | (go_at_fn f4; refine (J4.out _).mono ?_; rintro e w' ⟨rfl, rfl⟩) | (go_at_fn f5; refine (J5.out _).mono ?_; rintro e w' ⟨rfl, rfl⟩))
    exact HQ.out _ ⟨rfl, rfl, rfl, rfl, rfl⟩
  · skip
    cases p1
    · go_wp2_with (first | (go_at_fn f0; refine (J0.out _).mono ?_; rintro e w' ⟨rfl, rfl⟩) | (go_at_fn f1; refine (J1.out _).mono ?_; rintro e w' ⟨rfl, rfl⟩) | (go_at_fn f2; refine (J2.out _).mono ?_; rintro e w' ⟨rfl, rfl⟩) | (go_at_fn f3; refine (J3.out _).mono ?_; rintro e w' ⟨rfl, rfl⟩) | (go_at_fn f4; refine (J4.out _).mono ?_; rintro e w' ⟨rfl, rfl⟩) | (go_at_fn f5; refine (J5.out _).mono ?_; rintro e w' ⟨rfl, rfl⟩))
      exact HQ.out _ ⟨rfl, rfl, rfl, rfl, rfl⟩
    · skip
      cases p2
      · go_wp2_with (first | (go_at_fn f0; refine (J0.out _).mono ?_; rintro e w' ⟨rfl, rfl⟩) | (go_at_fn f1; refine (J1.out _).mono ?_; rintro e w' ⟨rfl, rfl⟩) | (go_at_fn f2; refine (J2.out _).mono ?_; rintro e w' ⟨rfl, rfl⟩) | (go_at_fn f3; refine (J3.out _).mono ?_; rintro e w' ⟨rfl, rfl⟩) | (go_at_fn f4; refine (J4.out _).mono ?_; rintro e w' ⟨rfl, rfl⟩) | (go_at_fn f5; refine (J5.out _).mono ?_; rintro e w' ⟨rfl, rfl⟩))
        exact HQ.out _ ⟨rfl, rfl, rfl, rfl, rfl⟩
      · skip
        cases p3
        · go_wp2_with (first | (go_at_fn f0; refine (J0.out _).mono ?_; rintro e w' ⟨rfl, rfl⟩) | (go_at_fn f1; refine (J1.out _).mono ?_; rintro e w' ⟨rfl, rfl⟩) | (go_at_fn f2; refine (J2.out _).mono ?_; rintro e w' ⟨rfl, rfl⟩) | (go_at_fn f3; refine (J3.out _).mono ?_; rintro e w' ⟨rfl, rfl⟩) | (go_at_fn f4; refine (J4.out _).mono ?_; rintro e w' ⟨rfl, rfl⟩) | (go_at_fn f5; refine (J5.out _).mono ?_; rintro e w' ⟨rfl, rfl⟩))
          exact HQ.out _ ⟨rfl, rfl, rfl, rfl, rfl⟩
        · skip
          cases p4
          · go_wp2_with (first | (go_at_fn f0; refine (J0.out _).mono ?_; rintro e w' ⟨rfl, rfl⟩) | (go_at_fn f1; refine (J1.out _).mono ?_; rintro e w' ⟨rfl, rfl⟩) | (go_at_fn f2; refine (J2.out _).mono ?_; rintro e w' ⟨rfl, rfl⟩) | (go_at_fn f3; refine (J3.out _).mono ?_; rintro e w' ⟨rfl, rfl⟩) | (go_at_fn f4; refine (J4.out _).mono ?_; rintro e w' ⟨rfl, rfl⟩) | (go_at_fn f5; refine (J5.out _).mono ?_; rintro e w' ⟨rfl, rfl⟩))
            exact HQ.out _ ⟨rfl, rfl, rfl, rfl, rfl⟩
          · skip
            cases p5
            · go_wp2_with (first | (go_at_fn f0; refine (J0.out _).mono ?_; rintro e w' ⟨rfl, rfl⟩) | (go_at_fn f1; refine (J1.out _).mono ?_; rintro e w' ⟨rfl, rfl⟩) | (go_at_fn f2; refine (J2.out _).mono ?_; rintro e w' ⟨rfl, rfl⟩) | (go_at_fn f3; refine (J3.out _).mono ?_; rintro e w' ⟨rfl, rfl⟩) | (go_at_fn f4; refine (J4.out _).mono ?_; rintro e w' ⟨rfl, rfl⟩) | (go_at_fn f5; refine (J5.out _).mono ?_; rintro e w' ⟨rfl, rfl⟩))
              exact HQ.out _ ⟨rfl, rfl, rfl, rfl, rfl⟩
            · go_wp2_with (first | (go_at_fn f0; refine (J0.out _).mono ?_; rintro e w' ⟨rfl, rfl⟩) | (go_at_fn f1; refine (J1.out _).mono ?_; rintro e w' ⟨rfl, rfl⟩) | (go_at_fn f2; refine (J2.out _).mono ?_; rintro e w' ⟨rfl, rfl⟩) | (go_at_fn f3; refine (J3.out _).mono ?_; rintro e w' ⟨rfl, rfl⟩) | (go_at_fn f4; refine (J4.out _).mono ?_; rintro e w' ⟨rfl, rfl⟩) | (go_at_fn f5; refine (J5.out _).mono ?_; rintro e w' ⟨rfl, rfl⟩))
              exact HQ.out _ ⟨rfl, rfl, rfl, rfl, rfl⟩
end Go.Proofs.YtmkkcgkakomacaaGreat
