/-
  slices.AppendSeq and Collect of a function that goes over another one (mkqg.py)
-/
import Derived.Test.YtfcpclpaalekiaaZPN1
import Derived.RangeFuncSeq
import Derived.Test.YtfcpclpaalekiaaZPW4
import Derived.BigQuiet
import Derived.Deep.QuietTactic
import Derived.Test.YtfcpclpaalekiaaZVM
import Derived.RangeFuncNested
import Derived.RangeFuncBox
import Derived.RangeFuncCalls
import Derived.RangeFuncLeaves
namespace Go.Proofs.Ytfcpclpaalekiaa
open Go Go.RowKit
set_option linter.unusedSimpArgs false
theorem wpAnyIn_inv {F : Fence} {n : Nat} {P : Program} {md : Region.Mode} {ops : Array Oper} {Q : Exit → Act → World → Prop} (I : Array Bool → Act → World → Prop)
    (step : ∀ listed a w i, i ∈ Region.ready md ops listed → I listed a w → wpOpIn F n P ops Q i (fun a' w' => I (listed.setIfInBounds i true) a' w') a w)
    (done : ∀ listed a w, Region.ready md ops listed = [] → I listed a w → Q .normal a w) :
    ∀ (fuel : Nat) (listed : Array Bool) (a : Act) (w : World), left ops.size listed ≤ fuel → I listed a w → wpAnyIn F n P md ops Q fuel listed a w := by
  intro fuel
  induction fuel with
  | zero =>
    intro listed a w hl h
    have hr : Region.ready md ops listed = [] := by
      cases e : Region.ready md ops listed with
      | nil => rfl
      | cons i l =>
        have := left_set (md := md) (ops := ops) (listed := listed) (i := i) (by rw [e]; exact List.mem_cons_self)
        omega
    exact ⟨hr, done listed a w hr h⟩
  | succ fuel ih =>
    intro listed a w hl h
    refine ⟨fun hr => done listed a w hr h, fun i hi => ?_⟩
    refine wpOpIn_mono (fun a' w' h' => ih _ a' w' ?_ h') (step listed a w i hi h)
    have := left_set hi
    omega
section
variable {P : Program} {ops : Array Oper} {Q : Exit → Act → World → Prop} {F : Fence} {n : Nat}
theorem wpAnyIn_pivot {ns : Nat} {uses : Nat → List Nat} {a : Act} {w : World} (hok : phiOk ops ns = true) (hu : usesOk ops uses = true) (Rel : Nat → World → World → Prop) (st : Nat) (hst0 : st < ops.size) (BW : Bool → World → Prop) (hBW : ∀ j b w w', j ≠ st → BW b w → Rel j w w' → BW b w') (hst : ∀ w w', BW false w → Rel st w w' → BW true w') (h0 : BW false w)
    (H : Nat → (Nat → Value) → World → Prop) (hC : ∀ i s s' w, (∀ d ∈ uses i, s d = s' d) → H i s w → H i s' w) (hH : ∀ i j s w w', i ≠ j → H i s w → Rel j w w' → H i s w')
    (step : ∀ i o, ops.toList[i]? = some o → ∀ a' w' b, (i = st → b = false) → Same ops a a' → BW b w' → (∀ k, (o.after.toList.any fun e => Region.binds .any e && e.on == k) = true → H k (slots a') w') → wpOpIn F n P ops Q i (fun a'' w'' => ∃ v, a'' = a'.put o.dst v ∧ H i (slots a'') w'' ∧ Rel i w' w'') a' w')
    (done : ∀ a' w', Same ops a a' → BW true w' → (∀ i, i < ops.size → H i (slots a') w') → Q .normal a' w') : wpAnyIn F n P .any ops Q ops.size (Array.replicate ops.size false) a w := by
  refine wpAnyIn_inv (fun listed a' w' => listed.size = ops.size ∧ Same ops a a' ∧ BW (listed.getD st false) w' ∧ (∀ i o, ops[i]? = some o → listed.getD i false = true → ∀ e ∈ o.after, Region.binds .any e = true → listed.getD e.on false = true) ∧ ∀ i o, ops[i]? = some o → listed.getD i false = true → H i (slots a') w') ?_ ?_ _ _ _ _ (Nat.le_trans List.countP_le_length (by simp)) ⟨by simp, Same.refl _ _, by rw [show (Array.replicate ops.size false).getD st false = false by simp [Array.getD_eq_getD_getElem?, hst0]]; exact h0, fun i o ho hl => ?_, fun i o ho hl => ?_⟩
  · rintro listed a' w' i hi ⟨hz, hsa, hb, hcl, hh⟩
    obtain ⟨h1, o, ho, hdep⟩ := mem_ready.1 hi
    refine wpOpIn_mono ?_ (step i o (by rw [Array.getElem?_toList]; exact ho) a' w' _ ?_ hsa hb fun k hk => ?_)
    · rintro a'' w'' ⟨v, rfl, hv, hr⟩
      have hlt9 := (Array.getElem?_eq_some_iff.1 ho).1
      refine ⟨by rw [Array.size_setIfInBounds]; exact hz, hsa.put ho, ?_, fun j oj hoj hl e he hbn => ?_, fun j oj hoj hl => ?_⟩
      · by_cases x : i = st
        · subst x
          have e1 : listed.getD i false = false := by simpa [Array.getD_eq_getD_getElem?, show i < listed.size by omega] using h1
          have e2 : (listed.setIfInBounds i true).getD i false = true := by simp [Array.getD_eq_getD_getElem?, show i < listed.size by omega]
          rw [e1] at hb
          rw [e2]
          exact hst _ _ hb hr
        · rw [getD_set_ne false x]
          exact hBW _ _ _ _ x hb hr
      · by_cases x : i = j
        · subst x
          rw [ho] at hoj
          obtain rfl := Option.some.inj hoj
          exact getD_set_true (hdep e he hbn)
        · rw [getD_set_ne false x] at hl
          exact getD_set_true (hcl j oj hoj hl e he hbn)
      · by_cases x : i = j
        · subst x
          exact hv
        · rw [getD_set_ne false x] at hl
          refine hH j i _ w' w'' (fun y => x y.symm) (hC j (slots a') _ w' (fun d hd => ?_) (hh j oj hoj hl)) hr
          cases hod : o.dst with
          | none => rfl
          | some d' =>
            by_cases y : d' = d
            · subst y
              exfalso
              rcases usesOk_spec hu hoj ho hd hod with z | ⟨e, he, hbn, hon⟩
              · exact x z
              · have h5 := hcl j oj hoj hl e he hbn
                rw [hon] at h5
                rcases Nat.lt_or_ge i listed.size with h | h
                · simp [Array.getD_eq_getD_getElem?, h] at h1 h5
                  rw [h1] at h5
                  cases h5
                · simp [Array.getD_eq_getD_getElem?, Array.getElem?_eq_none h] at h5
            · unfold slots
              simp [Act.put, Array.getD_eq_getD_getElem?, Array.getElem?_setIfInBounds_ne y]
    · intro x
      subst x
      have hlt9 := (Array.getElem?_eq_some_iff.1 ho).1
      simpa [Array.getD_eq_getD_getElem?, show i < listed.size by omega] using h1
    · obtain ⟨e, he, hx⟩ := List.any_eq_true.1 hk
      simp only [Bool.and_eq_true, beq_iff_eq] at hx
      obtain ⟨hbn, rfl⟩ := hx
      have he' : e ∈ o.after := by rw [← Array.mem_toList_iff]; exact he
      have hlt := (phiOk_spec hok).2.2 i o ho e he' hbn
      have hi := (Array.getElem?_eq_some_iff.1 ho).1
      exact hh e.on _ (Array.getElem?_eq_getElem (show e.on < ops.size by omega)) (hdep e he' hbn)
  · rintro listed a' w' hr ⟨hz, hsa, hb, hcl, hh⟩
    have all : ∀ i o, ops[i]? = some o → listed.getD i false = true := by
      intro i
      induction i using Nat.strongRecOn with
      | _ i ih =>
        intro o ho
        cases hl : listed.getD i true with
        | false =>
          exfalso
          have : i ∈ Region.ready .any ops listed := mem_ready.2 ⟨hl, o, ho, fun e he hbn => by
            have hlt := (phiOk_spec hok).2.2 i o ho e he hbn
            have hi := (Array.getElem?_eq_some_iff.1 ho).1
            exact ih e.on hlt _ (Array.getElem?_eq_getElem (show e.on < ops.size by omega))⟩
          rw [hr] at this
          cases this
        | true =>
          rcases Nat.lt_or_ge i listed.size with h | h
          · simpa [Array.getD_eq_getD_getElem?, h] using hl
          · have hi := (Array.getElem?_eq_some_iff.1 ho).1
            omega
    have ht := all st _ (Array.getElem?_eq_getElem hst0)
    rw [ht] at hb
    exact done a' w' hsa hb fun i hi => hh i _ (Array.getElem?_eq_getElem hi) (all i _ (Array.getElem?_eq_getElem hi))
  all_goals
    have hi := (Array.getElem?_eq_some_iff.1 ho).1
    simp [Array.getD_eq_getD_getElem?, hi] at hl
theorem wpOpIn_of {i : Nat} {o : Oper} {a : Act} {w : World} {K : Act → World → Prop} (ho : ops.toList[i]? = some o) (hg : o.guard = none) (h : o.wpIn F n P a w K Q) : wpOpIn F n P ops Q i K a w := by
  rw [Array.getElem?_toList] at ho
  unfold wpOpIn
  rw [ho]
  have hw : Region.wanted o (yielded ops a.tmps) = true := by simp [Region.wanted, hg]
  simp only [hw, if_true]
  exact h
theorem op_runIn {o : Oper} {a : Act} {w w' : World} {v : Value} {K : Act → World → Prop} {l : Nat} (hd : ∀ c, o.op ≠ .defer c) (h : (execOp a.eval o).run P w = .ok (.value v) w') (hk : K (a.put o.dst v) w') : o.wpIn (Fence.wide.inRound l) n P a w K Q :=
  oper_inRound hd (op_run h hk)
theorem op_yieldIn {o : Oper} {a : Act} {w : World} {K : Act → World → Prop} {l l2 : Nat} {x : Value} {R : Ending → World → Prop} (f y : Operand) (ts : Array TypeId) (ho : o.op = .call { callee := .value f, args := #[y], argTypes := ts }) (hf : a.eval f = .func (.yield l) #[] #[]) (hx : a.eval y = x) (hy : YieldAt Fence.wide (n - 1) P l #[x] w R)
    (h : ∀ e w', R e w' → ∃ v, e = .returned v ∧ K (a.put o.dst v) w') : o.wpIn (Fence.wide.inRound l2) n P a w K Q := by
  obtain ⟨fn, tmps, assign, body, h1, h2⟩ := hy
  refine ⟨fun _ _ => trivial, ?_⟩
  rw [Oper.semAt_eq _ _ _ (by rw [ho]; intro c e; cases e)]
  have e1 : (execOp a.eval o).run P w = .ok (.round l fn tmps assign body) w := by
    simp [execOp, ho, resolve, invoke, hf, hx, Deferred.ofValue, Sem.run_bind, Result.andThen, h1]
  rw [e1]
  refine ⟨fun e => (by cases e), ?_⟩
  have h3 : RoundIn (Fence.wide.inRound l2) (n - 1) P l fn tmps assign body w R := h2
  refine h3.mono ?_
  intro e w' hr
  obtain ⟨v, rfl, hv⟩ := h e w' hr
  exact hv
end
end Go.Proofs.Ytfcpclpaalekiaa
namespace Go.Proofs.Ytfcpclpaalekiaa
open Go.RowKit Go.Shelf
set_option maxHeartbeats 8000000
set_option maxRecDepth 100000
attribute [local go_sem] Oper.semAt_some
set_option linter.unusedSimpArgs false
set_option linter.unusedVariables false
def ChunkAt (Bs Bn : Nat) (ao : Option Addr) (q cap : Nat) (W : World) : Prop := W.heap[Bs]? = some (.cells #[.slice ao (2 * q) cap] 60 (0, 0)) ∧ W.heap[Bn]? = some (.cells #[.int .i64 2] 3 (0, 0))
theorem chunk1_in (q n l Bs Bn b off cap : Nat) (hq : q ≤ 1000) (hcap : 2 * q ≤ cap) (ao : Option Addr) (hao : 0 < q → ao = some ⟨b, off, none⟩) (J Jx : List (Fin q) → World → Prop)
    (hY : ∀ pre x W, J pre W → pre.length < q → YieldAt Fence.wide (n - 1) Try.prog l #[.slice (some ⟨b, off + x.val * 6, none⟩) 2 2] W fun e W' =>
      (e = .returned (.bool true) ∧ J (pre ++ [x]) W' ∧ (ChunkAt Bs Bn ao q cap W → ChunkAt Bs Bn ao q cap W')) ∨ (e = .returned (.bool false) ∧ Jx (pre ++ [x]) W'))
    (W : World) (hC : ChunkAt Bs Bn ao q cap W) (hJd : ∀ pre W W', J pre W → Below W.heap.size W W' → J pre W') (h0 : J [] W) :
    CallsIn Fence.wide n Try.prog 88 #[.func (.yield l) #[] #[], .pointer (some ⟨Bs, 0, none⟩), .pointer (some ⟨Bn, 0, none⟩)] W fun e W' => (∃ v, e = .returned v) ∧
      ((∃ ys, ys = List.finRange q ∧ J ys W') ∨ (∃ pre, pre <+: List.finRange q ∧ Jx pre W')) := by
  refine callsIn_of_wp Try.func88 rfl trivial ?_ rfl
  simp only [Try.ntmps88, List.size_toArray, List.length_cons, List.length_nil, Nat.reduceAdd, Nat.reduceSub, Array.replicate_succ, Array.replicate_zero, List.push_toArray, List.append_toArray, List.nil_append, List.cons_append]
  gi_wp2
  gi_loopw [4] (fun i wr => ∃ k : Nat, k ≤ q ∧ i = .int .i64 ((2 * k : Nat) : Int) ∧ J ((List.finRange q).take k) wr ∧ ChunkAt Bs Bn ao q cap wr)
    (fun i _ => 2 * q - (intOf i).toNat)
  case atStart => exact ⟨0, Nat.zero_le _, rfl, h0, hC⟩
  case round =>
    obtain ⟨k, hk, rfl, hJs, hnx⟩ := hrel
    have hs := box1_cell hnx.1
    have hn2 := box1_cell hnx.2
    by_cases hlt : k < q
    · obtain rfl := hao (by omega)
      have g1 : ((2 * k : Nat) : Int) < ((2 * q : Nat) : Int) := by omega
      generalize hkk : 2 * k = kk at *
      generalize hqq : 2 * q = qq at *
      gi_wp2
      refine wpIn_wide.2 ?_
      have g2 : kk ≤ qq := by omega
      have g3 : (kk : Int) ≤ (qq : Int) := by omega
      have g4 : (0 : Int) ≤ (kk : Int) := by omega
      have g5 : kk ≤ cap := by omega
      go_quiet (fail)
      have bd : Below wr.heap.size wr (wr.drewN nq) := below_drewN (Below.refl _ _) _
      have hJ2 := hJd _ _ _ hJs bd
      have hnx2 : ChunkAt Bs Bn (some ⟨b, off, none⟩) q cap (wr.drewN nq) := ⟨(bd.block _ (heap_lt hnx.1)).trans hnx.1, (bd.block _ (heap_lt hnx.2)).trans hnx.2⟩
      have hs2 := box1_cell hnx2.1
      rw [hqq] at hs2
      have hn3 := box1_cell hnx2.2
      obtain ⟨fn, tmps, assign, body, hy, hR⟩ := hY _ ⟨k, hlt⟩ (wr.drewN nq) hJ2 (by simp; omega)
      have e6 : off + k * 6 = off + kk * 3 := by omega
      simp only [e6] at hy
      have g6 : (kk : Int) + 2 ≤ (cap : Int) := by omega
      have g7 : -9223372036854775808 ≤ (kk : Int) + 2 := by omega
      have g8 : (kk : Int) + 2 ≤ 9223372036854775807 := by omega
      generalize wr.drewN nq = w9 at *
      gi_wp2
      refine ⟨fun h => (by cases h), hR.mono ?_⟩
      rintro e W3 (⟨rfl, hJ3, hk3⟩ | ⟨rfl, hJx3⟩)
      · have hnx3 := hk3 hnx2
        have hn4 := box1_cell hnx3.2
        gi_wp2
        go_roundw
        case rel => exact ⟨k + 1, by omega, by rw [show 2 * (k + 1) = kk + 2 by omega]; simp, by rw [take_next _ _ (by simpa using hlt), List.getElem_finRange]; exact hJ3, hnx3⟩
        case measure => simp [intOf]; omega
      · gi_wp2
        refine bodyPost_ret (results_none rfl _ _ _) rfl ?_
        refine ⟨⟨_, rfl⟩, .inr ⟨_, ?_, hJx3⟩⟩
        have e9 : (List.finRange q).take k ++ [(⟨k, hlt⟩ : Fin q)] = (List.finRange q).take (k + 1) := by rw [take_next _ _ (by simpa using hlt), List.getElem_finRange]; rfl
        rw [e9]
        exact List.take_prefix _ _
    · obtain rfl : k = q := by omega
      gi_wp2
      go_end0
      exact ⟨⟨_, rfl⟩, .inl ⟨_, List.take_of_length_le (by simp), hJs⟩⟩
theorem chunk_in (n : Nat) (a : Option Addr) (len cap : Nat) (w : World) :
    CallsIn Fence.wide n Try.prog 83 #[.slice a len cap, .int .i64 2] w fun e w' => e = .returned (.func (.func 88) #[] #[.pointer (some ⟨w.heap.size, 0, none⟩), .pointer (some ⟨w.heap.size + 1, 0, none⟩)]) ∧ w' = (w.alloc (.cells #[.slice a len cap] 60)).alloc (.cells #[.int .i64 2] 3) := by
  refine callsIn_of_wp Try.func83 rfl trivial ?_ rfl
  simp only [Try.ntmps83, List.size_toArray, List.length_cons, List.length_nil, Nat.reduceAdd, Nat.reduceSub, Array.replicate_succ, Array.replicate_zero, List.push_toArray, List.append_toArray, List.nil_append, List.cons_append]
  gi_wp2
  go_ret
  exact ⟨rfl, rfl⟩
theorem chunk_stops (q n Bs Bn b off cap : Nat) (hq : q ≤ 1000) (hcap : 2 * q ≤ cap) (ao : Option Addr) (hao : 0 < q → ao = some ⟨b, off, none⟩) (w : World) (hC : ChunkAt Bs Bn ao q cap w) :
    SeqStopsK Fence.wide n Try.prog 88 #[.pointer (some ⟨Bs, 0, none⟩), .pointer (some ⟨Bn, 0, none⟩)] (fun x : Fin q => #[.slice (some ⟨b, off + x.val * 6, none⟩) 2 2]) (fun X Y => ChunkAt Bs Bn ao q cap X → ChunkAt Bs Bn ao q cap Y) (fun ys => ys = List.finRange q) (fun pre => pre <+: List.finRange q) q w := fun l J Jx W hW hJ _ hY h0 =>
  chunk1_in q n l Bs Bn b off cap hq hcap ao hao J Jx hY W ⟨(hW.block _ (heap_lt hC.1)).trans hC.1, (hW.block _ (heap_lt hC.2)).trans hC.2⟩ (fun pre X X' h hb => hJ pre X X' none h ⟨hb.os, hb.tape, hb.output, hb.size, fun k hk _ => hb.block k hk⟩ (fun r e => by cases e)) h0
theorem chunk_put {Bs Bn q cap : Nat} {ao : Option Addr} (W : World) (l : Nat) (o o' : Obj) (h : W.heap[l]? = some o) (hc : o.isCells = false) : ChunkAt Bs Bn ao q cap W → ChunkAt Bs Bn ao q cap (W.putObj l o') := fun hC => by
  have out : ∀ (k : Nat) (o2 : Obj), W.heap[k]? = some o2 → o2.isCells = true → (W.putObj l o').heap[k]? = some o2 := fun k o2 hk h2 => (World.putObj_heap_other (fun e => by subst e; rw [h] at hk; cases hk; rw [hc] at h2; cases h2)).trans hk
  exact ⟨out _ _ hC.1 rfl, out _ _ hC.2 rfl⟩
end Go.Proofs.Ytfcpclpaalekiaa
namespace Go.Proofs.Ytfcpclpaalekiaa
open Go Go.RowKit
structure KeepsT (B : Nat) (t : TypeId) (W W' : World) : Prop where
  size : W.heap.size ≤ W'.heap.size
  same : ∀ (k : Nat) (o : Obj), B ≤ k → W.heap[k]? = some o → (∀ c, o ≠ .cells c t (0, 0)) → W'.heap[k]? = some o
theorem KeepsT.refl (B : Nat) (t : TypeId) (W : World) : KeepsT B t W W := ⟨Nat.le_refl _, fun _ _ _ h _ => h⟩
theorem KeepsT.trans {B : Nat} {t : TypeId} {X Y Z : World} (h : KeepsT B t X Y) (k : KeepsT B t Y Z) : KeepsT B t X Z := ⟨Nat.le_trans h.size k.size, fun i o hB hi ho => k.same i o hB (h.same i o hB hi ho) ho⟩
theorem KeepsT.up {B B' : Nat} {t : TypeId} {W W' : World} (h : KeepsT B t W W') (hB : B ≤ B') : KeepsT B' t W W' := ⟨h.size, fun k o hk => h.same k o (Nat.le_trans hB hk)⟩
theorem KeepsT.from {B : Nat} {t : TypeId} {W W' : World} (h : KeepsT B t W W') : KeepsFrom B W W' := ⟨h.size, fun k o hk ho hc => h.same k o hk ho fun c e => by rw [e] at hc; cases hc⟩
theorem KeepsT.of_grownBy {B : Nat} {t : TypeId} {W W' : World} {row : Option Nat} (hg : W.grownBy W' row) (hrow : ∀ j, row = some j → j < B ∨ ∃ c, W.heap[j]? = some (.cells c t (0, 0))) : KeepsT B t W W' :=
  ⟨hg.size, fun k o hB hk ho => (hg.block k (Array.getElem?_eq_some_iff.1 hk).1 (fun e => by
    rcases hrow k e.symm with h | ⟨c, h⟩
    · omega
    · rw [hk] at h
      exact ho c (Option.some.inj h))).trans hk⟩
theorem KeepsT.alloc {B : Nat} {t : TypeId} {W X : World} (h : KeepsT B t W X) (o : Obj) : KeepsT B t W (X.alloc o) := h.trans (KeepsT.of_grownBy (World.grownBy_alloc X o none) fun j e => by cases e)
def Gives {α : Type} (P : Program) (t : TypeId) (g : Nat) (lb : Array Value) (enc : α → Value) (n₀ : Nat) (S : List α → Prop) (N : Nat) (w : World) : Prop :=
  ∀ (l : Nat) (J : List α → World → Prop) (W : World), Below w.heap.size w W → OwnFrom W.heap.size J →
    (∀ pre x W1, J pre W1 → pre.length < N → W.heap.size ≤ W1.heap.size → ∀ m, YieldAt Fence.wide m P l #[enc x] W1 fun e W' => e = .returned (.bool true) ∧ J (pre ++ [x]) W' ∧ Below n₀ W1 W' ∧ KeepsT W.heap.size t W1 W') →
    J [] W → ∀ n, CallsIn Fence.wide n P g (#[.func (.yield l) #[] #[]] ++ lb) W fun e W' => (∃ v, e = .returned v) ∧ ∃ xs, S xs ∧ J xs W'
theorem own_up {β : Type} {B B' : Nat} {I : β → World → Prop} (h : OwnFrom B I) (hB : B ≤ B') : OwnFrom B' I := fun s X Y row hs hg hr => h s X Y row hs hg fun r e => ⟨Nat.le_trans hB (hr r e).1, (hr r e).2⟩
theorem put_from {B l : Nat} {t : TypeId} {W : World} {o : Obj} (hl : l < B) : KeepsT B t W (W.putObj l o) :=
  KeepsT.of_grownBy (grownBy_putObj' W l o) fun j e => by cases e; exact .inl hl
theorem put_below {B l : Nat} {W : World} {o o2 : Obj} (hl : B ≤ l) (h : W.heap[l]? = some o2) : Below B W (W.putObj l o) :=
  (Below.refl B W).grown (grownBy_putObj' W l o) (by have := (Array.getElem?_eq_some_iff.1 h).1; omega) fun k e => by cases e; exact hl
section
variable {P : Program} {n : Nat}
theorem wpIn_range_gives {α : Type} {g : Operand} {ps : Array Tmp} {assign body : Code} {Q : Exit → Act → World → Prop} {a : Act} {w : World} {gf : Nat} {lb : Array Value}
    (hg : a.eval g = .func (.func gf) #[] lb) (eg : ∀ args w, (callFunc gf args).run P w = .ok (.enter gf args) w)
    {t : TypeId} {enc : α → Value} {n₀ : Nat} {S : List α → Prop} {N : Nat} {w0 : World} (hseq : Gives P t gf lb enc n₀ S N w0) (hn0 : n₀ ≤ w.heap.size) (hb0 : Below w0.heap.size w0 w) (hps : ps.size = 1)
    (I : List α → World → Prop) (hI : OwnFrom w.heap.size I) (h0 : I [] w) (Ax : α → Act → World → Prop) (hAx : ∀ x a', OwnFrom w.heap.size (fun (_ : Unit) W => Ax x a' W))
    (hassign : ∀ (l m : Nat) (pre : List α) (x : α) (W : World) (K : Act → World → Prop), I pre W → (∀ a' W', KeepsT w.heap.size t W W' → Below n₀ W W' → I pre W' → Ax x a' W' → K a' W') →
      assign.wpIn (Fence.wide.inRound l) m P (Exit.then K (fun _ _ _ => False)) { tmps := (ps.zip #[enc x]).foldl (fun t (p, v) => t.setIfInBounds p v) a.tmps, defers := [] } W)
    (hbody : ∀ (l m : Nat) (pre : List α) (x : α) (a' : Act) (W : World), I pre W → Ax x a' W → pre.length < N → body.wpIn (Fence.wide.inRound l) m P (fun e _ W' => e = .normal ∧ KeepsT w.heap.size t W W' ∧ Below n₀ W W' ∧ I (pre ++ [x]) W') a' W)
    (hdone : ∀ (D : Nat) (xs : List α) (W : World), w.heap.size ≤ D → S xs → I xs W → W.heap[D]? = some (.deferred (some [])) → Q .normal { a with defers := { target := .collected D, args := #[] } :: a.defers } W) :
    (Code.rangeFunc g ps assign body).wpIn Fence.wide n P Q a w := by
  refine wpIn_rangeFunc fun fn hfn => ?_
  obtain ⟨D, hD⟩ : ∃ D, w.heap.size = D := ⟨_, rfl⟩
  obtain ⟨rc, hrc⟩ : ∃ rc : Loop, rc = { state := .ready, pending := none, fn, tmps := a.tmps, params := ps, assign, body, defers := D } := ⟨_, rfl⟩
  obtain ⟨V, hV⟩ : ∃ V, (w.alloc (.deferred (some []))).alloc (.loop rc) = V := ⟨_, rfl⟩
  have v1 : V.heap.size = D + 2 := by rw [← hV, ← hD]; simp
  have v2 : V.heap[D + 1]? = some (.loop rc) := by
    rw [← hV, ← hD, show w.heap.size + 1 = (w.alloc (.deferred (some []))).heap.size by simp]
    exact World.alloc_heap_new _ _
  have v3 : V.heap[D]? = some (.deferred (some [])) := by
    rw [← hV, ← hD]
    exact (Below.heap_alloc _ _ _ (by simp)).trans (World.alloc_heap_new w _)
  have v4 : I [] V := by rw [← hV]; exact hI.alloc _ (hI.alloc _ h0)
  have v5 : Below w0.heap.size w0 V := by
    rw [← hV]
    exact hb0.trans ((((Below.refl _ w).alloc (Nat.le_refl _) _).alloc (by simp) _).mono hb0.size)
  rw [hD] at hI hAx hassign hbody hdone hn0
  refine ⟨D + 1, [{ target := .collected D, args := #[] }], V, { target := .fn (.func gf) lb, args := #[.func (.yield (D + 1)) #[] #[]] }, V, gf, #[.func (.yield (D + 1)) #[] #[]] ++ lb, V, ?_, ?_, fun _ _ => trivial, ?_, fun h => (by cases h), ?_⟩
  · rw [← hV, hrc, ← hD]
    exact run_enterLoop_outer _ _ _ _ _
  · simp only [resolve, hg]
    simp [go_sem]
  · simp [invoke, go_sem, eg]
  refine (hseq (D + 1) (fun pre W => I pre W ∧ W.heap[D + 1]? = some (.loop rc) ∧ W.heap[D]? = some (.deferred (some []))) V v5 ?_ ?_ ⟨v4, v2, v3⟩ (n - 1)).mono ?_
  · -- what the caller keeps
    intro s X Y row hs hgr hr
    have out : ∀ k, k < V.heap.size → some k ≠ row := fun k hk e => by have := (hr k e.symm).1; omega
    exact ⟨(own_up hI (by omega)) s X Y row hs.1 hgr hr, (hgr.block _ (heap_lt hs.2.1) (out _ (by omega))).trans hs.2.1, (hgr.block _ (heap_lt hs.2.2) (out _ (by omega))).trans hs.2.2⟩
  · -- a round
    rintro pre x X ⟨hi, hl, hk⟩ hlen hsz m
    have hy := run_yield (P := P) (args := #[enc x]) hl (by rw [hrc]; simp [hps])
    have e1 : rc.fn = fn := by rw [hrc]
    have e2 : rc.tmps = a.tmps := by rw [hrc]
    have e3 : rc.params = ps := by rw [hrc]
    have e4 : rc.assign = assign := by rw [hrc]
    have e5 : rc.body = body := by rw [hrc]
    have e6 : rc.state = .ready := by rw [hrc]
    have e7 : rc.pending = none := by rw [hrc]
    rw [e1, e2, e3, e4, e5] at hy
    refine ⟨fn, _, assign, body, hy, roundIn_of_wpIn trivial (hassign _ m pre x X _ hi ?_)⟩
    intro a1 X1 k1 b1 i1 ax1
    have l1 := k1.same _ _ (by omega) hl (fun c e => by cases e)
    have d1 := k1.same _ _ (Nat.le_refl _) hk (fun c e => by cases e)
    refine ⟨_, run_beginRound l1 e6, ?_⟩
    obtain ⟨rb, hrb⟩ : ∃ rb : Loop, rb = { rc with state := .busy } := ⟨_, rfl⟩
    rw [← hrb]
    have l2 : (X1.putObj (D + 1) (.loop rb)).heap[D + 1]? = some (.loop rb) := World.putObj_heap_same (heap_lt l1)
    have d2 : (X1.putObj (D + 1) (.loop rb)).heap[D]? = some (.deferred (some [])) := (World.putObj_heap_other (by omega)).trans d1
    have b2 : Below n₀ X1 (X1.putObj (D + 1) (.loop rb)) := put_below (by omega) l1
    have k2 : KeepsT V.heap.size t X1 (X1.putObj (D + 1) (.loop rb)) := put_from (by omega)
    refine wpIn_mono (hbody _ m pre x a1 _ (hI.putObj _ i1 (by omega) l1 rfl) ((hAx x a1).putObj (s := ()) _ ax1 (by omega) l1 rfl) hlen) ?_
    rintro e a3 X3 ⟨rfl, k3, b3, i3⟩
    have l3 := k3.same _ _ (by omega) l2 (fun c e => by cases e)
    have d3 := k3.same _ _ (Nat.le_refl _) d2 (fun c e => by cases e)
    have hend := run_endRound (P := P) none l3
    have hback : ({ rb with state := if (none : Option Code).isNone then LoopState.ready else LoopState.done, pending := none } : Loop) = rc := by rw [hrb, hrc]; rfl
    rw [hback] at hend
    refine ⟨_, _, hend, rfl, ⟨hI.putObj _ i3 (by omega) l3 rfl, World.putObj_heap_same (heap_lt l3), (World.putObj_heap_other (by omega)).trans d3⟩, ?_, ?_⟩
    · exact ((b1.trans b2).trans b3).trans (put_below (by omega) l3)
    · exact (((k1.up (by omega)).trans k2).trans (k3.up (by omega))).trans (put_from (by omega))
  · -- behind them
    rintro e X ⟨⟨v, rfl⟩, xs, hS, hi, hl, hk⟩
    refine ⟨rc.pending, _, run_endLoop hl (by rw [hrc]; simp), ?_⟩
    rw [show rc.pending = none by rw [hrc]]
    exact hdone _ xs _ (Nat.le_refl _) hS (hI.putObj _ hi (by omega) hl rfl) ((World.putObj_heap_other (by omega)).trans hk)
end
end Go.Proofs.Ytfcpclpaalekiaa
namespace Go.Proofs.Ytfcpclpaalekiaa
open Go.RowKit Go.Shelf
set_option maxHeartbeats 8000000
set_option maxRecDepth 100000
attribute [local go_sem] Oper.semAt_some
set_option linter.unusedSimpArgs false
set_option linter.unusedVariables false
theorem keepsT_append {W w1 : World} {B n₀ b : Nat} {bt : TypeId} {v v' u : Value} {k : Nat} {xs : List Value} {tmp : Obj} (h1 : Boxed W b bt u) (h2 : W.ownsRow n₀ tMember 2 v k xs) (hg : (W.alloc tmp).grownBy w1 v.ownBlock) (hb : b < B) : KeepsT B tMember W (w1.setCell ⟨b, 0, none⟩ v') := by
  refine (((KeepsT.refl B tMember W).alloc tmp).trans (KeepsT.of_grownBy hg fun j e => ?_)).trans (KeepsT.of_grownBy (grownBy_setCell' w1 b v') fun j e => by cases e; exact .inl hb)
  rcases (h2.alloc tmp).2 with ⟨rfl, _⟩ | ⟨g, cap, cur, rfl, _, hgb, _⟩
  · simp [Value.ownBlock] at e
  · obtain rfl : g = j := by simpa [Value.ownBlock] using e
    exact .inr ⟨cur, hgb⟩
theorem pappendG {α : Type} (f : α → MB) (S : List α → Prop) (N n₀ g : Nat) (hN : N ≤ 1000000) (lb : Array Value) (eg : ∀ args w, (callFunc g args).run Try.prog w = .ok (.enter g args) w) (w : World) (hn0 : n₀ ≤ w.heap.size)
    (hseq : Gives Try.prog tMember g lb (fun x : α => (f x).v) n₀ S N w) :
    Calls Try.prog 81 #[.slice none 0 0, .func (.func g) #[] lb] w fun e w' => ∃ xs ao cp, S xs ∧ e = .returned (.slice ao xs.length cp) ∧ w'.ownsRow w.heap.size tMember 2 (.slice ao xs.length cp) xs.length (mbCells (xs.map f)) ∧ Below w.heap.size w w' := by
  obtain ⟨i0, hi, hz0, hz1, hz2⟩ := info_parts infoMember
  refine (callsIn_wide (n := 9)).1 ?_
  refine callsIn_of_wp_marks Try.func81 rfl trivial ?_ rfl
  simp only [Try.ntmps81, List.size_toArray, List.length_cons, List.length_nil, Nat.reduceAdd, Nat.reduceSub, Array.replicate_succ, Array.replicate_zero, List.push_toArray, List.append_toArray, List.nil_append, List.cons_append]
  gi_wp2
  obtain ⟨wz, e1⟩ : ∃ wn : World, w.alloc (.cells #[.slice none 0 0] 33) = wn := ⟨_, rfl⟩
  have s1 : wz.heap.size = w.heap.size + 1 := by rw [← e1]; simp
  have b1 : Below w.heap.size w wz := by rw [← e1]; exact (Below.refl _ w).alloc (Nat.le_refl _) _
  have X0 : Boxed wz w.heap.size 33 (.slice none 0 0) := by rw [← e1]; exact World.alloc_heap_new _ _
  rw [e1]
  clear e1
  refine wpIn_range_gives rfl eg hseq (by omega) b1 rfl
    (fun pre W => (∃ v, Boxed W w.heap.size 33 v ∧ W.ownsRow w.heap.size tMember 2 v pre.length (mbCells (pre.map f)) ∧ True) ∧ Below w.heap.size w W)
    (OwnFrom.and (Own.from (holdsRow_own w.heap.size w.heap.size 33 tMember 2 (fun pre : List α => pre.length) (fun pre => mbCells (pre.map f)) (fun _ _ => True)) _) (ownFrom_below (Nat.le_refl _) (by omega)))
    ⟨⟨_, X0, World.ownsRow_nil _ _ _ _, trivial⟩, b1⟩
    (fun x a' W => ∃ Bx, Box2 W Bx (f x) ∧ a' = { tmps := #[.slice none 0 0, .func (.func g) #[] lb, .pointer (some ⟨w.heap.size, 0, none⟩), undef, .slice none 0 0, .pointer (some ⟨Bx, 0, none⟩), .func (.func g) #[] lb, (f x).v, undef, undef, undef, undef, undef], defers := [] })
    (fun x a' s X Y row hs hg hr => by obtain ⟨Bx, h1, h2⟩ := hs; exact ⟨Bx, Own.from (Box2.own (β := Unit) Bx fun _ => f x) _ () X Y row h1 hg hr, h2⟩) ?assign ?body ?done
  case assign =>
    rintro l m pre x W K ⟨⟨v, h1, h2, _⟩, hB⟩ hK
    simp only [MB.v]
    gi_wp2
    exact hK _ _ ((KeepsT.refl _ _ W).alloc _) ((Below.refl _ W).alloc (by have := hB.size; omega) _) ⟨⟨v, h1.alloc _, h2.alloc _, trivial⟩, hB.alloc hB.size _⟩ ⟨W.heap.size, Box2.new W (f x), rfl⟩
  case body =>
    rintro l m pre x a' W ⟨⟨v, h1, h2, _⟩, hB⟩ ⟨Bx, hx, rfl⟩ hlt
    obtain ⟨c0, c1⟩ := hx.cells
    have c2 := h1.cell
    gi_wp2_with (gi_at_builtin; refine wpListIn_append_own _ rfl _ _ 33 rfl w.heap.size tMember i0 (.agg #[.int .i64 0, .int .i64 0]) 2 16 Try.underlying33 hi hz0 hz1 hz2 rfl (by decide) _ _ _ rfl (h2.alloc _) ⟨W.heap.size, 0, none⟩ 1 1 [.int .i64 (f x).node, .int .i64 (f x).life] rfl rfl (fun j u hj => by
        have hb := World.alloc_heap_new W (.cells #[.int .i64 (f x).node, .int .i64 (f x).life] tMember)
        match j, hj with
        | 0, hj => cases hj; rw [Addr.add_lit]; exact box_cell hb 0 rfl
        | 1, hj => cases hj; rw [Addr.add_lit]; exact box_cell hb 1 rfl) (by simp [Value.oneCell']) (by have : maxLen = 9223372036854775807 := rfl; omega) (by omega) (by have := hB.size; simp; omega) ?_; intro v' w1 hown' hgrow _; obtain ⟨g', cap', rfl⟩ := ownsRow_succ hown'; obtain ⟨hv1, hv2, hr2, hk2, hb2⟩ := h1.appended (by decide) h2 hB.size (Nat.le_refl _) hown' hgrow; have hc1 := hv1.cell; have hf1 := hv1.frozen)
    exact ⟨keepsT_append h1 h2 hgrow (by omega), hb2.mono hn0, ⟨_, hv2, by rw [mbCells_append]; exact hr2⟩, hB.trans hb2⟩
  case done =>
    rintro D ys W hD hS ⟨⟨v, h1, h2, _⟩, hB⟩ hK
    have hc := h1.cell
    obtain ⟨ao, cp, rfl⟩ := row_slice h2
    gi_wp2
    refine ⟨by simp, .inl ⟨_, _, rfl, run_takeDeferred hK, ?_⟩⟩
    exact ⟨_, results_tmp rfl _ _ _, ys, ao, cp, hS, rfl, ownsRow_putObj h2 _ hK rfl, below_put hB (by omega) hK⟩
theorem pcollectG {α : Type} (f : α → MB) (S : List α → Prop) (N n₀ g : Nat) (hN : N ≤ 1000000) (lb : Array Value) (eg : ∀ args w, (callFunc g args).run Try.prog w = .ok (.enter g args) w) (w : World) (hn0 : n₀ ≤ w.heap.size)
    (hseq : Gives Try.prog tMember g lb (fun x : α => (f x).v) n₀ S N w) :
    Calls Try.prog 69 #[.func (.func g) #[] lb] w fun e w' => ∃ xs ao cp, S xs ∧ e = .returned (.slice ao xs.length cp) ∧ w'.ownsRow w.heap.size tMember 2 (.slice ao xs.length cp) xs.length (mbCells (xs.map f)) ∧ Below w.heap.size w w' := by
  have HA := hide (pappendG f S N n₀ g hN lb eg w hn0 hseq)
  clear hseq
  go_enter Try.func69, Try.ntmps69
  go_wp2_with (go_at_call 81; refine HA.out.mono ?_; rintro e w2 ⟨xs, ao, cp, hS, rfl, h1, h2⟩)
  go_ret
  exact ⟨xs, ao, cp, hS, rfl, h1, h2⟩
end Go.Proofs.Ytfcpclpaalekiaa
