/-
  A region that draws its order, walked by an invariant over what has come up, not order by order; nothing of the program is in this text.
-/
import Derived.Test.YtfcpclpaalekiaaZPW3
import Derived.Orders
import Derived.OrdersHeld
import Derived.Deep.RegionHeld
import Derived.RegionTactic
import Derived.WalkKit
import Derived.OrdersIn
import Derived.RangeFuncCalls
import Derived.TacticsIn
import Derived.Maps.AppendAt
namespace Go.Proofs.Ytfcpclpaalekiaa
open Go.RowKit Go.Shelf
set_option maxHeartbeats 8000000
set_option maxRecDepth 100000
attribute [local go_sem] Oper.semAt_some
set_option linter.unusedSimpArgs false
set_option linter.unusedVariables false
def lastN (pre : List MB) : Int := match pre.getLast? with
  | none => -1
  | some m => m.node
theorem lastN_snoc (pre : List MB) (x : MB) : lastN (pre ++ [x]) = x.node := by simp [lastN]
theorem okAt_left {pre suf : List MB} {i : Nat} (hi : i < pre.length) : okAt (pre ++ suf) i ↔ okAt pre i := by
  unfold okAt
  rw [List.getElem?_append_left hi, List.getElem?_append_left (show i - 1 < pre.length by omega)]
theorem ok_prefix {pre L : List MB} (hp : pre <+: L) (h : ∀ i, i < L.length → okAt L i) : ∀ i, i < pre.length → okAt pre i := by
  obtain ⟨suf, rfl⟩ := hp
  exact fun i hi => (okAt_left hi).1 (h i (by rw [List.length_append]; omega))
theorem okAt_end (pre : List MB) (x : MB) : okAt (pre ++ [x]) pre.length ↔ x.right ∧ lastN pre < x.node := by
  unfold okAt
  rw [List.getElem?_append_right (Nat.le_refl _), Nat.sub_self]
  constructor
  · intro h
    obtain ⟨h1, h2⟩ := h x rfl
    refine ⟨h1, ?_⟩
    unfold lastN
    cases hl : pre.getLast? with
    | none =>
      have := h1.1
      show (-1 : Int) < _
      omega
    | some m =>
      have hne : pre ≠ [] := fun e => by rw [e] at hl; cases hl
      have hpos : 0 < pre.length := List.length_pos_iff.2 hne
      refine h2 m hpos ?_
      rw [List.getElem?_append_left (by omega), ← List.getLast?_eq_getElem?]
      exact hl
  · rintro ⟨h1, h2⟩ m hm
    obtain rfl : x = m := by simpa using hm
    refine ⟨h1, fun k hk hkm => ?_⟩
    rw [List.getElem?_append_left (by omega), ← List.getLast?_eq_getElem?] at hkm
    unfold lastN at h2
    rw [hkm] at h2
    exact h2
theorem ok_snoc {pre : List MB} (x : MB) (h : ∀ i, i < pre.length → okAt pre i) : (∀ i, i < (pre ++ [x]).length → okAt (pre ++ [x]) i) ↔ x.right ∧ lastN pre < x.node := by
  rw [← okAt_end]
  constructor
  · exact fun h2 => h2 _ (by simp)
  · intro h2 i hi
    by_cases c : i < pre.length
    · exact (okAt_left c).2 (h i c)
    · obtain rfl : i = pre.length := by simp at hi; omega
      exact h2
theorem pright : RightSays := by
  intro x ao cp w hM hl
  obtain ⟨num, L⟩ := x
  simp only [VW.v] at *
  have B2 := hide (((Below.refl w.heap.size w).alloc (Nat.le_refl _) (.cells #[.int .i64 num, .slice ao L.length cp] tView)).alloc (by simp) (.cells #[.bool false] 4))
  have hc5 : ((w.alloc (.cells #[.int .i64 num, .slice ao L.length cp] tView)).alloc (.cells #[.bool false] 4)).cell? ⟨w.heap.size + 1, 0, none⟩ = some (.bool false) := box1_cell (by rw [show w.heap.size + 1 = (w.alloc (.cells #[.int .i64 num, .slice ao L.length cp] tView)).heap.size by simp]; exact World.alloc_heap_new _ _)
  have HC5 := hide hc5
  clear hc5
  refine (callsIn_wide (n := 9)).1 ?_
  refine callsIn_of_wp_marks Try.func39 rfl trivial ?_ rfl
  simp only [Try.ntmps39, List.size_toArray, List.length_cons, List.length_nil, Nat.reduceAdd, Nat.reduceSub, Array.replicate_succ, Array.replicate_zero, List.push_toArray, List.append_toArray, List.nil_append, List.cons_append]
  by_cases k1 : num < 1
  · have hno : Hid (¬ (VW.mk num L).right) := fun h => by have := h.1; simp only at this; omega
    skip
    gi_wp2
    have hc5 := HC5.out
    refine ⟨.bool false, ?_, by rw [decide_eq_false hno.out], B2.out⟩
    simp [results, Try.f39, go_sem, hc5]
  by_cases k2 : num > 9007199254740991
  · have hno : Hid (¬ (VW.mk num L).right) := fun h => by have := h.2.1; have hbig : big = 9007199254740991 := rfl; simp only at this; omega
    skip
    gi_wp2
    have hc5 := HC5.out
    refine ⟨.bool false, ?_, by rw [decide_eq_false hno.out], B2.out⟩
    simp [results, Try.f39, go_sem, hc5]
  by_cases k3 : (L.length : Int) < 1
  · have hno : Hid (¬ (VW.mk num L).right) := fun h => by have := h.2.2.1; have hbig : big = 9007199254740991 := rfl; simp only at this; omega
    skip
    gi_wp2
    have hc5 := HC5.out
    refine ⟨.bool false, ?_, by rw [decide_eq_false hno.out], B2.out⟩
    simp [results, Try.f39, go_sem, hc5]
  by_cases k4 : (L.length : Int) > 7
  · have hno : Hid (¬ (VW.mk num L).right) := fun h => by have := h.2.2.2.1; have hbig : big = 9007199254740991 := rfl; simp only at this; omega
    skip
    gi_wp2
    have hc5 := HC5.out
    refine ⟨.bool false, ?_, by rw [decide_eq_false hno.out], B2.out⟩
    simp [results, Try.f39, go_sem, hc5]
  gi_wp2_with (refine ⟨trivial, ?_⟩; gi_at_call 55; refine (each_in _ _ _ _ _).mono ?_; rintro e w' ⟨rfl, rfl⟩)
  obtain ⟨w1, e1⟩ : ∃ wn : World, w.alloc (.cells #[.int .i64 num, .slice ao L.length cp] tView) = wn := ⟨_, rfl⟩
  obtain ⟨w2, e2⟩ : ∃ wn : World, w1.alloc (.cells #[.bool false] 4) = wn := ⟨_, rfl⟩
  obtain ⟨w3, e3⟩ : ∃ wn : World, w2.alloc (.cells #[.int .i64 (-1)] 3) = wn := ⟨_, rfl⟩
  obtain ⟨wz, e4⟩ : ∃ wn : World, w3.alloc (.cells #[.slice ao L.length cp] 33) = wn := ⟨_, rfl⟩
  have s1 : w1.heap.size = w.heap.size + 1 := by rw [← e1]; simp
  have s2 : w2.heap.size = w.heap.size + 2 := by rw [← e2]; simp [s1]
  have s3 : w3.heap.size = w.heap.size + 3 := by rw [← e3]; simp [s2]
  have s4 : wz.heap.size = w.heap.size + 4 := by rw [← e4]; simp [s3]
  have b1 : Below w.heap.size w wz := by
    rw [← e4, ← e3, ← e2, ← e1]
    exact ((((Below.refl _ w).alloc (Nat.le_refl _) _).alloc (by simp) _).alloc (by simp; omega) _).alloc (by simp; omega) _
  have X0 : wz.heap[w.heap.size]? = some (.cells #[.int .i64 num, .slice ao L.length cp] tView (0, 0)) := by rw [← e4, ← e3, ← e2]; refine heap_up (heap_up (heap_up ?_)); rw [← e1, show w.heap.size = w.heap.size by omega]; exact World.alloc_heap_new _ _
  have X1 : wz.heap[w.heap.size + 1]? = some (.cells #[.bool false] 4 (0, 0)) := by rw [← e4, ← e3]; refine heap_up (heap_up ?_); rw [← e2, show w.heap.size + 1 = w1.heap.size by omega]; exact World.alloc_heap_new _ _
  have X2 : wz.heap[w.heap.size + 1 + 1]? = some (.cells #[.int .i64 (-1)] 3 (0, 0)) := by rw [← e4]; refine heap_up ?_; rw [← e3, show w.heap.size + 1 + 1 = w2.heap.size by omega]; exact World.alloc_heap_new _ _
  have X3 : wz.heap[w.heap.size + 1 + 1 + 1]? = some (.cells #[.slice ao L.length cp] 33 (0, 0)) := by rw [← e4, show w.heap.size + 1 + 1 + 1 = w3.heap.size by omega]; exact World.alloc_heap_new _ _
  rw [e1, e2, e3, e4]
  clear e1 e2 e3 e4 s1 s2 s3 w1 w2 w3
  refine wpIn_rangeFunc_ownH rfl (by omega) (gf := 73) (lb := #[.pointer (some ⟨w.heap.size + 1 + 1 + 1, 0, none⟩)]) rfl trivial (enters_of Try.func73 (by kernel_rfl) rfl)
    (each_stops (id : MB → MB) _ (w.heap.size + 1 + 1 + 1) cp ao L hl w wz (by omega) b1 (box1_cell X3) (by rw [List.map_id]; exact hM)) belowK_t (belowK_b (by omega)) (Below.refl _ _) (fun _ => rfl)
    (fun pre W => ((∀ i, i < pre.length → okAt pre i) ∧ W.heap[w.heap.size + 1]? = some (.cells #[.bool false] 4 (0, 0)) ∧ W.heap[w.heap.size + 1 + 1]? = some (.cells #[.int .i64 (lastN pre)] 3 (0, 0))) ∧ Below w.heap.size w W)
    (fun c pre W => (c = .ret ∧ (¬ ∀ i, i < pre.length → okAt pre i) ∧ W.heap[w.heap.size + 1]? = some (.cells #[.bool false] 4 (0, 0))) ∧ Below w.heap.size w W)
    (OwnFrom.and (Own.from (Own.and (own_pure _) (Own.and (box_own _ _ fun _ => rfl) (box_own _ (fun pre => .cells #[.int .i64 (lastN pre)] 3 (0, 0)) fun _ => rfl))) _) (ownFrom_below (Nat.le_refl _) (by omega)))
    (fun c => OwnFrom.and (Own.from (Own.and (own_pure _) (Own.and (own_pure _) (box_own _ _ fun _ => rfl))) _) (ownFrom_below (Nat.le_refl _) (by omega)))
    ⟨⟨fun i h => absurd h (Nat.not_lt_zero _), X1, X2⟩, b1⟩
    (fun x a' W => ∃ Bx, Box2 W Bx x ∧ a' = { tmps := #[.agg #[.int .i64 num, .slice ao L.length cp], .pointer (some ⟨w.heap.size, 0, none⟩), .pointer (some ⟨w.heap.size + 1, 0, none⟩), .pointer (some ⟨w.heap.size + 1 + 1, 0, none⟩), .pointer (some ⟨Bx, 0, none⟩), .pointer (some ⟨w.heap.size, 0, none⟩), .int .i64 num, .bool false, .bool false, .pointer (some ⟨w.heap.size, 0, none⟩), .int .i64 num, .bool false, .bool false, .bool false, .pointer (some ⟨w.heap.size, 1, none⟩), .slice ao L.length cp, .int .i64 L.length, .bool false, .bool false, .bool false, .pointer (some ⟨w.heap.size, 1, none⟩), .slice ao L.length cp, .int .i64 L.length, .bool false, .bool false, .pointer (some ⟨w.heap.size, 1, none⟩), .slice ao L.length cp, .func (.func 73) #[] #[.pointer (some ⟨w.heap.size + 1 + 1 + 1, 0, none⟩)], x.v, undef, undef, undef, undef, undef, undef, undef, undef, undef, undef, undef], defers := [] })
    (fun x a' s X Y row hs hg hr => by obtain ⟨Bx, h1, h2⟩ := hs; exact ⟨Bx, Own.from (Box2.own (β := Unit) Bx fun _ => x) _ () X Y row h1 hg hr, h2⟩) ?assign ?body ?done ?stop
  case assign =>
    rintro l pre x W K ⟨⟨h1, h2, h3⟩, hB⟩ hK
    simp only [id, MB.v]
    gi_wp2
    exact hK _ _ ((KeepsOthers.alloc _ _).from _) ((Below.refl _ W).alloc hB.size _) ⟨⟨h1, heap_up h2, heap_up h3⟩, hB.alloc hB.size _⟩ ⟨W.heap.size, Box2.new W x, rfl⟩
  case body =>
    rintro l pre x a' W _ _ ⟨⟨h1, h2, h3⟩, hB⟩ ⟨Bx, hx, rfl⟩ hlt
    have HZ := hide (pmember x W)
    have OS := hide (ok_snoc x h1)
    have HL := hide (lastN_snoc pre x)
    obtain ⟨c0, c1⟩ := hx.cells
    simp only [MB.v] at HZ
    obtain ⟨r, hr⟩ : ∃ r, decide x.right = r := ⟨_, rfl⟩
    rw [hr] at HZ
    generalize lastN pre = q at *
    cases r
    · have OB : Hid (¬ ∀ i, i < (pre ++ [x]).length → okAt (pre ++ [x]) i) := fun h => of_decide_eq_false hr (OS.out.1 h).1
      gi_wp2_with (refine ⟨trivial, ?_⟩; gi_at_call 56; refine (CallsIn.inRound l (callsIn_wide.2 HZ.out)).mono ?_; rintro e w2 ⟨rfl, hb2⟩; have h22 := (hb2.block _ (heap_lt h2)).trans h2; have c2 := box1_cell h22; have f2 := box1_frozen h22)
      exact ⟨(keeps_of_below hb2).trans ((KeepsOthers.setCell _ _ _).from _), ⟨rfl, OB.out, box1_set _ h22⟩, (hB.trans (hb2.mono hB.size)).setCell (p := ⟨w.heap.size + 1, 0, none⟩) (by show _ ≤ w.heap.size + 1; omega) _⟩
    · by_cases hq : x.node ≤ q
      · have OB : Hid (¬ ∀ i, i < (pre ++ [x]).length → okAt (pre ++ [x]) i) := fun h => by have := (OS.out.1 h).2; omega
        gi_wp2_with (refine ⟨trivial, ?_⟩; gi_at_call 56; refine (CallsIn.inRound l (callsIn_wide.2 HZ.out)).mono ?_; rintro e w2 ⟨rfl, hb2⟩; have h22 := (hb2.block _ (heap_lt h2)).trans h2; have c2 := box1_cell h22; have f2 := box1_frozen h22; have c3 := box1_cell ((hb2.block _ (heap_lt h3)).trans h3); have c4 := (hb2.cell (p := ⟨Bx, 0, none⟩) (heap_lt hx)).trans c0)
        exact ⟨(keeps_of_below hb2).trans ((KeepsOthers.setCell _ _ _).from _), ⟨rfl, OB.out, box1_set _ h22⟩, (hB.trans (hb2.mono hB.size)).setCell (p := ⟨w.heap.size + 1, 0, none⟩) (by show _ ≤ w.heap.size + 1; omega) _⟩
      · have OB : Hid (∀ i, i < (pre ++ [x]).length → okAt (pre ++ [x]) i) := OS.out.2 ⟨of_decide_eq_true hr, by omega⟩
        gi_wp2_with (refine ⟨trivial, ?_⟩; gi_at_call 56; refine (CallsIn.inRound l (callsIn_wide.2 HZ.out)).mono ?_; rintro e w2 ⟨rfl, hb2⟩; have h33 := (hb2.block _ (heap_lt h3)).trans h3; have c3 := box1_cell h33; have f3 := box1_frozen h33; have c4 := (hb2.cell (p := ⟨Bx, 0, none⟩) (heap_lt hx)).trans c0)
        refine ⟨(keeps_of_below hb2).trans ((KeepsOthers.setCell _ _ _).from _), (hb2.mono hB.size).setCell (p := ⟨w.heap.size + 1 + 1, 0, none⟩) (by show _ ≤ w.heap.size + 1 + 1; omega) _, ⟨OB.out, heap_set_ne _ ((hb2.block _ (heap_lt h2)).trans h2) (by omega), ?_⟩, (hB.trans (hb2.mono hB.size)).setCell (p := ⟨w.heap.size + 1 + 1, 0, none⟩) (by show _ ≤ w.heap.size + 1 + 1; omega) _⟩
        rw [HL.out]
        exact box1_set _ h33
  case done =>
    rintro D ys W hD rfl ⟨⟨h1, h2, h3⟩, hB⟩ hK
    have hbig : big = 9007199254740991 := rfl
    have hyes : Hid ((VW.mk num ys).right) := ⟨by simp only; omega, by simp only; omega, by simp only; omega, by simp only; omega, h1⟩
    have f3 := box1_frozen h2
    have c3 := box1_cell h2
    gi_wp2
    have hK' : (W.setCell ⟨w.heap.size + 1, 0, none⟩ (.bool true)).heap[D]? = some (.deferred (some [])) := heap_set_ne _ hK (by omega)
    refine ⟨by simp, .inl ⟨_, _, rfl, run_takeDeferred hK', ?_⟩⟩
    have hc5 := box1_cell (put_keeps (o2 := .deferred none) hK' (box1_set (.bool true) h2) rfl)
    refine ⟨.bool true, ?_, by rw [decide_eq_true hyes.out], below_put (hB.setCell (p := ⟨w.heap.size + 1, 0, none⟩) (by show _ ≤ w.heap.size + 1; omega) _) (by omega) hK'⟩
    simp [results, Try.f39, go_sem, hc5]
  case stop =>
    rintro D c pre W hD hpre ⟨⟨rfl, hy, h2⟩, hB⟩ hK
    have hno : Hid (¬ (VW.mk num L).right) := fun h => hy (ok_prefix hpre h.2.2.2.2)
    gi_wp2
    refine ⟨by simp, .inl ⟨_, _, rfl, run_takeDeferred hK, ?_⟩⟩
    have hc5 := box1_cell (put_keeps (o2 := .deferred none) hK h2 rfl)
    refine ⟨.bool false, ?_, by rw [decide_eq_false hno.out], below_put hB (by omega) hK⟩
    simp [results, Try.f39, go_sem, hc5]
end Go.Proofs.Ytfcpclpaalekiaa
namespace Go.Proofs.Ytfcpclpaalekiaa
open Go
def lastOk (ops : Array Oper) (n : Nat) : Bool :=
  n + 1 == ops.size &&
  ((List.range n).all fun j => (List.range (n + 1)).any fun k => decide (j < k) && (ops[k]?.map fun o => o.after.toList.any fun e => Region.binds .any e && e.on == j).getD false) &&
  ((List.range (n + 1)).all fun k => (ops[k]?.map fun o => o.after.toList.all fun e => decide (e.on < k)).getD false)
def idle (o : Oper) : Oper := { o with op := .move (.const undef) }
def Behind (P : Program) (o : Oper) (Q : Exit → Act → World → Prop) : Exit → Act → World → Prop
  | .normal, a, w => ∀ K : Act → World → Prop, (∀ a w, Q .normal a w → K a w) → o.wp P a w K Q
  | e, a, w => Q e a w
section
variable {P : Program} {ops : Array Oper} {Q : Exit → Act → World → Prop} {n : Nat} {o : Oper}
theorem lastOk_spec (h : lastOk ops n = true) : n + 1 = ops.size ∧ (∀ j, j < n → ∃ (k : Nat) (o : Oper), j < k ∧ k ≤ n ∧ ops[k]? = some o ∧ ∃ e ∈ o.after, Region.binds .any e = true ∧ e.on = j) ∧ ∀ (k : Nat) (o : Oper), ops[k]? = some o → ∀ e ∈ o.after, e.on < k := by
  unfold lastOk at h
  simp only [Bool.and_eq_true, beq_iff_eq, List.all_eq_true, List.mem_range, List.any_eq_true, decide_eq_true_eq] at h
  obtain ⟨⟨h1, h2⟩, h3⟩ := h
  refine ⟨h1, fun j hj => ?_, fun k o ho e he => ?_⟩
  · obtain ⟨k, hk, hjk, hx⟩ := h2 j hj
    cases ho : ops[k]? with
    | none => rw [ho] at hx; cases hx
    | some o =>
      rw [ho] at hx
      simp only [Option.map_some, Option.getD_some, List.any_eq_true, Bool.and_eq_true, beq_iff_eq] at hx
      obtain ⟨e, he, hb, hon⟩ := hx
      exact ⟨k, o, hjk, by omega, ho, e, by simpa using he, hb, hon⟩
  · have hk : k < n + 1 := by rw [h1]; exact (Array.getElem?_eq_some_iff.1 ho).1
    have hx := h3 k hk
    rw [ho] at hx
    simp only [Option.map_some, Option.getD_some, List.all_eq_true, decide_eq_true_eq] at hx
    exact hx e (by simpa using he)
theorem idle_get (ho : ops[n]? = some o) (j : Nat) : (ops.setIfInBounds n (idle o))[j]? = if j = n then some (idle o) else ops[j]? := by
  have hn := (Array.getElem?_eq_some_iff.1 ho).1
  rw [Array.getElem?_setIfInBounds]
  by_cases e : n = j
  · subst e; simp [hn]
  · rw [if_neg e, if_neg (fun x => e x.symm)]
theorem idle_yielded (ho : ops[n]? = some o) (t : Array Value) : yielded (ops.setIfInBounds n (idle o)) t = yielded ops t := by
  funext j
  unfold yielded
  rw [idle_get ho]
  by_cases e : j = n
  · subst e; rw [if_pos rfl, ho]; rfl
  · rw [if_neg e]
theorem idle_ready (ho : ops[n]? = some o) (listed : Array Bool) (j : Nat) : j ∈ Region.ready .any (ops.setIfInBounds n (idle o)) listed ↔ j ∈ Region.ready .any ops listed := by
  rw [mem_ready, mem_ready]
  refine and_congr_right fun _ => ?_
  rw [idle_get ho]
  by_cases e : j = n
  · subst e
    rw [if_pos rfl, ho]
    constructor
    · rintro ⟨x, hx, h⟩; obtain rfl := Option.some.inj hx; exact ⟨o, rfl, h⟩
    · rintro ⟨x, hx, h⟩; obtain rfl := Option.some.inj hx; exact ⟨idle o, rfl, h⟩
  · rw [if_neg e]
theorem wp_behind {x : Oper} {a : Act} {w : World} {K : Act → World → Prop} (h : x.wp P a w K (Behind P o Q)) : x.wp P a w K Q := by
  unfold Oper.wp at *
  generalize (execOp a.eval x).run P w = r at *
  cases r with
  | ok n w' =>
    cases n <;> simp only [Oper.upon] at h ⊢ <;>
      first
        | exact h
        | exact Calls.mono h (fun e w'' he => by cases e <;> exact he)
  | halt y w' => cases y <;> simp only [Oper.upon] at h ⊢ <;> exact h
theorem wpAny_last (ho : ops[n]? = some o) (hl : lastOk ops n = true) (hd : o.dst = none) (hg : o.guard = none) : ∀ (fuel : Nat) (listed : Array Bool) (a : Act) (w : World), listed.size = ops.size → listed[n]? = some false → (∀ (k : Nat) (o : Oper), ops[k]? = some o → listed[k]? = some true → ∀ e ∈ o.after, Region.binds .any e = true → listed[e.on]? = some true) →
    wpAny P .any (ops.setIfInBounds n (idle o)) (Behind P o Q) fuel listed a w → wpAny P .any ops Q fuel listed a w := by
  obtain ⟨s1, s2, s3⟩ := lastOk_spec hl
  -- some one is ready
  have some_ready : ∀ listed : Array Bool, listed.size = ops.size → listed[n]? = some false → ∃ j, j ∈ Region.ready .any ops listed := by
    intro listed hs hn
    have key : ∀ m, (∃ j, j ∈ Region.ready .any ops listed) ∨ ∀ j, j < m → j ≤ n → listed[j]? = some true := by
      intro m
      induction m with
      | zero => exact .inr fun j hj => absurd hj (Nat.not_lt_zero _)
      | succ m ih =>
        rcases ih with ih | ih
        · exact .inl ih
        · by_cases hm : m ≤ n
          · have hlt : m < listed.size := by omega
            have hlo : m < ops.size := by omega
            cases hb : listed[m]? with
            | none => rw [Array.getElem?_eq_none_iff] at hb; omega
            | some b =>
              cases b with
              | true =>
                refine .inr fun j hj hjn => ?_
                rcases Nat.lt_or_ge j m with h | h
                · exact ih j h hjn
                · obtain rfl : j = m := by omega
                  exact hb
              | false =>
                refine .inl ⟨m, mem_ready.2 ⟨by simp [Array.getD_eq_getD_getElem?, hb], ops[m], Array.getElem?_eq_getElem hlo, fun e he _ => ?_⟩⟩
                have h4 := s3 m _ (Array.getElem?_eq_getElem hlo) e he
                have h5 := ih e.on h4 (by omega)
                simp [Array.getD_eq_getD_getElem?, h5]
          · exact .inr fun j hj hjn => ih j (by omega) hjn
    rcases key (n + 1) with h | h
    · exact h
    · have := h n (by omega) (Nat.le_refl _); rw [hn] at this; cases this
  intro fuel
  induction fuel with
  | zero =>
    intro listed a w hs hn hc H
    obtain ⟨j, hj⟩ := some_ready listed hs hn
    have h1 := (idle_ready ho listed j).2 hj
    rw [H.1] at h1
    cases h1
  | succ fuel ih =>
    intro listed a w hs hn hc H
    refine ⟨fun h => ?_, fun j hj => ?_⟩
    · obtain ⟨j, hj⟩ := some_ready listed hs hn
      rw [h] at hj
      cases hj
    · have h1 := H.2 j ((idle_ready ho listed j).2 hj)
      obtain ⟨hjun, oj, hoj, hall⟩ := mem_ready.1 hj
      have hjlt : j < listed.size := by rw [hs]; exact (Array.getElem?_eq_some_iff.1 hoj).1
      by_cases hjn : j = n
      · subst hjn
        rw [ho] at hoj
        obtain rfl := Option.some.inj hoj
        -- all others are listed
        have allL : ∀ d i, i + d = j → listed[i]? = some true ∨ d = 0 := by
          intro d
          induction d using Nat.strongRecOn with
          | _ d ihd =>
            intro i hi
            rcases Nat.eq_zero_or_pos d with h0 | h0
            · exact .inr h0
            · obtain ⟨k, ok, hik, hkj, hok, e, he, hb, hon⟩ := s2 i (by omega)
              left
              by_cases hkj2 : k = j
              · subst hkj2
                rw [ho] at hok
                obtain rfl := Option.some.inj hok
                have h5 := hall e he hb
                rw [hon] at h5
                have hi2 : i < listed.size := by omega
                simpa [Array.getD_eq_getD_getElem?, Array.getElem?_eq_getElem hi2] using h5
              · have h6 := (ihd (j - k) (by omega) k (by omega)).resolve_right (by omega)
                have h7 := hc k ok hok h6 e he hb
                rw [hon] at h7
                exact h7
        have hdone : Region.ready .any ops (listed.setIfInBounds j true) = [] := by
          refine List.eq_nil_iff_forall_not_mem.2 fun i hi => ?_
          obtain ⟨hun, oi, hoi, _⟩ := mem_ready.1 hi
          have hil : i < ops.size := (Array.getElem?_eq_some_iff.1 hoi).1
          by_cases e : j = i
          · subst e
            simp [Array.getD_eq_getD_getElem?, hjlt] at hun
          · have h8 := (allL (j - i) i (by omega)).resolve_right (by omega)
            rw [getD_set_ne true e] at hun
            simp [Array.getD_eq_getD_getElem?, h8] at hun
        have h2 : Behind P o Q .normal a w := by
          unfold wpOp at h1
          rw [idle_get ho, if_pos rfl] at h1
          have hw : Region.wanted (idle o) (yielded (ops.setIfInBounds j (idle o)) a.tmps) = true := by simp [Region.wanted, idle, hg]
          simp only [hw, if_true] at h1
          rcases h1 with h1 | ⟨h1, _⟩
          · have h9 : wpAny P .any (ops.setIfInBounds j (idle o)) (Behind P o Q) fuel (listed.setIfInBounds j true) (a.put none undef) w := by
              simpa [Oper.wp, idle, execOp, Act.eval, Oper.upon, hd] using h1
            have hr2 : Region.ready .any (ops.setIfInBounds j (idle o)) (listed.setIfInBounds j true) = [] := List.eq_nil_iff_forall_not_mem.2 fun i hi => by
              have := (idle_ready ho (listed.setIfInBounds j true) i).1 hi
              rw [hdone] at this
              cases this
            cases fuel with
            | zero => exact h9.2
            | succ f => exact h9.1 hr2
          · have h8 : noRoomEvent ∈ Sem.events P (pure (Next.value (a.eval (Operand.const undef)))) w #[] := by simpa [Oper.asks, idle, execOp] using h1
            rw [show Sem.events P (pure (Next.value (a.eval (Operand.const undef)))) w #[] = #[] from rfl] at h8
            simp at h8
        unfold wpOp
        rw [ho]
        have hw : Region.wanted o (yielded ops a.tmps) = true := by simp [Region.wanted, hg]
        simp only [hw, if_true]
        exact .inl (h2 _ (fun a' w' q => wpAny_done hdone q fuel))
      · unfold wpOp at h1 ⊢
        rw [idle_get ho, if_neg hjn, hoj, idle_yielded ho] at h1
        rw [hoj]
        have hs' : (listed.setIfInBounds j true).size = ops.size := by rw [Array.size_setIfInBounds]; exact hs
        have hn' : (listed.setIfInBounds j true)[n]? = some false := by rw [Array.getElem?_setIfInBounds_ne hjn]; exact hn
        have hc' : ∀ (k : Nat) (o : Oper), ops[k]? = some o → (listed.setIfInBounds j true)[k]? = some true → ∀ e ∈ o.after, Region.binds .any e = true → (listed.setIfInBounds j true)[e.on]? = some true := by
          intro k ok hok hk e he hb
          have old : listed[e.on]? = some true → (listed.setIfInBounds j true)[e.on]? = some true := fun h => by
            rw [Array.getElem?_setIfInBounds]
            by_cases x : j = e.on
            · rw [if_pos x, if_pos hjlt]
            · rw [if_neg x]; exact h
          by_cases x : j = k
          · subst x
            rw [hoj] at hok
            obtain rfl := Option.some.inj hok
            have h5 := hall e he hb
            refine old ?_
            rcases Nat.lt_or_ge e.on listed.size with h | h
            · simpa [Array.getD_eq_getD_getElem?, Array.getElem?_eq_getElem h] using h5
            · simp [Array.getD_eq_getD_getElem?, Array.getElem?_eq_none h] at h5
          · rw [Array.getElem?_setIfInBounds_ne x] at hk
            exact old (hc k ok hok hk e he hb)
        by_cases hw : Region.wanted oj (yielded ops a.tmps) = true
        · simp only [hw, if_true] at h1 ⊢
          rcases h1 with h1 | ⟨h1, h2⟩
          · exact .inl (Oper.wp_mono (fun a' w' q => ih _ a' w' hs' hn' hc' q) (wp_behind h1))
          · exact .inr ⟨h1, h2⟩
        · simp only [hw] at h1 ⊢
          exact ih _ _ w hs' hn' hc' h1
end
theorem takeIn {P : Program} {md : Region.Mode} {ops : Array Oper} {Q : Exit → Act → World → Prop} {S : World → Prop} (i : Nat) {oi : Oper} {v : Value} {fuel : Nat} {listed : Array Bool} {a : Act} {w : World} (hi : ops.toList[i]? = some oi)
    (hs : Region.noSelect ops = true) (hf : Region.free md ops listed i = true) (hr : (Region.ready md ops listed).contains i = true)
    (hQ : ∀ c a w, Q (.panic c) (a.put oi.dst v) w → Q (.panic c) a w) (hg : oi.guard = none) (hy : ∀ w, S w → (execOp a.eval oi).run P w = .ok (.value v) w) (hS : S w)
    (h : wpAnyH P md ops Q S fuel (listed.setIfInBounds i true) (a.put oi.dst v) w) : wpAnyH P md ops Q S (fuel + 1) listed a w :=
  wpAnyH_take (by rw [← Array.getElem?_toList]; exact hi) hs hf hr hQ (.inl ⟨by simp [Region.wanted, hg], hy⟩) hS h
theorem stepIn {P : Program} {md : Region.Mode} {ops : Array Oper} {Q : Exit → Act → World → Prop} {S : World → Prop} (i : Nat) {oi : Oper} {fuel : Nat} {listed : Array Bool} {a : Act} {w : World} (hi : ops.toList[i]? = some oi) (hr : Region.ready md ops listed = [i])
    (h : ∀ K' : Act → World → Prop, Shut (∀ a w, S w → (S w → wpAnyH P md ops Q S fuel (listed.setIfInBounds i true) a w) → K' a w) → if Region.wanted oi (yielded ops a.tmps) = true then Oper.wp P oi a w K' Q else K' (a.put oi.dst undef) w) : wpAnyH P md ops Q S (fuel + 1) listed a w :=
  wpAnyH_ready hr (by simp) (AllReadyH.cons (by rw [← Array.getElem?_toList]; exact hi) h AllReadyH.nil)
theorem wp_region_last {P : Program} {id : Nat} {ops : Array Oper} {Q : Exit → Act → World → Prop} {a : Act} {w : World} (n : Nat) {o : Oper} (hx : ops.toList[n]? = some o) (hl : lastOk ops n = true) (hd : o.dst = none) (hg : o.guard = none) (hm : P.follows .mixedOrders = true)
    (h : ∀ ops', ops' = ops.setIfInBounds n (idle o) → wpAny P .any ops' (Behind P o Q) ops'.size (Array.replicate ops'.size false) a w.drew) : (Code.region id ops true).wp P Q a w := by
  have ho : ops[n]? = some o := by rw [← Array.getElem?_toList]; exact hx
  refine wp_region_any hm ?_
  have h1 := h _ rfl
  rw [Array.size_setIfInBounds] at h1
  have hn := (Array.getElem?_eq_some_iff.1 ho).1
  refine wpAny_last ho hl hd hg _ _ a _ (by simp) ?_ ?_ h1
  · rw [Array.getElem?_replicate, if_pos hn]
  · intro k ok _ hk
    rw [Array.getElem?_replicate] at hk
    split at hk <;> cases hk
end Go.Proofs.Ytfcpclpaalekiaa
namespace Go.Proofs.Ytfcpclpaalekiaa
open Go
variable {P : Program} {ops : Array Oper} {Q : Exit → Act → World → Prop} {n l : Nat}
theorem oper_inRound {o : Oper} {a : Act} {w : World} {K : Act → World → Prop} (hd : ∀ c, o.op ≠ .defer c) (h : o.wp P a w K Q) : o.wpIn (Fence.wide.inRound l) n P a w K Q := by
  refine ⟨fun _ _ => trivial, ?_⟩
  rw [Oper.semAt_eq _ _ _ hd]
  unfold Oper.wp at h
  generalize (execOp a.eval o).run P w = r at *
  cases r with
  | ok x w' =>
    cases x <;> simp only [Oper.upon, Oper.uponIn] at h ⊢ <;>
      first
        | exact h
        | exact h.elim
        | exact ⟨fun e => (by cases e), CallsIn.inRound l (callsIn_wide.2 h)⟩
        | exact ⟨fun e => (by cases e), fun c cs _ => let ⟨v, w'', r, s⟩ := h c cs; ⟨v, w'', r, (stepsIn_wide (P := P)).2 s⟩⟩
  | halt x w' => cases x <;> simp only [Oper.upon, Oper.uponIn] at h ⊢ <;> exact h
end Go.Proofs.Ytfcpclpaalekiaa
namespace Go.Proofs.Ytfcpclpaalekiaa
open Go.RowKit Go.Shelf
attribute [local go_sem] Oper.semAt_some
set_option linter.unusedSimpArgs false
set_option linter.unusedVariables false
abbrev RM : Type := { m : MB // m.right }
end Go.Proofs.Ytfcpclpaalekiaa
namespace Go.Proofs.Ytfcpclpaalekiaa
open Go.RowKit Go.Shelf
attribute [local go_sem] Oper.semAt_some
set_option linter.unusedSimpArgs false
set_option linter.unusedVariables false
theorem infoMember : (Try.prog.info? tMember).map (fun i => (i.zero, i.size, i.bytes)) = some (some (.agg #[.int .i64 0, .int .i64 0]), 2, 16) := by kernel_rfl
end Go.Proofs.Ytfcpclpaalekiaa
namespace Go.Proofs.Ytfcpclpaalekiaa
open Go.RowKit Go.Shelf
attribute [local go_sem] Oper.semAt_some
set_option linter.unusedSimpArgs false
set_option linter.unusedVariables false
end Go.Proofs.Ytfcpclpaalekiaa
namespace Go.Proofs.Ytfcpclpaalekiaa
open Go
theorem countP_less {p q : Nat → Bool} {L : List Nat} {i : Nat} (hi : i ∈ L) (hpq : ∀ k, q k = true → p k = true) (hp : p i = true) (hq : q i = false) : L.countP q < L.countP p := by
  induction L with
  | nil => cases hi
  | cons a L ih =>
    rw [List.countP_cons, List.countP_cons]
    have hle : L.countP q ≤ L.countP p := List.countP_mono_left fun k _ => hpq k
    by_cases e : a = i
    · subst e
      simp [hp, hq]
      omega
    · have h1 := ih (by
        rcases List.mem_cons.1 hi with h | h
        · exact absurd h.symm e
        · exact h)
      have h2 : (if q a = true then 1 else 0) ≤ (if p a = true then 1 else 0) := by
        cases h : q a
        · simp
        · simp [hpq a h]
      omega
def left (n : Nat) (listed : Array Bool) : Nat := (List.range n).countP fun k => !listed.getD k true
theorem left_set {ops : Array Oper} {md : Region.Mode} {listed : Array Bool} {i : Nat} (h : i ∈ Region.ready md ops listed) : left ops.size (listed.setIfInBounds i true) < left ops.size listed := by
  obtain ⟨h1, o, h2, _⟩ := mem_ready.1 h
  have hn : i < ops.size := (Array.getElem?_eq_some_iff.1 h2).1
  refine countP_less (i := i) (List.mem_range.2 hn) ?_ (by simp only [h1]; rfl) ?_
  · intro k hk
    by_cases e : i = k
    · subst e; simp only [h1]; rfl
    · rw [getD_set_ne true e] at hk
      exact hk
  · have hl : i < listed.size := by
      rcases Nat.lt_or_ge i listed.size with h' | h'
      · exact h'
      · rw [Array.getD_eq_getD_getElem?, Array.getElem?_eq_none h'] at h1
        cases h1
    simp [Array.getD_eq_getD_getElem?, hl]
theorem wpAny_inv {P : Program} {md : Region.Mode} {ops : Array Oper} {Q : Exit → Act → World → Prop} (I : Array Bool → Act → World → Prop)
    (step : ∀ listed a w i, i ∈ Region.ready md ops listed → I listed a w → wpOp P ops Q i (fun a' w' => I (listed.setIfInBounds i true) a' w') a w)
    (done : ∀ listed a w, Region.ready md ops listed = [] → I listed a w → Q .normal a w) :
    ∀ (fuel : Nat) (listed : Array Bool) (a : Act) (w : World), left ops.size listed ≤ fuel → I listed a w → wpAny P md ops Q fuel listed a w := by
  intro fuel
  induction fuel with
  | zero =>
    intro listed a w hl h
    have hr : Region.ready md ops listed = [] := by
      cases e : Region.ready md ops listed with
      | nil => rfl
      | cons i l =>
        have := left_set (md := md) (ops := ops) (listed := listed) (i := i) (by rw [e]; exact List.mem_cons_self)
        omega
    exact ⟨hr, done listed a w hr h⟩
  | succ fuel ih =>
    intro listed a w hl h
    refine ⟨fun hr => done listed a w hr h, fun i hi => ?_⟩
    refine wpOp_mono (fun a' w' h' => ih _ a' w' ?_ h') (step listed a w i hi h)
    have := left_set hi
    omega
end Go.Proofs.Ytfcpclpaalekiaa
