/-
  slices.AppendSeq and Collect of a function that goes over another one (mkqg.py)
-/
import Derived.Test.YtjnbfopipmglgaaZHE
import Derived.Test.YtjnbfopipmglgaaZGives
namespace Go.Proofs.Ytjnbfopipmglgaa
open Go.RowKit Go.Shelf

attribute [local go_sem] Oper.semAt_some
set_option linter.unusedSimpArgs false
set_option linter.unusedVariables false

/-- A row is appended to, and its box set: nothing else from B on has turned. -/
theorem keepsT_append {W w1 : World} {B n₀ b : Nat} {bt : TypeId} {v v' u : Value} {k : Nat} {xs : List Value} {tmp : Obj} (h1 : Boxed W b bt u) (h2 : W.ownsRow n₀ tMember 2 v k xs) (hg : (W.alloc tmp).grownBy w1 v.ownBlock) (hb : b < B) : KeepsT B tMember W (w1.setCell ⟨b, 0, none⟩ v') := by
  refine (((KeepsT.refl B tMember W).alloc tmp).trans (KeepsT.of_grownBy hg fun j e => ?_)).trans (KeepsT.of_grownBy (grownBy_setCell' w1 b v') fun j e => by cases e; exact .inl hb)
  rcases (h2.alloc tmp).2 with ⟨rfl, _⟩ | ⟨g, cap, cur, rfl, _, hgb, _⟩
  · simp [Value.ownBlock] at e
  · obtain rfl : g = j := by simpa [Value.ownBlock] using e
    exact .inr ⟨cur, hgb⟩
set_option maxRecDepth 100000 in
set_option maxHeartbeats 8000000 in
/-- slices.AppendSeq to nothing: what comes, in a row of its own. -/
theorem pappendG {α : Type} (f : α → MB) (S : List α → Prop) (N n₀ g : Nat) (hN : N ≤ 1000000) (lb : Array Value) (eg : ∀ args w, (callFunc g args).run Try.prog w = .ok (.enter g args) w) (w : World) (hn0 : n₀ ≤ w.heap.size)
    (hseq : Gives Try.prog tMember g lb (fun x : α => (f x).v) n₀ S N w) :
    Calls Try.prog 43 #[.slice none 0 0, .func (.func g) #[] lb] w fun e w' => ∃ xs ao cp, S xs ∧ e = .returned (.slice ao xs.length cp) ∧ w'.ownsRow w.heap.size tMember 2 (.slice ao xs.length cp) xs.length (mbCells (xs.map f)) ∧ Below w.heap.size w w' := by
  obtain ⟨i0, hi, hz0, hz1, hz2⟩ := info_parts infoMember
  refine (callsIn_wide (n := 9)).1 ?_
  refine callsIn_of_wp_marks Try.func43 rfl trivial ?_ rfl
  simp only [Try.ntmps43, List.size_toArray, List.length_cons, List.length_nil, Nat.reduceAdd, Nat.reduceSub, Array.replicate_succ, Array.replicate_zero, List.push_toArray, List.append_toArray, List.nil_append, List.cons_append]
  gi_wp2
  obtain ⟨wz, e1⟩ : ∃ wn : World, w.alloc (.cells #[.slice none 0 0] 22) = wn := ⟨_, rfl⟩
  have s1 : wz.heap.size = w.heap.size + 1 := by rw [← e1]; simp
  have b1 : Below w.heap.size w wz := by rw [← e1]; exact (Below.refl _ w).alloc (Nat.le_refl _) _
  have X0 : Boxed wz w.heap.size 22 (.slice none 0 0) := by rw [← e1]; exact World.alloc_heap_new _ _
  rw [e1]
  clear e1
  refine wpIn_range_gives rfl eg hseq (by omega) b1 rfl
    (fun pre W => (∃ v, Boxed W w.heap.size 22 v ∧ W.ownsRow w.heap.size tMember 2 v pre.length (mbCells (pre.map f)) ∧ True) ∧ Below w.heap.size w W)
    (OwnFrom.and (Own.from (holdsRow_own w.heap.size w.heap.size 22 tMember 2 (fun pre : List α => pre.length) (fun pre => mbCells (pre.map f)) (fun _ _ => True)) _) (ownFrom_below (Nat.le_refl _) (by omega)))
    ⟨⟨_, X0, World.ownsRow_nil _ _ _ _, trivial⟩, b1⟩
    (fun x a' W => ∃ Bx, Box2 W Bx (f x) ∧ a' = { tmps := #[.slice none 0 0, .func (.func g) #[] lb, .pointer (some ⟨w.heap.size, 0, none⟩), undef, .slice none 0 0, .pointer (some ⟨Bx, 0, none⟩), .func (.func g) #[] lb, (f x).v, undef, undef, undef, undef, undef], defers := [] })
    (fun x a' s X Y row hs hg hr => by obtain ⟨Bx, h1, h2⟩ := hs; exact ⟨Bx, Own.from (Box2.own (β := Unit) Bx fun _ => f x) _ () X Y row h1 hg hr, h2⟩) ?assign ?body ?done
  case assign =>
    rintro l m pre x W K ⟨⟨v, h1, h2, _⟩, hB⟩ hK
    simp only [MB.v]
    gi_wp2
    exact hK _ _ ((KeepsT.refl _ _ W).alloc _) ((Below.refl _ W).alloc (by have := hB.size; omega) _) ⟨⟨v, h1.alloc _, h2.alloc _, trivial⟩, hB.alloc hB.size _⟩ ⟨W.heap.size, Box2.new W (f x), rfl⟩
  case body =>
    rintro l m pre x a' W ⟨⟨v, h1, h2, _⟩, hB⟩ ⟨Bx, hx, rfl⟩ hlt
    obtain ⟨c0, c1⟩ := hx.cells
    have c2 := h1.cell
    gi_wp2_with (gi_at_builtin; refine wpListIn_append_own _ rfl _ _ 22 rfl w.heap.size tMember i0 (.agg #[.int .i64 0, .int .i64 0]) 2 16 Try.underlying22 hi hz0 hz1 hz2 rfl (by decide) _ _ _ rfl (h2.alloc _) ⟨W.heap.size, 0, none⟩ 1 1 [.int .i64 (f x).node, .int .i64 (f x).life] rfl rfl (fun j u hj => by
        have hb := World.alloc_heap_new W (.cells #[.int .i64 (f x).node, .int .i64 (f x).life] tMember)
        match j, hj with
        | 0, hj => cases hj; rw [Addr.add_lit]; exact box_cell hb 0 rfl
        | 1, hj => cases hj; rw [Addr.add_lit]; exact box_cell hb 1 rfl) (by simp [Value.oneCell']) (by have : maxLen = 9223372036854775807 := rfl; omega) (by omega) (by have := hB.size; simp; omega) ?_; intro v' w1 hown' hgrow _; obtain ⟨g', cap', rfl⟩ := ownsRow_succ hown'; obtain ⟨hv1, hv2, hr2, hk2, hb2⟩ := h1.appended (by decide) h2 hB.size (Nat.le_refl _) hown' hgrow; have hc1 := hv1.cell; have hf1 := hv1.frozen)
    exact ⟨keepsT_append h1 h2 hgrow (by omega), hb2.mono hn0, ⟨_, hv2, by rw [mbCells_append]; exact hr2⟩, hB.trans hb2⟩
  case done =>
    rintro D ys W hD hS ⟨⟨v, h1, h2, _⟩, hB⟩ hK
    have hc := h1.cell
    obtain ⟨ao, cp, rfl⟩ := row_slice h2
    gi_wp2
    refine ⟨by simp, .inl ⟨_, _, rfl, run_takeDeferred hK, ?_⟩⟩
    exact ⟨_, results_tmp rfl _ _ _, ys, ao, cp, hS, rfl, ownsRow_putObj h2 _ hK rfl, below_put hB (by omega) hK⟩
set_option maxHeartbeats 4000000 in
theorem pcollectG {α : Type} (f : α → MB) (S : List α → Prop) (N n₀ g : Nat) (hN : N ≤ 1000000) (lb : Array Value) (eg : ∀ args w, (callFunc g args).run Try.prog w = .ok (.enter g args) w) (w : World) (hn0 : n₀ ≤ w.heap.size)
    (hseq : Gives Try.prog tMember g lb (fun x : α => (f x).v) n₀ S N w) :
    Calls Try.prog 26 #[.func (.func g) #[] lb] w fun e w' => ∃ xs ao cp, S xs ∧ e = .returned (.slice ao xs.length cp) ∧ w'.ownsRow w.heap.size tMember 2 (.slice ao xs.length cp) xs.length (mbCells (xs.map f)) ∧ Below w.heap.size w w' := by
  have HA := hide (pappendG f S N n₀ g hN lb eg w hn0 hseq)
  clear hseq
  go_enter Try.func26, Try.ntmps26
  go_wp2_with (go_at_call 43; refine HA.out.mono ?_; rintro e w2 ⟨xs, ao, cp, hS, rfl, h1, h2⟩)
  go_ret
  exact ⟨xs, ao, cp, hS, rfl, h1, h2⟩
end Go.Proofs.Ytjnbfopipmglgaa
