/-
  Ranges over a function whose rounds never say 'no more', and that may itself go over another function; nothing of the program is in this text.
-/
import Derived.Test.YtjnbfopipmglgaaZM0
import Derived.RangeFuncNested
import Derived.RangeFuncBox
import Derived.RangeFuncCalls
import Derived.RangeFuncLeaves
namespace Go.Proofs.Ytjnbfopipmglgaa
open Go Go.RowKit

/-- From B on all but cells of the type t lies as it lay. -/
structure KeepsT (B : Nat) (t : TypeId) (W W' : World) : Prop where
  size : W.heap.size ≤ W'.heap.size
  same : ∀ (k : Nat) (o : Obj), B ≤ k → W.heap[k]? = some o → (∀ c, o ≠ .cells c t (0, 0)) → W'.heap[k]? = some o
theorem KeepsT.refl (B : Nat) (t : TypeId) (W : World) : KeepsT B t W W := ⟨Nat.le_refl _, fun _ _ _ h _ => h⟩
theorem KeepsT.trans {B : Nat} {t : TypeId} {X Y Z : World} (h : KeepsT B t X Y) (k : KeepsT B t Y Z) : KeepsT B t X Z := ⟨Nat.le_trans h.size k.size, fun i o hB hi ho => k.same i o hB (h.same i o hB hi ho) ho⟩
theorem KeepsT.up {B B' : Nat} {t : TypeId} {W W' : World} (h : KeepsT B t W W') (hB : B ≤ B') : KeepsT B' t W W' := ⟨h.size, fun k o hk => h.same k o (Nat.le_trans hB hk)⟩
theorem KeepsT.from {B : Nat} {t : TypeId} {W W' : World} (h : KeepsT B t W W') : KeepsFrom B W W' := ⟨h.size, fun k o hk ho hc => h.same k o hk ho fun c e => by rw [e] at hc; cases hc⟩
theorem KeepsT.of_grownBy {B : Nat} {t : TypeId} {W W' : World} {row : Option Nat} (hg : W.grownBy W' row) (hrow : ∀ j, row = some j → j < B ∨ ∃ c, W.heap[j]? = some (.cells c t (0, 0))) : KeepsT B t W W' :=
  ⟨hg.size, fun k o hB hk ho => (hg.block k (Array.getElem?_eq_some_iff.1 hk).1 (fun e => by
    rcases hrow k e.symm with h | ⟨c, h⟩
    · omega
    · rw [hk] at h
      exact ho c (Option.some.inj h))).trans hk⟩
theorem KeepsT.alloc {B : Nat} {t : TypeId} {W X : World} (h : KeepsT B t W X) (o : Obj) : KeepsT B t W (X.alloc o) := h.trans (KeepsT.of_grownBy (World.grownBy_alloc X o none) fun j e => by cases e)
/-- What such a function promises: all of S come, whatever its caller keeps, if the caller turns none of the function's own blocks. -/
def Gives {α : Type} (P : Program) (t : TypeId) (g : Nat) (lb : Array Value) (enc : α → Value) (n₀ : Nat) (S : List α → Prop) (N : Nat) (w : World) : Prop :=
  ∀ (l : Nat) (J : List α → World → Prop) (W : World), Below w.heap.size w W → OwnFrom W.heap.size J →
    (∀ pre x W1, J pre W1 → pre.length < N → W.heap.size ≤ W1.heap.size → ∀ m, YieldAt Fence.wide m P l #[enc x] W1 fun e W' => e = .returned (.bool true) ∧ J (pre ++ [x]) W' ∧ Below n₀ W1 W' ∧ KeepsT W.heap.size t W1 W') →
    J [] W → ∀ n, CallsIn Fence.wide n P g (#[.func (.yield l) #[] #[]] ++ lb) W fun e W' => (∃ v, e = .returned v) ∧ ∃ xs, S xs ∧ J xs W'
theorem own_up {β : Type} {B B' : Nat} {I : β → World → Prop} (h : OwnFrom B I) (hB : B ≤ B') : OwnFrom B' I := fun s X Y row hs hg hr => h s X Y row hs hg fun r e => ⟨Nat.le_trans hB (hr r e).1, (hr r e).2⟩
theorem put_from {B l : Nat} {t : TypeId} {W : World} {o : Obj} (hl : l < B) : KeepsT B t W (W.putObj l o) :=
  KeepsT.of_grownBy (grownBy_putObj' W l o) fun j e => by cases e; exact .inl hl
theorem put_below {B l : Nat} {W : World} {o o2 : Obj} (hl : B ≤ l) (h : W.heap[l]? = some o2) : Below B W (W.putObj l o) :=
  (Below.refl B W).grown (grownBy_putObj' W l o) (by have := (Array.getElem?_eq_some_iff.1 h).1; omega) fun k e => by cases e; exact hl
section
variable {P : Program} {n : Nat}
/-- The statement 'for x := range g { .. }' over such a function. -/
theorem wpIn_range_gives {α : Type} {g : Operand} {ps : Array Tmp} {assign body : Code} {Q : Exit → Act → World → Prop} {a : Act} {w : World} {gf : Nat} {lb : Array Value}
    (hg : a.eval g = .func (.func gf) #[] lb) (eg : ∀ args w, (callFunc gf args).run P w = .ok (.enter gf args) w)
    {t : TypeId} {enc : α → Value} {n₀ : Nat} {S : List α → Prop} {N : Nat} {w0 : World} (hseq : Gives P t gf lb enc n₀ S N w0) (hn0 : n₀ ≤ w.heap.size) (hb0 : Below w0.heap.size w0 w) (hps : ps.size = 1)
    (I : List α → World → Prop) (hI : OwnFrom w.heap.size I) (h0 : I [] w) (Ax : α → Act → World → Prop) (hAx : ∀ x a', OwnFrom w.heap.size (fun (_ : Unit) W => Ax x a' W))
    (hassign : ∀ (l m : Nat) (pre : List α) (x : α) (W : World) (K : Act → World → Prop), I pre W → (∀ a' W', KeepsT w.heap.size t W W' → Below n₀ W W' → I pre W' → Ax x a' W' → K a' W') →
      assign.wpIn (Fence.wide.inRound l) m P (Exit.then K (fun _ _ _ => False)) { tmps := (ps.zip #[enc x]).foldl (fun t (p, v) => t.setIfInBounds p v) a.tmps, defers := [] } W)
    (hbody : ∀ (l m : Nat) (pre : List α) (x : α) (a' : Act) (W : World), I pre W → Ax x a' W → pre.length < N → body.wpIn (Fence.wide.inRound l) m P (fun e _ W' => e = .normal ∧ KeepsT w.heap.size t W W' ∧ Below n₀ W W' ∧ I (pre ++ [x]) W') a' W)
    (hdone : ∀ (D : Nat) (xs : List α) (W : World), w.heap.size ≤ D → S xs → I xs W → W.heap[D]? = some (.deferred (some [])) → Q .normal { a with defers := { target := .collected D, args := #[] } :: a.defers } W) :
    (Code.rangeFunc g ps assign body).wpIn Fence.wide n P Q a w := by
  refine wpIn_rangeFunc fun fn hfn => ?_
  obtain ⟨D, hD⟩ : ∃ D, w.heap.size = D := ⟨_, rfl⟩
  obtain ⟨rc, hrc⟩ : ∃ rc : Loop, rc = { state := .ready, pending := none, fn, tmps := a.tmps, params := ps, assign, body, defers := D } := ⟨_, rfl⟩
  obtain ⟨V, hV⟩ : ∃ V, (w.alloc (.deferred (some []))).alloc (.loop rc) = V := ⟨_, rfl⟩
  have v1 : V.heap.size = D + 2 := by rw [← hV, ← hD]; simp
  have v2 : V.heap[D + 1]? = some (.loop rc) := by
    rw [← hV, ← hD, show w.heap.size + 1 = (w.alloc (.deferred (some []))).heap.size by simp]
    exact World.alloc_heap_new _ _
  have v3 : V.heap[D]? = some (.deferred (some [])) := by
    rw [← hV, ← hD]
    exact (Below.heap_alloc _ _ _ (by simp)).trans (World.alloc_heap_new w _)
  have v4 : I [] V := by rw [← hV]; exact hI.alloc _ (hI.alloc _ h0)
  have v5 : Below w0.heap.size w0 V := by
    rw [← hV]
    exact hb0.trans ((((Below.refl _ w).alloc (Nat.le_refl _) _).alloc (by simp) _).mono hb0.size)
  rw [hD] at hI hAx hassign hbody hdone hn0
  refine ⟨D + 1, [{ target := .collected D, args := #[] }], V, { target := .fn (.func gf) lb, args := #[.func (.yield (D + 1)) #[] #[]] }, V, gf, #[.func (.yield (D + 1)) #[] #[]] ++ lb, V, ?_, ?_, fun _ _ => trivial, ?_, fun h => (by cases h), ?_⟩
  · rw [← hV, hrc, ← hD]
    exact run_enterLoop_outer _ _ _ _ _
  · simp only [resolve, hg]
    simp [go_sem]
  · simp [invoke, go_sem, eg]
  refine (hseq (D + 1) (fun pre W => I pre W ∧ W.heap[D + 1]? = some (.loop rc) ∧ W.heap[D]? = some (.deferred (some []))) V v5 ?_ ?_ ⟨v4, v2, v3⟩ (n - 1)).mono ?_
  · -- what the caller keeps
    intro s X Y row hs hgr hr
    have out : ∀ k, k < V.heap.size → some k ≠ row := fun k hk e => by have := (hr k e.symm).1; omega
    exact ⟨(own_up hI (by omega)) s X Y row hs.1 hgr hr, (hgr.block _ (heap_lt hs.2.1) (out _ (by omega))).trans hs.2.1, (hgr.block _ (heap_lt hs.2.2) (out _ (by omega))).trans hs.2.2⟩
  · -- a round
    rintro pre x X ⟨hi, hl, hk⟩ hlen hsz m
    have hy := run_yield (P := P) (args := #[enc x]) hl (by rw [hrc]; simp [hps])
    have e1 : rc.fn = fn := by rw [hrc]
    have e2 : rc.tmps = a.tmps := by rw [hrc]
    have e3 : rc.params = ps := by rw [hrc]
    have e4 : rc.assign = assign := by rw [hrc]
    have e5 : rc.body = body := by rw [hrc]
    have e6 : rc.state = .ready := by rw [hrc]
    have e7 : rc.pending = none := by rw [hrc]
    rw [e1, e2, e3, e4, e5] at hy
    refine ⟨fn, _, assign, body, hy, roundIn_of_wpIn trivial (hassign _ m pre x X _ hi ?_)⟩
    intro a1 X1 k1 b1 i1 ax1
    have l1 := k1.same _ _ (by omega) hl (fun c e => by cases e)
    have d1 := k1.same _ _ (Nat.le_refl _) hk (fun c e => by cases e)
    refine ⟨_, run_beginRound l1 e6, ?_⟩
    obtain ⟨rb, hrb⟩ : ∃ rb : Loop, rb = { rc with state := .busy } := ⟨_, rfl⟩
    rw [← hrb]
    have l2 : (X1.putObj (D + 1) (.loop rb)).heap[D + 1]? = some (.loop rb) := World.putObj_heap_same (heap_lt l1)
    have d2 : (X1.putObj (D + 1) (.loop rb)).heap[D]? = some (.deferred (some [])) := (World.putObj_heap_other (by omega)).trans d1
    have b2 : Below n₀ X1 (X1.putObj (D + 1) (.loop rb)) := put_below (by omega) l1
    have k2 : KeepsT V.heap.size t X1 (X1.putObj (D + 1) (.loop rb)) := put_from (by omega)
    refine wpIn_mono (hbody _ m pre x a1 _ (hI.putObj _ i1 (by omega) l1 rfl) ((hAx x a1).putObj (s := ()) _ ax1 (by omega) l1 rfl) hlen) ?_
    rintro e a3 X3 ⟨rfl, k3, b3, i3⟩
    have l3 := k3.same _ _ (by omega) l2 (fun c e => by cases e)
    have d3 := k3.same _ _ (Nat.le_refl _) d2 (fun c e => by cases e)
    have hend := run_endRound (P := P) none l3
    have hback : ({ rb with state := if (none : Option Code).isNone then LoopState.ready else LoopState.done, pending := none } : Loop) = rc := by rw [hrb, hrc]; rfl
    rw [hback] at hend
    refine ⟨_, _, hend, rfl, ⟨hI.putObj _ i3 (by omega) l3 rfl, World.putObj_heap_same (heap_lt l3), (World.putObj_heap_other (by omega)).trans d3⟩, ?_, ?_⟩
    · exact ((b1.trans b2).trans b3).trans (put_below (by omega) l3)
    · exact (((k1.up (by omega)).trans k2).trans (k3.up (by omega))).trans (put_from (by omega))
  · -- behind them
    rintro e X ⟨⟨v, rfl⟩, xs, hS, hi, hl, hk⟩
    refine ⟨rc.pending, _, run_endLoop hl (by rw [hrc]; simp), ?_⟩
    rw [show rc.pending = none by rw [hrc]]
    exact hdone _ xs _ (Nat.le_refl _) hS (hI.putObj _ hi (by omega) hl rfl) ((World.putObj_heap_other (by omega)).trans hk)
end
end Go.Proofs.Ytjnbfopipmglgaa
