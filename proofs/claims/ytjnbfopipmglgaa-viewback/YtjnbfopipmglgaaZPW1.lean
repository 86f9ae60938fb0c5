/-
  The program's function that is ranged over: the members of a list.
-/
import Derived.RangeFuncNested
import Derived.RangeFuncBound
import Derived.RangeFuncCalls
import Derived.RangeFuncLeaves
import Derived.Shelf.Abstract
import Derived.Shelf.RegionOpen
import Derived.WalkKit
import Derived.OwnWalkIn
import Derived.TacticsInMore
import Derived.LoopNIn
import Derived.LoopIn
import Derived.Test.YtjnbfopipmglgaaZVM
import Derived.Test.YtjnbfopipmglgaaProg
namespace Go.Proofs.Ytjnbfopipmglgaa
open Go.RowKit Go.Shelf

attribute [local go_sem] Oper.semAt_some
set_option linter.unusedSimpArgs false
set_option linter.unusedVariables false

/-- A row wherever it lies: its first k come. -/
theorem take_next {α : Type} (zs : List α) (k : Nat) (hk : k < zs.length) : zs.take (k + 1) = zs.take k ++ [zs[k]] := by
  rw [List.take_succ_eq_append_getElem hk]
set_option maxRecDepth 100000 in
set_option maxHeartbeats 4000000 in
/-- each's function: all come, one by one, or as many as are asked for. -/
theorem each1_in {α : Type} (f : α → MB) (n l Bs n₀ b off cap : Nat) (zs : List α) (hreach : zs.length ≤ 4611686018427387903) (J Jx : List α → World → Prop)
    (hY : ∀ pre x W, J pre W → pre.length < zs.length → YieldAt Fence.wide (n - 1) Try.prog l #[(f x).v] W fun e W' =>
      (e = .returned (.bool true) ∧ J (pre ++ [x]) W' ∧ Below n₀ W W') ∨ (e = .returned (.bool false) ∧ Jx (pre ++ [x]) W'))
    (W : World) (hJ : ∀ pre W (o : Obj), J pre W → J pre (W.alloc o)) (hn0 : n₀ ≤ W.heap.size) (ao : Option Addr) (hBs : W.cell? ⟨Bs, 0, none⟩ = some (.slice ao zs.length cap)) (hc : ∀ W', Below n₀ W W' → MemsAt W' ao (zs.map f)) (h0 : J [] W) :
    CallsIn Fence.wide n Try.prog 47 #[.func (.yield l) #[] #[], .pointer (some ⟨Bs, 0, none⟩)] W fun e W' => (∃ v, e = .returned v) ∧
      ((∃ ys, ys = zs ∧ J ys W') ∨ (∃ pre, pre <+: zs ∧ Jx pre W')) := by
  refine callsIn_of_wp Try.func47 rfl trivial ?_ rfl
  simp only [Try.ntmps47, List.size_toArray, List.length_cons, List.length_nil, Nat.reduceAdd, Nat.reduceSub, Array.replicate_succ, Array.replicate_zero, List.push_toArray, List.append_toArray, List.nil_append, List.cons_append]
  gi_wp2
  gi_loopw [7] (fun i wr => ∃ k : Nat, k ≤ zs.length ∧ i = .int .i64 k ∧ J (zs.take k) wr ∧ Below n₀ W wr)
    (fun i _ => zs.length - (intOf i).toNat)
  case atStart => exact ⟨0, Nat.zero_le _, rfl, h0, Below.refl _ _⟩
  case round =>
    obtain ⟨k, hk, rfl, hJs, hnx⟩ := hrel
    by_cases hlt : k < zs.length
    · have hM := hc _ hnx k (by simpa using hlt)
      obtain ⟨b, off, rfl, hb, y0, y1⟩ := hM
      simp only [List.getElem_map] at y0 y1
      obtain ⟨x, hx⟩ : ∃ x, zs[k] = x := ⟨_, rfl⟩
      rw [hx] at y0 y1
      obtain ⟨fn, tmps, assign, body, hy, hR⟩ := hY _ x (wr.alloc (.cells #[.int .i64 (f x).node, .int .i64 (f x).life] 38)) (hJ _ _ _ hJs) (by rw [List.length_take]; omega)
      simp only [MB.v] at hy
      gi_wp2
      refine ⟨fun h => (by cases h), hR.mono ?_⟩
      rintro e W3 (⟨rfl, hJ3, hk3⟩ | ⟨rfl, hJx3⟩)
      · gi_wp2
        go_roundw
        case rel => exact ⟨k + 1, by omega, by simp, by rw [take_next _ _ hlt, hx]; exact hJ3, (hnx.alloc (Nat.le_trans hn0 hnx.size) _).trans hk3⟩
        case measure => simp [intOf]; omega
      · gi_wp2
        refine bodyPost_ret (results_none rfl _ _ _) rfl ?_
        exact ⟨⟨_, rfl⟩, .inr ⟨_, by rw [← hx, ← take_next _ _ hlt]; exact List.take_prefix _ _, hJx3⟩⟩
    · obtain rfl : k = zs.length := by omega
      gi_wp2
      go_end0
      exact ⟨⟨_, rfl⟩, .inl ⟨_, List.take_length, hJs⟩⟩
set_option maxHeartbeats 1000000 in
theorem each_in (n : Nat) (a : Option Addr) (len cap : Nat) (w : World) :
    CallsIn Fence.wide n Try.prog 28 #[.slice a len cap] w fun e w' => e = .returned (.func (.func 47) #[] #[.pointer (some ⟨w.heap.size, 0, none⟩)]) ∧ w' = w.alloc (.cells #[.slice a len cap] 22) := by
  refine callsIn_of_wp Try.func28 rfl trivial ?_ rfl
  simp only [Try.ntmps28, List.size_toArray, List.length_cons, List.length_nil, Nat.reduceAdd, Nat.reduceSub, Array.replicate_succ, Array.replicate_zero, List.push_toArray, List.append_toArray, List.nil_append, List.cons_append]
  gi_wp2
  go_ret
  exact ⟨rfl, rfl⟩
theorem each_stops {α : Type} (f : α → MB) (n Bs cap : Nat) (ao : Option Addr) (zs : List α) (hreach : zs.length ≤ 4611686018427387903) (w0 w : World) (hBs : Bs < w.heap.size) (hb : Below w0.heap.size w0 w)
    (hc : w.cell? ⟨Bs, 0, none⟩ = some (.slice ao zs.length cap)) (hM : MemsAt w0 ao (zs.map f)) :
    SeqStopsK Fence.wide n Try.prog 47 #[.pointer (some ⟨Bs, 0, none⟩)] (fun x : α => #[(f x).v]) (Below w0.heap.size) (fun ys => ys = zs) (fun pre => pre <+: zs) zs.length w := fun l J Jx W hW hJ _ hY h0 => by
  have hc' := (hW.cell (p := ⟨Bs, 0, none⟩) hBs).trans hc
  have hb' : Below w0.heap.size w0 W := hb.trans (hW.mono hb.size)
  exact each1_in f n l Bs w0.heap.size 0 0 cap zs hreach J Jx hY W (fun pre X o h => hJ pre X _ none h (World.grownBy_alloc X o none) (fun r e => by cases e)) hb'.size ao hc' (fun X hX => hM.below (hb'.trans hX)) h0
/-- A member in a box of its own. -/
def Box2 (W : World) (B : Nat) (m : MB) : Prop := W.heap[B]? = some (.cells #[.int .i64 m.node, .int .i64 m.life] 38 (0, 0))
theorem Box2.own {β : Type} (B : Nat) (f : β → MB) : Own (fun s W => Box2 W B (f s)) := fun s X Y row hs hg hrow => by
  refine (hg.block B (heap_lt hs) (fun e' => ?_)).trans hs
  obtain ⟨o, ho, hc⟩ := hrow B e'.symm
  rw [show X.heap[B]? = _ from hs] at ho
  cases ho
  cases hc
theorem Box2.cells {W : World} {B : Nat} {m : MB} (h : Box2 W B m) : W.cell? ⟨B, 0, none⟩ = some (.int .i64 m.node) ∧ W.cell? ⟨B, 1, none⟩ = some (.int .i64 m.life) := by
  unfold Box2 at h
  constructor <;> simp [World.cell?, h]
theorem Box2.new (W : World) (m : MB) : Box2 (W.alloc (.cells #[.int .i64 m.node, .int .i64 m.life] 38)) W.heap.size m := World.alloc_heap_new W _
/-- What stands in a box is kept by whoever turns no cells. -/
theorem box_own {β : Type} (B : Nat) (f : β → Obj) (hf : ∀ s, (f s).isCells = true) : Own (fun s W => W.heap[B]? = some (f s)) := fun s X Y row hs hg hrow => by
  refine (hg.block B (heap_lt hs) (fun e' => ?_)).trans hs
  obtain ⟨o, ho, hc⟩ := hrow B e'.symm
  rw [show X.heap[B]? = _ from hs] at ho
  cases ho
  rw [hf] at hc
  cases hc
theorem Own.and {β : Type} {I I' : β → World → Prop} (h : Own I) (h' : Own I') : Own (fun s W => I s W ∧ I' s W) := fun s X Y row hs hg hr => ⟨h s X Y row hs.1 hg hr, h' s X Y row hs.2 hg hr⟩
theorem own_pure {β : Type} (p : β → Prop) : Own (fun s (_ : World) => p s) := fun _ _ _ _ hs _ _ => hs
theorem box1_cell {W : World} {B : Nat} {v : Value} {t : TypeId} (h : W.heap[B]? = some (.cells #[v] t (0, 0))) : W.cell? ⟨B, 0, none⟩ = some v := by simp [World.cell?, h]
theorem box1_frozen {W : World} {B : Nat} {v : Value} {t : TypeId} (h : W.heap[B]? = some (.cells #[v] t (0, 0))) : W.frozen? ⟨B, 0, none⟩ = false := by simp [World.frozen?, h]
theorem box1_set {W : World} {B : Nat} {v : Value} {t : TypeId} (v' : Value) (h : W.heap[B]? = some (.cells #[v] t (0, 0))) : (W.setCell ⟨B, 0, none⟩ v').heap[B]? = some (.cells #[v'] t (0, 0)) := by
  obtain ⟨hlt, hk⟩ := Array.getElem?_eq_some_iff.1 h
  show (W.heap.modify B _)[B]? = _
  rw [Array.getElem?_eq_getElem (by rw [Array.size_modify]; exact hlt), Array.getElem_modify_self, hk]
  rfl
theorem heap_up {w : World} {b : Nat} {o o' : Obj} (h : w.heap[b]? = some o) : (w.alloc o').heap[b]? = some o := (Below.heap_alloc w o' b (Array.getElem?_eq_some_iff.1 h).1).trans h
theorem heap_set_ne {W : World} {B k : Nat} {o : Obj} (v : Value) (h : W.heap[k]? = some o) (hne : k ≠ B) : (W.setCell ⟨B, 0, none⟩ v).heap[k]? = some o := (Below.heap_setCell W ⟨B, 0, none⟩ v k hne).trans h
/-- What stood ahead of the deferred calls' taking stands behind it. -/
theorem put_keeps {W : World} {D k : Nat} {o o2 : Obj} (hK : W.heap[D]? = some (.deferred (some []))) (h : W.heap[k]? = some o) (hc : o.isCells = true) : (W.putObj D o2).heap[k]? = some o := by
  refine (World.putObj_heap_other ?_).trans h
  intro e
  subst e
  rw [h] at hK
  cases hK
  cases hc
/-- Behind the last of a function's own: nothing that lay ahead of it has turned. -/
theorem below_put {w W : World} {D B : Nat} {o2 : Obj} (hB : Below B w W) (hD : B ≤ D) (hK : W.heap[D]? = some (.deferred (some []))) : Below B w (W.putObj D o2) :=
  hB.grown (grownBy_putObj' W D o2) (Nat.le_trans hD (Nat.le_of_lt (heap_lt hK))) (fun k e => by cases e; exact hD)
end Go.Proofs.Ytjnbfopipmglgaa
