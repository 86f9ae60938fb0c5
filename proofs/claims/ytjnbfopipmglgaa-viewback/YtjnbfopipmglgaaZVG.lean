/-
  What views' texts share (mkvn4.py).
-/
import Derived.Test.YtjnbfopipmglgaaZHC
import Derived.Test.YtjnbfopipmglgaaZVR2
import Derived.KernelRfl
namespace Go.Proofs.Ytjnbfopipmglgaa
open Go.RowKit

attribute [local go_sem ↓] Go.wp_at_zero Go.wp_at_succ
set_option linter.unusedSimpArgs false
set_option linter.unusedVariables false
theorem infoMB : (Try.prog.info? tMember).map (fun i => (i.zero, i.size, i.bytes)) = some (some (.agg #[.int .i64 0, .int .i64 0]), 2, 16) := by kernel_rfl
/-- What Next leaves: the members in a row of one's own. -/
structure NextGave (w w' : World) (e : Ending) (r : VW × Int) : Prop where
  res : ∃ ro rc, e = .returned (.tuple #[r.1.v ro rc, .int .i64 r.2]) ∧ w'.ownsRow w.heap.size tMember 2 (.slice ro r.1.mem.length rc) r.1.mem.length (mbCells r.1.mem)
  below : Below w.heap.size w w'
theorem life_take (A : List MB) (k : Int) (i : Nat) (hi : i < A.length) : lifeOf (A.take (i + 1)) k = if A[i].node = k then max (lifeOf (A.take i) k) A[i].life else lifeOf (A.take i) k := by
  unfold lifeOf
  rw [List.take_add_one, List.foldl_append, List.getElem?_eq_getElem hi]
  rfl
theorem mem_take (L : List Int) (k : Int) (i : Nat) (hi : i < L.length) : decide (k ∈ L.take (i + 1)) = (decide (k ∈ L.take i) || L[i] == k) := by
  rw [List.take_add_one, List.getElem?_eq_getElem hi]
  simp only [Option.toList_some, List.mem_append, List.mem_singleton, Bool.decide_or]
  congr 1
  by_cases e : k = L[i]
  · rw [decide_eq_true e, e]; simp
  · rw [decide_eq_false e]
    symm
    rw [beq_eq_false_iff_ne]
    exact fun c => e c.symm
theorem row_not {W : World} {B n : Nat} {v : Value} {xs : List Value} (h : W.ownsRow B tMember 2 v n xs) {j k : Nat} (hj : v.ownBlock = some j) {cs : Array Value} (hk : W.heap[k]? = some (.cells cs tView (0, 0))) : j ≠ k := fun e => by
  subst e
  rcases h.2 with ⟨rfl, _⟩ | ⟨g, cap, cur, rfl, _, hh, _⟩
  · cases hj
  · obtain rfl : g = j := Option.some.inj hj
    rw [hk] at hh
    injection hh with hh
    injection hh with _ hh _
    exact absurd hh (by decide)
end Go.Proofs.Ytjnbfopipmglgaa
