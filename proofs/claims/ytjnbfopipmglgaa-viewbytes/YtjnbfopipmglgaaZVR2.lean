/-
  carillonref12's Has and Common, the law's views, as they run.
-/
import Derived.Test.YtjnbfopipmglgaaZVR0
import Derived.Laws.StructEq
import Derived.LoopTactic
namespace Go.Proofs.Ytjnbfopipmglgaa
open Go.RowKit
set_option linter.unusedSimpArgs false
set_option linter.unusedVariables false

theorem comm_take (L M : List MB) (i : Nat) (hi : i < L.length) : comm (L.take (i + 1)) M = comm (L.take i) M + if L[i] ∈ M then 1 else 0 := by
  unfold comm
  rw [List.take_add_one, List.filter_append, List.length_append, List.getElem?_eq_getElem hi]
  simp only [Option.toList_some, List.filter_cons, List.filter_nil]
  by_cases h : L[i] ∈ M <;> simp [h]
theorem comm_le (L M : List MB) : comm L M ≤ L.length := List.length_filter_le _ _
end Go.Proofs.Ytjnbfopipmglgaa
