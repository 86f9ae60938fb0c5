/-
  The table of what each kind needs (mkc3.py)
-/
import Derived.Test.YtominplelmbecaaZC2
import Derived.Laws.EntriesVeiled
import Derived.Deep.WholeRow
import Derived.Laws.ResultCell
namespace Go.Proofs.Ytominplelmbecaa
open Go.RowKit

attribute [local go_sem ↓] Go.wp_at_zero Go.wp_at_succ
set_option linter.unusedSimpArgs false
set_option linter.unusedVariables false
abbrev tNeeds : TypeId := 109
abbrev tAll : TypeId := 110
def fnV (k : Nat) : Value := .func (.func k) #[] #[]
/-- What each kind needs, by kinds. -/
def needsL : List Value := [.nilFunc, .nilFunc, .nilFunc, .nilFunc, .nilFunc, .nilFunc] ++ [fnV 30, fnV 65, fnV 66, fnV 65, fnV 65, fnV 66] ++ [fnV 30, fnV 30, fnV 51, fnV 67, fnV 68, fnV 66] ++ [fnV 30, fnV 30, fnV 66, fnV 65, fnV 65, fnV 69] ++ [fnV 65, fnV 30, fnV 66, fnV 65, fnV 65, fnV 66] ++ [fnV 65, fnV 30, fnV 66, fnV 65, fnV 65, fnV 70] ++ [fnV 65, fnV 30, fnV 66, fnV 65, fnV 65, fnV 51] ++ [fnV 65, fnV 30, fnV 66, fnV 65, fnV 65, fnV 51] ++ [fnV 30, fnV 65, fnV 66, fnV 65, fnV 65, fnV 51] ++ [fnV 30, fnV 65, fnV 66, fnV 65, fnV 65, fnV 51] ++ [fnV 65, fnV 65, fnV 66, fnV 65, fnV 65, fnV 50] ++ [fnV 65, fnV 65, fnV 66, fnV 65, fnV 65, fnV 50]
def needsA : Array Value := needsL.toArray
theorem info_all : (Try.prog.info? tAll).map (·.size) = some 72 := by kernel_rfl
theorem zero_all : Try.zeroCells110.size = 72 := by kernel_rfl
set_option maxHeartbeats 4000000 in
set_option maxRecDepth 100000 in
theorem pneeds (w : World) :
    Calls Try.prog 60 #[] w fun e w' => e = .returned (.agg needsA) ∧ Below w.heap.size w w' := by
  have hsc : ∀ L : List Value, L = needsL → (storeCells ⟨w.heap.size, 0, none⟩ L 0).run Try.prog (w.alloc (.cells Try.zeroCells110 tAll)) = .ok () (w.alloc (.cells needsA tAll)) := fun L h1 => by
    subst h1
    exact run_storeCells_new (P := Try.prog) w tAll Try.zeroCells110 needsA info_all zero_all (by kernel_rfl)
  have hld : (loadVar tAll ⟨w.heap.size, 0, none⟩).run Try.prog (w.alloc (.cells needsA tAll)) = .ok (.agg needsA) (w.alloc (.cells needsA tAll)) := run_loadVar_new w tAll needsA 12 tNeeds (by kernel_rfl) info_all
  have HS := hide hsc
  have HL := hide hld
  clear hsc hld
  go_enter Try.func60, Try.ntmps60
  go_wp2
  rename_i Kp hKp Ko hKo
  rw [HS.out _ (by kernel_rfl)]
  simp only [Result.andThen]
  rw [Oper.upon_skip]
  refine hKo _ _ ?_
  clear hKo
  refine (hKp _ _ ?_ : Kp _ _)
  clear hKp
  have hl := HL.out
  refine wp_ret ?_
  refine bodyPost_ret (v := .agg needsA) ?_ rfl ⟨rfl, (Below.refl _ _).alloc (Nat.le_refl _) _⟩
  simp [results, Try.results60, asAddr, Result.andThen, Act.put, hl]
end Go.Proofs.Ytominplelmbecaa
