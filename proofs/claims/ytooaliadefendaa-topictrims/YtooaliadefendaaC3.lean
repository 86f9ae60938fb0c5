/-
  The table of what each kind needs (mkc3.py)
-/
import Derived.Test.YtooaliadefendaaC2
import Derived.Laws.EntriesVeiled
import Derived.Deep.WholeRow
import Derived.Laws.ResultCell
namespace Go.Proofs.Ytooaliadefendaa
open Go.RowKit

attribute [local go_sem ↓] Go.wp_at_zero Go.wp_at_succ
set_option linter.unusedSimpArgs false
set_option linter.unusedVariables false
abbrev tNeeds : TypeId := 69
abbrev tAll : TypeId := 70
def fnV (k : Nat) : Value := .func (.func k) #[] #[]
/-- What each kind needs, by kinds. -/
def needsL : List Value := [.nilFunc, .nilFunc, .nilFunc, .nilFunc, .nilFunc, .nilFunc] ++ [fnV 16, fnV 36, fnV 37, fnV 36, fnV 36, fnV 37] ++ [fnV 16, fnV 16, fnV 26, fnV 38, fnV 39, fnV 37] ++ [fnV 16, fnV 16, fnV 37, fnV 36, fnV 36, fnV 40] ++ [fnV 36, fnV 16, fnV 37, fnV 36, fnV 36, fnV 37] ++ [fnV 36, fnV 16, fnV 37, fnV 36, fnV 36, fnV 41] ++ [fnV 36, fnV 16, fnV 37, fnV 36, fnV 36, fnV 26] ++ [fnV 36, fnV 16, fnV 37, fnV 36, fnV 36, fnV 26] ++ [fnV 16, fnV 36, fnV 37, fnV 36, fnV 36, fnV 26] ++ [fnV 16, fnV 36, fnV 37, fnV 36, fnV 36, fnV 26] ++ [fnV 36, fnV 36, fnV 37, fnV 36, fnV 36, fnV 25] ++ [fnV 36, fnV 36, fnV 37, fnV 36, fnV 36, fnV 25]
def needsA : Array Value := needsL.toArray
theorem info_all : (Try.prog.info? tAll).map (·.size) = some 72 := by kernel_rfl
def Try.zeroCells70 : Array Value := (List.replicate 72 Value.nilFunc).toArray
theorem zero_value (w : World) : (zeroValue 70).run Try.prog w = .ok (.agg Try.zeroCells70) w := by kernel_rfl
theorem zero_size : Try.zeroCells70.size = 72 := by kernel_rfl
theorem zero_ne : Try.zeroCells70 ≠ #[] := fun h => by have := zero_size; rw [h] at this; cases this
attribute [local go_sem] zero_value zero_size
attribute [local simp] zero_ne
theorem zero_all : Try.zeroCells70.size = 72 := by kernel_rfl
set_option maxHeartbeats 4000000 in
set_option maxRecDepth 100000 in
theorem pneeds (w : World) :
    Calls Try.prog 34 #[] w fun e w' => e = .returned (.agg needsA) ∧ Below w.heap.size w w' := by
  have hsc : ∀ L : List Value, L = needsL → (storeCells ⟨w.heap.size, 0, none⟩ L 0).run Try.prog (w.alloc (.cells Try.zeroCells70 tAll)) = .ok () (w.alloc (.cells needsA tAll)) := fun L h1 => by
    subst h1
    exact run_storeCells_new (P := Try.prog) w tAll Try.zeroCells70 needsA info_all zero_all (by kernel_rfl)
  have hld : (loadVar tAll ⟨w.heap.size, 0, none⟩).run Try.prog (w.alloc (.cells needsA tAll)) = .ok (.agg needsA) (w.alloc (.cells needsA tAll)) := run_loadVar_new w tAll needsA 12 tNeeds (by kernel_rfl) info_all
  have HS := hide hsc
  have HL := hide hld
  clear hsc hld
  go_enter Try.func34, Try.ntmps34
  go_wp2
  rename_i Kp hKp Ko hKo
  rw [HS.out _ (by kernel_rfl)]
  simp only [Result.andThen]
  rw [Oper.upon_skip]
  refine hKo _ _ ?_
  clear hKo
  refine (hKp _ _ ?_ : Kp _ _)
  clear hKp
  have hl := HL.out
  refine wp_ret ?_
  refine bodyPost_ret (v := .agg needsA) ?_ rfl ⟨rfl, (Below.refl _ _).alloc (Nat.le_refl _) _⟩
  simp [results, Try.results34, asAddr, Result.andThen, Act.put, hl]
end Go.Proofs.Ytooaliadefendaa
