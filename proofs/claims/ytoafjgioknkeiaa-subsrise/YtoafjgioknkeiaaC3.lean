/-
  The table of what each kind needs (mkc3.py)
-/
import Derived.Test.YtoafjgioknkeiaaC2
import Derived.Laws.EntriesVeiled
import Derived.Deep.WholeRow
import Derived.Laws.ResultCell
namespace Go.Proofs.Ytoafjgioknkeiaa
open Go.RowKit

attribute [local go_sem ↓] Go.wp_at_zero Go.wp_at_succ
set_option linter.unusedSimpArgs false
set_option linter.unusedVariables false
abbrev tNeeds : TypeId := 93
abbrev tAll : TypeId := 94
def fnV (k : Nat) : Value := .func (.func k) #[] #[]
/-- What each kind needs, by kinds. -/
def needsL : List Value := [.nilFunc, .nilFunc, .nilFunc, .nilFunc, .nilFunc, .nilFunc] ++ [fnV 21, fnV 53, fnV 54, fnV 53, fnV 53, fnV 54] ++ [fnV 21, fnV 21, fnV 39, fnV 55, fnV 56, fnV 54] ++ [fnV 21, fnV 21, fnV 54, fnV 53, fnV 53, fnV 57] ++ [fnV 53, fnV 21, fnV 54, fnV 53, fnV 53, fnV 54] ++ [fnV 53, fnV 21, fnV 54, fnV 53, fnV 53, fnV 58] ++ [fnV 53, fnV 21, fnV 54, fnV 53, fnV 53, fnV 39] ++ [fnV 53, fnV 21, fnV 54, fnV 53, fnV 53, fnV 39] ++ [fnV 21, fnV 53, fnV 54, fnV 53, fnV 53, fnV 39] ++ [fnV 21, fnV 53, fnV 54, fnV 53, fnV 53, fnV 39] ++ [fnV 53, fnV 53, fnV 54, fnV 53, fnV 53, fnV 38] ++ [fnV 53, fnV 53, fnV 54, fnV 53, fnV 53, fnV 38]
def needsA : Array Value := needsL.toArray
theorem info_all : (Try.prog.info? tAll).map (·.size) = some 72 := by kernel_rfl
def Try.zeroCells94 : Array Value := (List.replicate 72 Value.nilFunc).toArray
theorem zero_value (w : World) : (zeroValue 94).run Try.prog w = .ok (.agg Try.zeroCells94) w := by kernel_rfl
theorem zero_size : Try.zeroCells94.size = 72 := by kernel_rfl
theorem zero_ne : Try.zeroCells94 ≠ #[] := fun h => by have := zero_size; rw [h] at this; cases this
attribute [local go_sem] zero_value zero_size
attribute [local simp] zero_ne
theorem zero_all : Try.zeroCells94.size = 72 := by kernel_rfl
set_option maxHeartbeats 4000000 in
set_option maxRecDepth 100000 in
theorem pneeds (w : World) :
    Calls Try.prog 48 #[] w fun e w' => e = .returned (.agg needsA) ∧ Below w.heap.size w w' := by
  have hsc : ∀ L : List Value, L = needsL → (storeCells ⟨w.heap.size, 0, none⟩ L 0).run Try.prog (w.alloc (.cells Try.zeroCells94 tAll)) = .ok () (w.alloc (.cells needsA tAll)) := fun L h1 => by
    subst h1
    exact run_storeCells_new (P := Try.prog) w tAll Try.zeroCells94 needsA info_all zero_all (by kernel_rfl)
  have hld : (loadVar tAll ⟨w.heap.size, 0, none⟩).run Try.prog (w.alloc (.cells needsA tAll)) = .ok (.agg needsA) (w.alloc (.cells needsA tAll)) := run_loadVar_new w tAll needsA 12 tNeeds (by kernel_rfl) info_all
  have HS := hide hsc
  have HL := hide hld
  clear hsc hld
  go_enter Try.func48, Try.ntmps48
  go_wp2
  rename_i Kp hKp Ko hKo
  rw [HS.out _ (by kernel_rfl)]
  simp only [Result.andThen]
  rw [Oper.upon_skip]
  refine hKo _ _ ?_
  clear hKo
  refine (hKp _ _ ?_ : Kp _ _)
  clear hKp
  have hl := HL.out
  refine wp_ret ?_
  refine bodyPost_ret (v := .agg needsA) ?_ rfl ⟨rfl, (Below.refl _ _).alloc (Nat.le_refl _) _⟩
  simp [results, Try.results48, asAddr, Result.andThen, Act.put, hl]
end Go.Proofs.Ytoafjgioknkeiaa
