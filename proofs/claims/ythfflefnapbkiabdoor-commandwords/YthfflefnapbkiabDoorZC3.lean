/-
  The table of what each kind needs (mkc3.py)
-/
import Derived.Test.YthfflefnapbkiabDoorZC2
import Derived.Laws.EntriesVeiled
import Derived.Deep.WholeRow
import Derived.Laws.ResultCell
namespace Go.Proofs.YthfflefnapbkiabDoor
open Go.RowKit

attribute [local go_sem ↓] Go.wp_at_zero Go.wp_at_succ
set_option linter.unusedSimpArgs false
set_option linter.unusedVariables false
abbrev tNeeds : TypeId := 54
abbrev tAll : TypeId := 55
def fnV (k : Nat) : Value := .func (.func k) #[] #[]
/-- What each kind needs, by kinds. -/
def needsL : List Value := [.nilFunc, .nilFunc, .nilFunc, .nilFunc, .nilFunc, .nilFunc] ++ [fnV 6, fnV 45, fnV 46, fnV 45, fnV 45, fnV 46] ++ [fnV 6, fnV 6, fnV 16, fnV 47, fnV 48, fnV 46] ++ [fnV 6, fnV 6, fnV 46, fnV 45, fnV 45, fnV 40] ++ [fnV 45, fnV 6, fnV 46, fnV 45, fnV 45, fnV 46] ++ [fnV 45, fnV 6, fnV 46, fnV 45, fnV 45, fnV 49] ++ [fnV 45, fnV 6, fnV 46, fnV 45, fnV 45, fnV 16] ++ [fnV 45, fnV 6, fnV 46, fnV 45, fnV 45, fnV 16] ++ [fnV 6, fnV 45, fnV 46, fnV 45, fnV 45, fnV 16] ++ [fnV 6, fnV 45, fnV 46, fnV 45, fnV 45, fnV 16] ++ [fnV 45, fnV 45, fnV 46, fnV 45, fnV 45, fnV 15] ++ [fnV 45, fnV 45, fnV 46, fnV 45, fnV 45, fnV 15]
def needsA : Array Value := needsL.toArray
theorem info_all : (Tryd.prog.info? tAll).map (·.size) = some 72 := by kernel_rfl
theorem zero_all : Tryd.zeroCells55.size = 72 := by kernel_rfl
set_option maxHeartbeats 4000000 in
set_option maxRecDepth 100000 in
theorem pneeds (w : World) :
    Calls Tryd.prog 27 #[] w fun e w' => e = .returned (.agg needsA) ∧ Below w.heap.size w w' := by
  have hsc : ∀ L : List Value, L = needsL → (storeCells ⟨w.heap.size, 0, none⟩ L 0).run Tryd.prog (w.alloc (.cells Tryd.zeroCells55 tAll)) = .ok () (w.alloc (.cells needsA tAll)) := fun L h1 => by
    subst h1
    exact run_storeCells_new (P := Tryd.prog) w tAll Tryd.zeroCells55 needsA info_all zero_all (by kernel_rfl)
  have hld : (loadVar tAll ⟨w.heap.size, 0, none⟩).run Tryd.prog (w.alloc (.cells needsA tAll)) = .ok (.agg needsA) (w.alloc (.cells needsA tAll)) := run_loadVar_new w tAll needsA 12 tNeeds (by kernel_rfl) info_all
  have HS := hide hsc
  have HL := hide hld
  clear hsc hld
  go_enter Tryd.func27, Tryd.ntmps27
  go_wp2
  rename_i Kp hKp Ko hKo
  rw [HS.out _ (by kernel_rfl)]
  simp only [Result.andThen]
  rw [Oper.upon_skip]
  refine hKo _ _ ?_
  clear hKo
  refine (hKp _ _ ?_ : Kp _ _)
  clear hKp
  have hl := HL.out
  refine wp_ret ?_
  refine bodyPost_ret (v := .agg needsA) ?_ rfl ⟨rfl, (Below.refl _ _).alloc (Nat.le_refl _) _⟩
  simp [results, Tryd.results27, asAddr, Result.andThen, Act.put, hl]
end Go.Proofs.YthfflefnapbkiabDoor
