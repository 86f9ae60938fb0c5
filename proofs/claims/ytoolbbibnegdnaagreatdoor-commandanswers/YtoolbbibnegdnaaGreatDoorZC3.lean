/-
  The table of what each kind needs (mkc3.py)
-/
import Derived.Test.YtoolbbibnegdnaaGreatDoorZC2
import Derived.Laws.EntriesVeiled
import Derived.Deep.WholeRow
import Derived.Laws.ResultCell
namespace Go.Proofs.YtoolbbibnegdnaaGreatDoor
open Go.RowKit

attribute [local go_sem ↓] Go.wp_at_zero Go.wp_at_succ
set_option linter.unusedSimpArgs false
set_option linter.unusedVariables false
abbrev tNeeds : TypeId := 106
abbrev tAll : TypeId := 107
def fnV (k : Nat) : Value := .func (.func k) #[] #[]
/-- What each kind needs, by kinds. -/
def needsL : List Value := [.nilFunc, .nilFunc, .nilFunc, .nilFunc, .nilFunc, .nilFunc] ++ [fnV 88, fnV 89, fnV 90, fnV 89, fnV 89, fnV 90] ++ [fnV 88, fnV 88, fnV 25, fnV 91, fnV 92, fnV 90] ++ [fnV 88, fnV 88, fnV 90, fnV 89, fnV 89, fnV 47] ++ [fnV 89, fnV 88, fnV 90, fnV 89, fnV 89, fnV 90] ++ [fnV 89, fnV 88, fnV 90, fnV 89, fnV 89, fnV 93] ++ [fnV 89, fnV 88, fnV 90, fnV 89, fnV 89, fnV 25] ++ [fnV 89, fnV 88, fnV 90, fnV 89, fnV 89, fnV 25] ++ [fnV 88, fnV 89, fnV 90, fnV 89, fnV 89, fnV 25] ++ [fnV 88, fnV 89, fnV 90, fnV 89, fnV 89, fnV 25] ++ [fnV 89, fnV 89, fnV 90, fnV 89, fnV 89, fnV 38] ++ [fnV 89, fnV 89, fnV 90, fnV 89, fnV 89, fnV 38]
def needsA : Array Value := needsL.toArray
theorem info_all : (Tryz.prog.info? tAll).map (·.size) = some 72 := by kernel_rfl
theorem zero_all : Tryz.zeroCells107.size = 72 := by kernel_rfl
set_option maxHeartbeats 4000000 in
set_option maxRecDepth 100000 in
theorem pneeds (w : World) :
    Calls Tryz.prog 65 #[] w fun e w' => e = .returned (.agg needsA) ∧ Below w.heap.size w w' := by
  have hsc : ∀ L : List Value, L = needsL → (storeCells ⟨w.heap.size, 0, none⟩ L 0).run Tryz.prog (w.alloc (.cells Tryz.zeroCells107 tAll)) = .ok () (w.alloc (.cells needsA tAll)) := fun L h1 => by
    subst h1
    exact run_storeCells_new (P := Tryz.prog) w tAll Tryz.zeroCells107 needsA info_all zero_all (by kernel_rfl)
  have hld : (loadVar tAll ⟨w.heap.size, 0, none⟩).run Tryz.prog (w.alloc (.cells needsA tAll)) = .ok (.agg needsA) (w.alloc (.cells needsA tAll)) := run_loadVar_new w tAll needsA 12 tNeeds (by kernel_rfl) info_all
  have HS := hide hsc
  have HL := hide hld
  clear hsc hld
  go_enter Tryz.func65, Tryz.ntmps65
  go_wp2
  rename_i Kp hKp Ko hKo
  rw [HS.out _ (by kernel_rfl)]
  simp only [Result.andThen]
  rw [Oper.upon_skip]
  refine hKo _ _ ?_
  clear hKo
  refine (hKp _ _ ?_ : Kp _ _)
  clear hKp
  have hl := HL.out
  refine wp_ret ?_
  refine bodyPost_ret (v := .agg needsA) ?_ rfl ⟨rfl, (Below.refl _ _).alloc (Nat.le_refl _) _⟩
  simp [results, Tryz.results65, asAddr, Result.andThen, Act.put, hl]
end Go.Proofs.YtoolbbibnegdnaaGreatDoor
