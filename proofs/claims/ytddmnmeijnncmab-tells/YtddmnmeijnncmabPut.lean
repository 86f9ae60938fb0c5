/-
  A pair that is stored into a block of its own.
-/
import Derived.Test.YtddmnmeijnncmabX1
import Derived.Lib.QuietBelow
namespace Go.Proofs.Ytddmnmeijnncmab
open Go.RowKit

theorem Held.put {W : World} {b : Nat} {x y : Int} (h : Held W b x y) (x' y' : Int) : Held ((W.setCell ⟨b, 0, none⟩ (.int .i64 x')).setCell ⟨b, 1, none⟩ (.int .i64 y')) b x' y' := by
  have h0 : (W.setCell ⟨b, 0, none⟩ (.int .i64 x')).heap[b]? = some (.cells #[.int .i64 x', .int .i64 y] 23) := by
    unfold World.setCell
    simp [Array.getElem?_modify, h.box]
  refine ⟨?_⟩
  generalize W.setCell ⟨b, 0, none⟩ (.int .i64 x') = V at *
  unfold World.setCell
  simp [Array.getElem?_modify, h0]
theorem right_pr (a b : Int) : (⟨a % 33554383, b % 33554383⟩ : Pr).right := ⟨(mod_right a).1, (mod_right a).2, (mod_right b).1, (mod_right b).2⟩

end Go.Proofs.Ytddmnmeijnncmab
