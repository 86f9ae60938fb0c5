/-
  A row of texts that came in and lies nowhere has no room.
-/
import Derived.Test.YtjgbgbgajadgnaaZPW
import Derived.Test.YtjgbgbgajadgnaaZTK
namespace Go.Proofs.Ytjgbgbgajadgnaa
open Go.ChangeShapes Go.WideShapes Go.ChangeAt Go.RowKit Go.Deep Go.Maps

set_option maxRecDepth 100000 in
theorem texts_cap {H : Type} {enc : TypeId × Value → H} {W : World} {ao : Option Addr} {n cap : Nat} {d : DataW H} {p : List MemPlace} (h : DataW.Trod enc Try.prog W 0 (fun _ => true) true 23 (.slice ao n cap) d p) : ao = none → cap = 0 := by
  rintro rfl
  obtain ⟨fuel, hf⟩ := h
  rcases open_slice1 Try.underlying23 cellsString hf with ⟨hcs, hx⟩ | ⟨a, len, c', m, n, V, D, Pl, hcs, _⟩
  · simp [Value.cells] at hcs
    exact hcs.2
  · simp [Value.cells] at hcs
end Go.Proofs.Ytjgbgbgajadgnaa
