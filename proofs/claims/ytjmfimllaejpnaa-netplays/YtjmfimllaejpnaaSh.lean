/-
  The contract of slices.Delete that this seat uses, one application of a library theorem at this dump; no condition of our own.
-/
import Derived.Shelf.SlicesE.Delete
import Derived.Test.YtjmfimllaejpnaaProg
namespace Go.Proofs
open Go.Shelf
def Try.shDel_ren : Go.Shelf.Ren := ⟨fun | 45 => 36 | n => n, fun | 22 => 52 | 23 => 9 | 3 => 3 | 4 => 4 | 0 => 0 | n => n, fun | n => n⟩
theorem Try.shDel : Go.Proofs.SlLaysE.n45 Try.prog Try.shDel_ren := {
  mixed := by kernel_rfl
  f45 := ⟨Try.f36.name, by decide, Try.func36.trans (congrArg some (by kernel_rfl))⟩
  t0 := Try.underlying0
  a0 := Try.isAgg0
  z0 := Try.sizeOf0
  v0 := Try.zeroValue0
  t3 := Try.underlying3
  a3 := Try.isAgg3
  z3 := Try.sizeOf3
  v3 := Try.zeroValue3
  t4 := Try.underlying4
  a4 := Try.isAgg4
  z4 := Try.sizeOf4
  v4 := Try.zeroValue4
  t22 := Try.underlying52
  a22 := Try.isAgg52
  z22 := Try.sizeOf52
  v22 := Try.zeroValue52
  a23 := Try.isAgg9
  z23 := Try.sizeOf9 }
end Go.Proofs
