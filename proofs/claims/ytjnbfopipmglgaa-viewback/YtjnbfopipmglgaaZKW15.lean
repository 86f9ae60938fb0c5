/-
  What the laws share: the words of the frame, and how long what is written can be.
-/
import Derived.Test.YtjnbfopipmglgaaZKW14
import Derived.Test.YtjnbfopipmglgaaZGA
namespace Go.Proofs.Ytjnbfopipmglgaa.K
open Go.ChangeShapes Go.WideShapes Go.ChangeAt Go.RowKit

theorem own : ownKnob Try.prog.godebug = none := by kernel_rfl
theorem laidOut : laidOutB Try.prog = true := by kernel_rfl

theorem encF_len (l : List It) : (encF l).1.length ≤ 100008000 := by
  by_cases h : (encF l).2 = 0
  · obtain ⟨h1, h2, h3⟩ := encF_zero l h
    have := itemsB_length l h2
    rw [h3]
    show (l.flatMap itemB).length ≤ 100008000
    omega
  · rw [encF_fault l h]; simp
theorem shapeF_len (l : List It) : (shapeF l).1.length ≤ l.length := by
  unfold shapeF
  split
  · simp
  · simp
theorem mk_size (l : List UInt8) (h : l.length ≤ maxLen) : (⟨l.toArray⟩ : ByteArray).size ≤ maxLen := by
  show l.toArray.size ≤ maxLen
  simpa using h

/-- A slice's bytes are within reach: so is its length. -/
theorem items_reach {H : Type} {ds : List (DataW H)} {ts : List TypeId} {j : Nat} {d : DataW H} {len : Nat} (hsz : (DataW.weightsEach Try.prog ts ds).all (· ≤ reachBytes) = true) (ht : ts[j]? = some 49) (hd : ds[j]? = some d)
    (h : (d = .nil ∧ len = 0) ∨ ∃ el sp, d = .slice el sp ∧ el.length = len) : len ≤ 4398046511104 := by
  rcases h with ⟨_, rfl⟩ | ⟨el, sp, rfl, rfl⟩
  · omega
  · have := sized_slice hsz ht hd Try.underlying49
    rw [Try.bytesItem] at this
    simp only [reachBytes] at this
    omega

end Go.Proofs.Ytjnbfopipmglgaa.K
