/-
  Operations that are guarded ('&&', '||'), for Phi; nothing of the program is in this text.
-/
import Derived.Test.YtjgbgbgajadgnaaZPhi
namespace Go.Proofs.Ytjgbgbgajadgnaa
open Go Go.RowKit

section
variable {P : Program} {ops : Array Oper} {Q : Exit → Act → World → Prop}
theorem yielded_of {t : Array Value} {j dj : Nat} {b : Bool} (hj : ((ops.toList[j]?).bind (·.dst)) = some dj) (hs : t.getD dj undef = .bool b) : yielded ops t j = some b := by
  rw [Array.getElem?_toList] at hj
  unfold yielded
  rw [hj]
  simp only [Option.bind_some]
  rw [Array.getD_eq_getD_getElem?] at hs
  cases h : t[dj]? with
  | none => rw [h] at hs; simp [undef] at hs
  | some x => rw [h] at hs; simp only [Option.getD_some] at hs; subst hs; rfl
theorem yielded_off {t : Array Value} {j dj : Nat} {b : Bool} {v : Value} (hj : ((ops.toList[j]?).bind (·.dst)) = some dj) (hs : t.getD dj undef = v) (hv : v ≠ .bool b) : yielded ops t j ≠ some b := by
  rw [Array.getElem?_toList] at hj
  unfold yielded
  rw [hj]
  simp only [Option.bind_some]
  rw [Array.getD_eq_getD_getElem?] at hs
  intro e
  cases h : t[dj]? with
  | none => rw [h] at e; cases e
  | some x =>
    rw [h] at hs e
    simp only [Option.getD_some] at hs
    subst hs
    split at e
    · rename_i b' he
      injection he with he
      injection e with e
      subst e
      exact hv he
    · cases e
theorem wpOp_on {i j dj : Nat} {b : Bool} {o : Oper} {a : Act} {w : World} {K : Act → World → Prop} (ho : ops.toList[i]? = some o) (hg : o.guard = some (j, b)) (hj : ((ops.toList[j]?).bind (·.dst)) = some dj) (hs : a.tmps.getD dj undef = .bool b) (h : o.wp P a w K Q) : wpOp P ops Q i K a w := by
  rw [Array.getElem?_toList] at ho
  unfold wpOp
  rw [ho]
  have hw : Region.wanted o (yielded ops a.tmps) = true := by simp [Region.wanted, hg, yielded_of hj hs]
  simp only [hw, if_true]
  exact .inl h
theorem wpOp_off {i j dj : Nat} {b : Bool} {v : Value} {o : Oper} {a : Act} {w : World} {K : Act → World → Prop} (ho : ops.toList[i]? = some o) (hg : o.guard = some (j, b)) (hj : ((ops.toList[j]?).bind (·.dst)) = some dj) (hs : a.tmps.getD dj undef = v) (hv : v ≠ .bool b) (h : K (a.put o.dst undef) w) : wpOp P ops Q i K a w := by
  rw [Array.getElem?_toList] at ho
  unfold wpOp
  rw [ho]
  have hw : Region.wanted o (yielded ops a.tmps) = false := by simp [Region.wanted, hg, yielded_off hj hs hv]
  simp only [hw]
  exact h
end
end Go.Proofs.Ytjgbgbgajadgnaa
