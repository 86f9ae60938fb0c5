/-
  What was done with a file since it was synced, done with the bytes that last: settle A it runs.
-/
import Derived.Test.YtknldpaaikcedaaGreatZP1
import Derived.Test.YtknldpaaikcedaaGreatZW1
namespace Go.Proofs.YtknldpaaikcedaaGreat
open Go.RowKit

/-- The function of an act. -/
def FA.fn (a : FA) : Nat :=
  match a.cuts with
  | false => 75
  | true => 83
/-- What an act captured lies in its block. -/
def FA.held (w : World) (a : FA) : Prop :=
  match a.cuts with
  | false => w.heap[a.cap]? = some (.cells #[.string a.s] 9 (0, 0))
  | true => w.heap[a.cap]? = some (.cells #[.int .i64 a.n] 3 (0, 0))
theorem FA.held_of {w w1 : World} {a : FA} (h : a.held w) (hb : w1.heap[a.cap]? = w.heap[a.cap]?) : a.held w1 := by
  obtain ⟨_ | _, c, s, n⟩ := a <;> exact hb.trans h
theorem FA.held_lt {w : World} {a : FA} (h : a.held w) : a.cap < w.heap.size := by
  obtain ⟨_ | _, c, s, n⟩ := a <;> exact heap_lt h
/-- An act A cells. -/
def actC (a : FA) : List Value := [.int .i64 a.units, .func (.func a.fn) #[] #[.pointer (some ⟨a.cap, 0, none⟩)]]
def actsC (A : List FA) : List Value := A.flatMap actC
theorem actsC_length (A : List FA) : (actsC A).length = A.length * 2 := by
  induction A with
  | nil => rfl
  | cons a A ih => simp only [actsC, List.flatMap_cons, List.length_append, List.length_cons] at *; rw [ih]; simp only [actC, List.length_cons, List.length_nil]; omega
theorem actsC_append (A B : List FA) : actsC (A ++ B) = actsC A ++ actsC B := by simp [actsC]
theorem actsC_one (a : FA) : actsC [a] = actC a := by simp [actsC]
theorem actsC_at (A : List FA) (i : Nat) (h : i < A.length) : (actsC A)[i * 2]? = some (.int .i64 A[i].units) ∧ (actsC A)[i * 2 + 1]? = some (.func (.func A[i].fn) #[] #[.pointer (some ⟨A[i].cap, 0, none⟩)]) := by
  induction A generalizing i with
  | nil => simp at h
  | cons a A ih =>
    have e : actsC (a :: A) = actC a ++ actsC A := by simp [actsC]
    have hl : (actC a).length = 2 := rfl
    rw [e]
    cases i with
    | zero => exact ⟨rfl, rfl⟩
    | succ i =>
      have h1 := ih i (by simpa using h)
      rw [List.getElem?_append_right (by omega), List.getElem?_append_right (by omega)]
      rw [show (i + 1) * 2 - (actC a).length = i * 2 by omega, show (i + 1) * 2 + 1 - (actC a).length = i * 2 + 1 by omega]
      exact h1
theorem fn_enters (a : FA) : ∀ args w, (callFunc a.fn args).run Tryz.prog w = .ok (.enter a.fn args) w := by
  obtain ⟨_ | _, c, s, n⟩ := a
  · exact enters_of Tryz.func75 (by kernel_rfl) rfl
  · exact enters_of Tryz.func83 (by kernel_rfl) rfl

/-- An act's function, called with bytes. -/
theorem do_any (a : FA) (v : Value) (l : List UInt8) (u : Nat) (w : World) (hc : a.held w) (hf : a.fits l) (hu : u ≤ a.units) (hb : l.length + a.units ≤ 140737488355328) (hown : w.ownsRow 0 5 1 v l.length (bytesC l)) :
    Calls Tryz.prog a.fn #[v, .int .i64 u, .pointer (some ⟨a.cap, 0, none⟩)] w fun e w' => ∃ ao cp, e = .returned (.slice ao (a.run l u).length cp) ∧ w'.ownsRow 0 5 1 (.slice ao (a.run l u).length cp) (a.run l u).length (bytesC (a.run l u)) ∧ w.grownBy w' v.ownBlock ∧ ((ao.map Addr.block) = v.ownBlock ∨ (ao.map Addr.block) = some w.heap.size) := by
  obtain ⟨_ | _, c, s, n⟩ := a
  · have h := app_any v l.length (bytesC l) c s u w hu (box_cell hc 0 rfl) hown hb
    refine h.mono fun e w' ⟨ao, cp, h1, h2, h3, h4⟩ => ⟨ao, cp, ?_⟩
    have e1 : ((FA.mk false c s n).run l u).length = l.length + u := by
      simp only [FA.run, List.length_append, List.length_take]
      have : s.data.toList.length = s.size := by simp
      simp only [FA.units] at hu
      omega
    have e2 : bytesC ((FA.mk false c s n).run l u) = bytesC l ++ bytesC (s.data.toList.take u) := bytesC_append _ _
    rw [e1, e2]
    exact ⟨h1, h2, h3, h4⟩
  · have h := cut_any v l.length (bytesC l) c n u w hf (box_cell hc 0 rfl) hown
    refine h.mono fun e w' ⟨ao, cp, h1, h2, h3, h4⟩ => ⟨ao, cp, ?_⟩
    have e1 : ((FA.mk true c s n).run l u).length = n := by
      simp only [FA.run, List.length_take]
      simp only [FA.fits] at hf
      omega
    have e2 : bytesC ((FA.mk true c s n).run l u) = (bytesC l).take n := (bytesC_take _ _).symm
    rw [e1, e2]
    exact ⟨h1, h2, h3, h4⟩

end Go.Proofs.YtknldpaaikcedaaGreat
