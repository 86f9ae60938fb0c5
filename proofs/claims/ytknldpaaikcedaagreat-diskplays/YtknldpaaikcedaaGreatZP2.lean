/-
  A directory: names and the blocks of their files, as a datum; acts on it; nothing of the program is in this text.
-/
import Derived.Test.YtknldpaaikcedaaGreatZM0
import Derived.Maps.Ext
import Derived.Sort.KeysCollected
namespace Go.Proofs.YtknldpaaikcedaaGreat
open Go.RowKit Go.Maps

/-- How a pointer to a file reads: its block. -/
def ptrR (v : Value) : Option (DataW Nat × List MemPlace) :=
  match v with
  | .pointer (some ⟨b, 0, none⟩) => some (.lit (.int .i64 b), [])
  | .pointer none => some (.lit (.int .i64 (-1)), [])
  | _ => none
theorem ptrR_some (b : Nat) : ptrR (.pointer (some ⟨b, 0, none⟩)) = some (.lit (.int .i64 b), []) := rfl
theorem ptrR_none : ptrR (.pointer none) = some (.lit (.int .i64 (-1)), []) := rfl
theorem ptrR_inv {v : Value} {y : DataW Nat × List MemPlace} (h : ptrR v = some y) : (∃ b : Nat, v = .pointer (some ⟨b, 0, none⟩) ∧ y = (.lit (.int .i64 b), [])) ∨ (v = .pointer none ∧ y = (.lit (.int .i64 (-1)), [])) := by
  unfold ptrR at h
  split at h
  · rename_i b
    exact .inl ⟨b, rfl, (Option.some.inj h).symm⟩
  · exact .inr ⟨rfl, (Option.some.inj h).symm⟩
  · cases h

/-- Which file has a name. -/
def dget (D : DataW Nat) (k : List UInt8) : Option Nat :=
  match D.atKey (.string k) (.lit (.int .i64 (-1))) with
  | .lit (.int _ z) => if 0 ≤ z then some z.toNat else none
  | _ => none
def dput (D : DataW Nat) (k : List UInt8) (b : Nat) : DataW Nat := D.put (.string k) (.lit (.int .i64 b))
def ddel (D : DataW Nat) (k : List UInt8) : DataW Nat := D.del (.string k)
theorem keyLit (k : List UInt8) : WideAt.IsKeyLit (.string k) := by simp [WideAt.IsKeyLit]
theorem dget_put_same {D : DataW Nat} (h : IsMap D) (k : List UInt8) (b : Nat) : dget (dput D k b) k = some b := by
  unfold dget dput
  rw [atKey_put_same h (keyLit k)]
  simp
theorem dget_put_other (D : DataW Nat) {k k' : List UInt8} (hne : k' ≠ k) (b : Nat) : dget (dput D k b) k' = dget D k' := by
  unfold dget dput
  rw [atKey_put_other (fun e => hne (by injection e))]
theorem dget_del_same (D : DataW Nat) (k : List UInt8) : dget (ddel D k) k = none := by
  unfold dget ddel
  rw [atKey_del_same]
  rfl
theorem dget_del_other (D : DataW Nat) {k k' : List UInt8} (hne : k' ≠ k) : dget (ddel D k) k' = dget D k' := by
  unfold dget ddel
  rw [atKey_del_other (fun e => hne (by injection e))]
theorem dget_empty (k : List UInt8) : dget (.map []) k = none := rfl

/-- A Create (kind 0) of a under the block id, a Rename (1) of a to b, a Remove (2) of a; c, d: the blocks of what the act captured. -/
structure DA where
  kind : Nat
  a : ByteArray
  b : ByteArray
  id : Nat
  c : Nat
  d : Nat
def DA.run (x : DA) (D : DataW Nat) : DataW Nat :=
  match x.kind with
  | 0 => dput D x.a.data.toList x.id
  | 1 => match dget D x.a.data.toList with
    | some f => dput (ddel D x.a.data.toList) x.b.data.toList f
    | none => D
  | _ => ddel D x.a.data.toList
def DA.fits (x : DA) (D : DataW Nat) : Prop := x.kind = 1 → dget D x.a.data.toList ≠ none
def drunAll (D : DataW Nat) : List DA → DataW Nat
  | [] => D
  | x :: X => drunAll (x.run D) X
def dfitAll (D : DataW Nat) : List DA → Prop
  | [] => True
  | x :: X => x.fits D ∧ dfitAll (x.run D) X
theorem drunAll_append (D : DataW Nat) (X Y : List DA) : drunAll D (X ++ Y) = drunAll (drunAll D X) Y := by
  induction X generalizing D with
  | nil => rfl
  | cons x X ih => exact ih _
theorem dfitAll_append (D : DataW Nat) (X Y : List DA) : dfitAll D (X ++ Y) ↔ dfitAll D X ∧ dfitAll (drunAll D X) Y := by
  induction X generalizing D with
  | nil => simp [dfitAll, drunAll]
  | cons x X ih => simp only [List.cons_append, dfitAll, drunAll, ih, and_assoc]
theorem dfitAll_take (D : DataW Nat) (X : List DA) (n : Nat) (h : dfitAll D X) : dfitAll D (X.take n) := by
  rw [← List.take_append_drop n X, dfitAll_append] at h
  exact h.1
theorem isMap_run {D : DataW Nat} (h : IsMap D) (x : DA) : IsMap (x.run D) := by
  unfold DA.run
  split
  · exact h.put _ _
  · split
    · exact (h.del _).put _ _
    · exact h
  · exact h.del _

/-- Each name that is there has a file. -/
def Full (D : DataW Nat) : Prop := ∀ k, Maps.has D (.string k) = true → dget D k ≠ none
theorem full_empty : Full (.map []) := fun k h => by cases h
theorem full_put {D : DataW Nat} (hD : IsMap D) (h : Full D) (k : List UInt8) (b : Nat) : Full (dput D k b) := by
  intro k' hk
  by_cases e : k' = k
  · subst e
    rw [dget_put_same hD]
    simp
  · rw [dget_put_other D e]
    refine h k' ?_
    unfold dput at hk
    rw [has_put_other (fun e' => e (by injection e'))] at hk
    exact hk
theorem full_del {D : DataW Nat} (h : Full D) (k : List UInt8) : Full (ddel D k) := by
  intro k' hk
  unfold ddel at hk
  by_cases e : k' = k
  · subst e
    rw [has_del_same] at hk
    cases hk
  · rw [dget_del_other D e]
    refine h k' ?_
    rw [has_del_other (fun e' => e (by injection e'))] at hk
    exact hk
theorem full_run {D : DataW Nat} (hD : IsMap D) (h : Full D) (x : DA) : Full (x.run D) := by
  unfold DA.run
  split
  · exact full_put hD h _ _
  · split
    · exact full_put (hD.del _) (full_del h _) _ _
    · exact h
  · exact full_del h _
theorem full_drun {D : DataW Nat} (hD : IsMap D) (h : Full D) (X : List DA) : Full (drunAll D X) := by
  induction X generalizing D with
  | nil => exact h
  | cons x X ih => exact ih (isMap_run hD x) (full_run hD h x)

section
variable {P : Program} {w : World} {t k e : TypeId} {b n : Nat} {D : DataW Nat}
/-- A name looked up. -/
theorem dlook (hown : w.ownsMap P k ptrR b n D) (K : Keyed P k) (ht : P.underlying t = some (.map k e)) (hk : P.underlying k = some .string) (hz : (zeroValue e).run P w = .ok (.pointer none) w) (s : ByteArray) (hs : s.size ≤ maxLen) :
    (Instr.lookup t (.map (some b)) (.string s) false).run P w = .ok (.pointer ((dget D s.data.toList).map fun j => ⟨j, 0, none⟩)) w := by
  obtain ⟨v, ps, hrun, hv⟩ := hown.lookup K ht hz ptrR_none (Go.WideMaps.keyOf_string_mk hk hs)
  rw [hrun]
  unfold dget
  rcases ptrR_inv hv with ⟨j, rfl, hy⟩ | ⟨rfl, hy⟩
  · have e1 := congrArg Prod.fst hy
    simp only at e1
    rw [e1]
    simp
  · have e1 := congrArg Prod.fst hy
    simp only at e1
    rw [e1]
    simp
end

end Go.Proofs.YtknldpaaikcedaaGreat
