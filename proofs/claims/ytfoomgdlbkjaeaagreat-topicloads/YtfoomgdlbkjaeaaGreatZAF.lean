/-
  Regions as laws over any frame: what all of them share; nothing of the program is in this text.
-/
import Derived.Test.YtfoomgdlbkjaeaaGreatZM0
import Derived.Deep.RegionLaw
import Derived.ScopeJumps
import Derived.WalkMore
import Derived.WalkSmall
import Derived.KernelRfl
import Derived.Deep.DrawnRows
import Derived.Deep.RegionHeldLaw
import Derived.Deep.AppendLies
import Derived.Shelf.Abstract
import Derived.Deep.QuietTactic
import Derived.BigRegion
import Derived.Maps.AppendAt
import Derived.Laws.OwnMore
import Derived.Laws.AppendOwnNone
import Derived.Lib.QuietBelow
import Derived.Deep.DeepCutAuto
namespace Go.Proofs.YtfoomgdlbkjaeaaGreat
open Go.RowKit
end Go.Proofs.YtfoomgdlbkjaeaaGreat
namespace Go.Proofs.YtfoomgdlbkjaeaaGreat
open Go.RowKit
def regOf : Code → Nat → Option Code
  | .region i ops d, k => match i == k with
    | true => some (.region i ops d)
    | false => none
  | .seq a b, k => match regOf a k with
    | some c => some c
    | none => regOf b k
  | .cond _ a b, k => match regOf a k with
    | some c => some c
    | none => regOf b k
  | .block _ c, k => regOf c k
  | .loop c, k => regOf c k
  | .scope c, k => regOf c k
  | _, _ => none
theorem reg_mono {P : Program} {K : Act → World → Prop} {Q : Exit → Act → World → Prop} {c : Code} {a : Act} {w : World} (h : Code.wp P c (Exit.then K fun _ _ _ => False) a w) : Code.wp P c (Exit.then K Q) a w :=
  wp_mono h fun e a w q => by
    cases e with
    | normal => exact q
    | _ => exact False.elim q
theorem reg_all {P : Program} {Q : Exit → Act → World → Prop} {c : Code} {a : Act} {w : World} (h : Code.wp P c (Exit.then (fun a w => Q .normal a w) fun _ _ _ => False) a w) : Code.wp P c Q a w :=
  wp_mono h fun e a w q => by
    cases e with
    | normal => exact q
    | _ => exact False.elim q
theorem slot_get {a : Act} {n : Nat} {v : Value} (h : a.tmps.getD n undef = v) : a.tmps[n]?.getD undef = v := by
  have := h
  rw [Array.getD_eq_getD_getElem?] at this
  exact this
end Go.Proofs.YtfoomgdlbkjaeaaGreat
