/-
  The program's Join, as it runs.
-/
import Derived.Test.YtddmnmeijnncmabN6
namespace Go.Proofs.Ytddmnmeijnncmab
open Go.RowKit

theorem joinP_at (d e : Pr) (q : Pr) : (⟨((d.re - 1) * q.re - d.im * q.im + e.re) % pI, ((d.re - 1) * q.im + d.im * q.re + e.im) % pI⟩ : Pr) = addP (mulP (subP d Pr.one) q) e := by
  refine Cp.eq ?_ ⟨(mod_right _).1, (mod_right _).2, (mod_right _).1, (mod_right _).2⟩ (addP_right _ _)
  refine Cp.trans (b := ⟨(d.re - 1) * q.re - d.im * q.im + e.re, (d.re - 1) * q.im + d.im * q.re + e.im⟩) ⟨Cg.mod _, Cg.mod _⟩ (Cp.trans ?_ (Cp.addP _ _).symm)
  refine (Cp.add ((Cp.mulP _ _).trans ((Cp.subP d Pr.one).mul (Cp.refl q))) (Cp.refl e)).symm |> fun h => Cp.trans ?_ h
  refine Cp.of_eq ?_
  unfold addR mulR subR Pr.one
  apply pr_ext <;> simp

end Go.Proofs.Ytddmnmeijnncmab
