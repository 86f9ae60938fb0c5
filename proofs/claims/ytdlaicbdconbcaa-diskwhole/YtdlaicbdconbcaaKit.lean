/-
  What the laws' last steps share: a slice of numbers that came in.
-/
import Derived.Test.YtdlaicbdconbcaaRows
import Derived.Test.YtdlaicbdconbcaaLastsW
import Derived.ProofKit
import Derived.OpenShut
import Derived.ShutString
import Derived.ChangeOld
import Derived.SizedLaws
import Derived.Deep.Slices
import Derived.Deep.Strs
namespace Go.Proofs.Ytdlaicbdconbcaa
open Go.ChangeShapes Go.WideShapes Go.ChangeAt Go.RowKit Go.Deep

theorem own : ownKnob Try.prog.godebug = none := by kernel_rfl
theorem laidOut : laidOutB Try.prog = true := by kernel_rfl
theorem bytesInt : Try.prog.bytesOf 3 = 8 := by kernel_rfl
theorem cellsInt : Try.prog.cellsOf 3 = 1 := by kernel_rfl

/-- A slice of numbers that came in, read. -/
theorem nums_open {H : Type} {enc : TypeId × Value → H} {W : World} {a0 : Option Addr} {len cap : Nat} {d : DataW H} {p : List MemPlace} (h : DataW.Trod enc Try.prog W 0 (fun _ => true) true 22 (.slice a0 len cap) d p) {ts : List TypeId} {ds : List (DataW H)} {j : Nat} (hsz : (DataW.weightsEach Try.prog ts ds).all (· ≤ reachBytes) = true) (ht : ts[j]? = some 22) (hd : ds[j]? = some d) :
    ∃ us : List Int, len = us.length ∧ Came W a0 us := by
  obtain ⟨fuel, hf⟩ := h
  rcases open_ints Try.underlying22 Try.underlying3 cellsInt hf with ⟨hcs, hx⟩ | ⟨a, l, c, zs, hcs, _, hlc, hcm, hz, hx, hcell, hwf⟩
  · simp [Value.cells] at hcs
    obtain ⟨rfl, rfl, rfl⟩ := hcs
    exact ⟨[], rfl, fun i hi => by simp at hi, fun e => absurd rfl e, fun u hu => by simp at hu, Nat.zero_le _⟩
  · simp [Value.cells] at hcs
    obtain ⟨rfl, rfl, rfl⟩ := hcs
    simp only [if_true] at hz
    have hdd : d = .slice (lits .i64 (zs.take len)) (lits .i64 (zs.drop len)) := congrArg Prod.fst hx
    subst hdd
    have hl := sized_slice hsz ht hd Try.underlying22
    rw [show (lits (H := H) IntKind.i64 (zs.take len)).length = (zs.take len).length by simp [lits], bytesInt, List.length_take] at hl
    simp only [reachBytes] at hl
    refine ⟨zs.take len, by rw [List.length_take]; omega, ?_, ?_, ?_, ?_⟩
    · intro i hi
      have hi' : i < zs.length := by rw [List.length_take] at hi; omega
      obtain ⟨b, off, rfl, h2⟩ := ints_at hcell (by omega)
      have h3 := h2 i hi'
      refine ⟨b, off, rfl, World.block_lt_of_cell? W _ h3, ?_⟩
      rw [h3, List.getElem_take]
      simp [List.getD, hi']
    · intro hne kb off e
      have hpos : 0 < zs.length := by
        rcases Nat.eq_zero_or_pos zs.length with h0 | h0
        · have : zs = [] := List.eq_nil_of_length_eq_zero h0
          rw [this] at hne
          simp at hne
        · exact h0
      obtain ⟨b, off', rfl, h2⟩ := ints_at hcell hpos
      have h3 := h2 0 hpos
      cases e
      exact World.block_lt_of_cell? W _ h3
    · intro u hu
      exact bounds_i64 (hwf u (List.mem_of_mem_take hu))
    · rw [List.length_take]
      omega

end Go.Proofs.Ytdlaicbdconbcaa
