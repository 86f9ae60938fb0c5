/-
  The document's own text as bytes, as it runs.
-/
import Derived.Test.YtgnehnlmbodijaaDoorZKR1
import Derived.Deep.RegionHeld
namespace Go.Proofs.YtgnehnlmbodijaaDoor.K
open Go.RowKit

set_option maxHeartbeats 400000 in
theorem one_text_ok (s : ByteArray) (w : World) (hl : s.size ≤ 100000) :
    Calls Tryd.prog 42 #[.agg #[.int .i64 4, .int .u64 0, .string s]] w fun e w' => e = .returned (.tuple #[.string ⟨(Lib.beBytes 4 s.size ++ s.data.toList).toArray⟩, .int .i64 0]) ∧ Below w.heap.size w w' := by
  have HW : Hid (∀ w, Calls Tryd.prog 56 #[.int .i64 4] w fun e w' => e = .returned (.int .i64 0) ∧ w' = w) := fun w => rwidth_any 4 w
  have HN : Hid (∀ w, Calls Tryd.prog 57 #[.int .u64 (IntKind.u64.wrap (s.size : Int)), .int .i64 4] w fun e w' => e = .returned (.string ⟨(Lib.beBytes 4 s.size).toArray⟩) ∧ Below w.heap.size w w') := by
    intro w
    rw [wraps_u64 _ (by omega) (by omega)]
    exact num_4 s.size w (by omega)
  have hN : (⟨(Lib.beBytes 4 s.size).toArray⟩ : ByteArray).size ≤ 4 := by
    show (Lib.beBytes 4 s.size).toArray.size ≤ 4
    rw [List.size_toArray, Lib.beBytes_length]
    exact Nat.le_refl _
  have e1 : (⟨(Lib.beBytes 4 s.size ++ s.data.toList).toArray⟩ : ByteArray) = ⟨(Lib.beBytes 4 s.size).toArray⟩ ++ s := by
    have h := ByteArray.mk_append_mk (Lib.beBytes 4 s.size) s.data.toList
    rw [mk_back] at h
    exact h.symm
  rw [e1]
  clear e1
  generalize (⟨(Lib.beBytes 4 s.size).toArray⟩ : ByteArray) = N at HN hN ⊢
  go_enter Tryd.func42, Tryd.ntmps42
  go_wp2_with (go_at_call 56; refine (HW.out _).mono ?_; rintro e w' ⟨rfl, rfl⟩)
  go_region_held (fun w' => w'.cell? ⟨w.heap.size, 2, none⟩ = some (.string s)) (go_keep) ((go_at_call 57; refine (HN.out _).mono ?_; rintro e w2 ⟨rfl, hb⟩; have c2 : w2.cell? ⟨w.heap.size, 2, none⟩ = some (.string s) := by (rw [hb.cell (p := ⟨w.heap.size, 2, none⟩) (by simp)]; simp)))
  have B2 := hide (((Below.refl _ _).alloc (Nat.le_refl _) _).drew.trans (hb.mono (by simp)))
  clear hb c2
  go_wp2
  go_ret2
  exact ⟨rfl, B2.out⟩

end Go.Proofs.YtgnehnlmbodijaaDoor.K
