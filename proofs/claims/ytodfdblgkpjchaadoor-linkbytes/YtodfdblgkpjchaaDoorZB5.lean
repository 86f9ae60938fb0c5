/-
  carillonref09's Encode, as it runs.
-/
import Derived.Test.YtodfdblgkpjchaaDoorZB2
import Derived.Test.YtodfdblgkpjchaaDoorZX2
import Derived.Test.YtodfdblgkpjchaaDoorZB3
import Derived.Test.YtodfdblgkpjchaaDoorZQC3
import Derived.Test.YtodfdblgkpjchaaDoorZGK
namespace Go.Proofs.YtodfdblgkpjchaaDoor
open Go.RowKit

set_option maxHeartbeats 1000000 in
theorem xenc_bad (r : FR) (hr : r.ok) (hb : ¬ r.rightP) (w : World) :
    Calls Tryd.prog 7 #[r.v] w fun e w' => e = .returned (.tuple #[.string ⟨#[]⟩, .bool false]) ∧ Below w.heap.size w w' := by
  have HR := hide (xright r hr)
  rw [decide_eq_false hb] at HR
  obtain ⟨ep, pe, sq, ak, bo⟩ := r
  clear hr hb
  simp only [FR.v] at *
  go_enter Tryd.func7, Tryd.ntmps7
  go_wp2_with fail
  refine (HR.out _).mono ?_
  rintro e w1 ⟨rfl, b1⟩
  go_wp2
  go_ret2
  exact ⟨rfl, ((Below.refl _ _).alloc (Nat.le_refl _) _).trans (b1.mono (by simp))⟩
set_option maxHeartbeats 1000000 in
theorem xenc_good (r : FR) (hb : r.rightP) (w : World) :
    Calls Tryd.prog 7 #[r.v] w fun e w' => e = .returned (.tuple #[.string ⟨(oneL r).toArray⟩, .bool true]) ∧ Below w.heap.size w w' := by
  have HR := hide (xright r hb.okF)
  have HE : Hid (∀ g w, K.ItemsAt w (some ⟨g, 0, none⟩) (itemsL r) → Calls Tryd.prog 20 #[.slice (some ⟨g, 0, none⟩) 5 5] w fun e w' => e = .returned (.tuple #[.string ⟨(codeL r).toArray⟩, .int .i64 0]) ∧ Below w.heap.size w w') := fun g w h => by
    have := K.rencode_any _ 5 (itemsL r) w h (itemsL_ok hb) (by unfold maxLen; simp [itemsL])
    rw [encL hb] at this
    exact this
  have HF : Hid (∀ w, Calls Tryd.prog 21 #[.string ⟨(codeL r).toArray⟩] w fun e w' => e = .returned (.tuple #[.string ⟨(oneL r).toArray⟩, .bool true]) ∧ Below w.heap.size w w') := fun w => by
    have hl := codeL_le hb
    have hs : (⟨(codeL r).toArray⟩ : ByteArray).size = (codeL r).length := by show (codeL r).toArray.size = _; simp
    have := rframe_any ⟨(codeL r).toArray⟩ w (by rw [hs]; omega)
    rw [show ((⟨(codeL r).toArray⟩ : ByteArray).data.toList) = codeL r by simp, frameL hb, decide_eq_true (show (⟨(codeL r).toArray⟩ : ByteArray).size ≤ 400000 by rw [hs]; omega)] at this
    exact this
  have HIT := hide (fun W b t => items_at W r b t)
  rw [decide_eq_true hb] at HR
  generalize (codeL r).toArray = cd at *
  generalize (oneL r).toArray = fr at *
  generalize itemsL r = its at *
  obtain ⟨ep, pe, sq, ak, bo⟩ := r
  obtain ⟨p1, p2, p3, p4, p5, p6, p7, p8, _⟩ := hb
  simp only at p1 p2 p3 p4 p5 p6 p7 p8
  simp only [FR.v] at *
  go_enter Tryd.func7, Tryd.ntmps7
  go_wp2_with fail
  refine (HR.out _).mono ?_
  rintro e w1 ⟨rfl, b1⟩
  have B1 : Hid (Below w.heap.size w w1) := ((Below.refl _ _).alloc (Nat.le_refl _) _).trans (b1.mono (by simp))
  have hblk := (b1.block w.heap.size (by simp)).trans (heap_alloc_new _ _)
  obtain ⟨⟨c0, c1, c2, c3, c4⟩, _⟩ := box5 hblk
  clear b1 HR hblk
  go_wp2_with fail
  refine (HE.out w1.heap.size _ (HIT.out _ _ 54 (heap_alloc_new w1 _))).mono ?_
  rintro e w2 ⟨rfl, b2⟩
  have B2 := hide ((B1.out.alloc B1.out.size _).trans (b2.mono (B1.out.alloc B1.out.size _).size))
  clear b2 HE B1
  go_wp2_with fail
  refine (HF.out _).mono ?_
  rintro e w3 ⟨rfl, b3⟩
  have B3 := hide (B2.out.trans (b3.mono B2.out.size))
  clear b3 HF B2
  go_wp2
  go_ret2
  exact ⟨rfl, B3.out⟩
end Go.Proofs.YtodfdblgkpjchaaDoor
