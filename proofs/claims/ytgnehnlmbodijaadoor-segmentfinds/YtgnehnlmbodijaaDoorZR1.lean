/-
  carillonref06's Right and One, as they run.
-/
import Derived.Test.YtgnehnlmbodijaaDoorZS3
import Derived.Test.YtgnehnlmbodijaaDoorZQC3
import Derived.Test.YtgnehnlmbodijaaDoorZGK
namespace Go.Proofs.YtgnehnlmbodijaaDoor
open Go.RowKit

set_option maxHeartbeats 2000000 in
theorem rright_any (r : Rec) (hr : r.ok) (w : World) :
    Calls Tryd.prog 13 #[r.v] w fun e w' => e = .returned (.bool (decide (RightP r))) ∧ Below w.heap.size w w' := by
  obtain ⟨off, prod, seq, key, val⟩ := r
  obtain ⟨_, _, _, _, z1, z2, z3⟩ := hr
  simp only [Rec.v] at *
  by_cases h1 : 0 ≤ off
  · by_cases h2 : off ≤ 9007199254740991
    · by_cases h3 : 0 ≤ seq
      · by_cases h4 : seq ≤ 9007199254740991
        · by_cases h5 : (prod.size : Int) ≤ 20
          · by_cases h6 : (key.size : Int) ≤ 100
            · by_cases h7 : (val.size : Int) ≤ 1000
              · have hk : decide (RightP ⟨off, prod, seq, key, val⟩) = true := decide_eq_true (RightP.of h1 h2 h3 h4 h5 h6 h7)
                rw [hk]
                clear hk
                go_enter Tryd.func13, Tryd.ntmps13
                go_wp2
                go_ret
                exact ⟨rfl, (Below.refl _ _).alloc (Nat.le_refl _) _⟩
              · have hk : decide (RightP ⟨off, prod, seq, key, val⟩) = false := decide_eq_false fun e => h7 e.out.2.2.2.2.2.2
                rw [hk]
                clear hk
                go_enter Tryd.func13, Tryd.ntmps13
                go_wp2
                go_ret
                exact ⟨rfl, (Below.refl _ _).alloc (Nat.le_refl _) _⟩
            · have hk : decide (RightP ⟨off, prod, seq, key, val⟩) = false := decide_eq_false fun e => h6 e.out.2.2.2.2.2.1
              rw [hk]
              clear hk
              go_enter Tryd.func13, Tryd.ntmps13
              go_wp2
              go_ret
              exact ⟨rfl, (Below.refl _ _).alloc (Nat.le_refl _) _⟩
          · have hk : decide (RightP ⟨off, prod, seq, key, val⟩) = false := decide_eq_false fun e => h5 e.out.2.2.2.2.1
            rw [hk]
            clear hk
            go_enter Tryd.func13, Tryd.ntmps13
            go_wp2
            go_ret
            exact ⟨rfl, (Below.refl _ _).alloc (Nat.le_refl _) _⟩
        · have hk : decide (RightP ⟨off, prod, seq, key, val⟩) = false := decide_eq_false fun e => h4 e.out.2.2.2.1
          rw [hk]
          clear hk
          go_enter Tryd.func13, Tryd.ntmps13
          go_wp2
          go_ret
          exact ⟨rfl, (Below.refl _ _).alloc (Nat.le_refl _) _⟩
      · have hk : decide (RightP ⟨off, prod, seq, key, val⟩) = false := decide_eq_false fun e => h3 e.out.2.2.1
        rw [hk]
        clear hk
        go_enter Tryd.func13, Tryd.ntmps13
        go_wp2
        go_ret
        exact ⟨rfl, (Below.refl _ _).alloc (Nat.le_refl _) _⟩
    · have hk : decide (RightP ⟨off, prod, seq, key, val⟩) = false := decide_eq_false fun e => h2 e.out.2.1
      rw [hk]
      clear hk
      go_enter Tryd.func13, Tryd.ntmps13
      go_wp2
      go_ret
      exact ⟨rfl, (Below.refl _ _).alloc (Nat.le_refl _) _⟩
  · have hk : decide (RightP ⟨off, prod, seq, key, val⟩) = false := decide_eq_false fun e => h1 e.out.1
    rw [hk]
    clear hk
    go_enter Tryd.func13, Tryd.ntmps13
    go_wp2
    go_ret
    exact ⟨rfl, (Below.refl _ _).alloc (Nat.le_refl _) _⟩
set_option maxHeartbeats 1000000 in
theorem rone_bad (r : Rec) (hr : r.ok) (hb : ¬ RightP r) (w : World) :
    Calls Tryd.prog 11 #[r.v] w fun e w' => e = .returned (.tuple #[.string ⟨#[]⟩, .bool false]) ∧ Below w.heap.size w w' := by
  have HR := hide (rright_any r hr)
  rw [decide_eq_false hb] at HR
  obtain ⟨off, prod, seq, key, val⟩ := r
  clear hr hb
  simp only [Rec.v] at *
  go_enter Tryd.func11, Tryd.ntmps11
  go_wp2_with fail
  refine (HR.out _).mono ?_
  rintro e w1 ⟨rfl, b1⟩
  go_wp2
  go_ret2
  exact ⟨rfl, ((Below.refl _ _).alloc (Nat.le_refl _) _).trans (b1.mono (by simp))⟩
set_option maxHeartbeats 1000000 in
theorem rone_good (r : Rec) (hb : RightP r) (w : World) :
    Calls Tryd.prog 11 #[r.v] w fun e w' => e = .returned (.tuple #[.string ⟨(oneF r).toArray⟩, .bool true]) ∧ Below w.heap.size w w' := by
  have HR := hide (rright_any r hb.ok)
  have HE : Hid (∀ g w, K.ItemsAt w (some ⟨g, 0, none⟩) (itemsR r) → Calls Tryd.prog 28 #[.slice (some ⟨g, 0, none⟩) 5 5] w fun e w' => e = .returned (.tuple #[.string ⟨(codeR r).toArray⟩, .int .i64 0]) ∧ Below w.heap.size w w') := fun g w h => by
    have := K.rencode_any _ 5 (itemsR r) w h (itemsR_ok hb) (by unfold maxLen; simp [itemsR])
    rw [encR hb] at this
    exact this
  have HF : Hid (∀ w, Calls Tryd.prog 29 #[.string ⟨(codeR r).toArray⟩] w fun e w' => e = .returned (.tuple #[.string ⟨(oneF r).toArray⟩, .bool true]) ∧ Below w.heap.size w w') := fun w => by
    have hl := codeR_le hb
    have hs : (⟨(codeR r).toArray⟩ : ByteArray).size = (codeR r).length := by show (codeR r).toArray.size = _; simp
    have := rframe_any ⟨(codeR r).toArray⟩ w (by rw [hs]; omega)
    rw [show ((⟨(codeR r).toArray⟩ : ByteArray).data.toList) = codeR r by simp, frameR hb, decide_eq_true (show (⟨(codeR r).toArray⟩ : ByteArray).size ≤ 400000 by rw [hs]; omega)] at this
    exact this
  have HIT := hide (fun W b t => items_at W r b t)
  rw [decide_eq_true hb] at HR
  generalize (codeR r).toArray = cd at *
  generalize (oneF r).toArray = fr at *
  generalize itemsR r = its at *
  obtain ⟨off, prod, seq, key, val⟩ := r
  obtain ⟨p1, p2, p3, p4, _⟩ := hb.out
  clear hb
  simp only [Rec.v] at *
  go_enter Tryd.func11, Tryd.ntmps11
  go_wp2_with fail
  refine (HR.out _).mono ?_
  rintro e w1 ⟨rfl, b1⟩
  have B1 : Hid (Below w.heap.size w w1) := ((Below.refl _ _).alloc (Nat.le_refl _) _).trans (b1.mono (by simp))
  have hblk := (b1.block w.heap.size (by simp)).trans (heap_alloc_new _ _)
  obtain ⟨⟨c0, c1, c2, c3, c4⟩, _⟩ := box5 hblk
  clear b1 HR hblk
  go_wp2_with fail
  refine (HE.out w1.heap.size _ (HIT.out _ _ 65 (heap_alloc_new w1 _))).mono ?_
  rintro e w2 ⟨rfl, b2⟩
  have B2 := hide ((B1.out.alloc B1.out.size _).trans (b2.mono (B1.out.alloc B1.out.size _).size))
  clear b2 HE B1
  go_wp2_with fail
  refine (HF.out _).mono ?_
  rintro e w3 ⟨rfl, b3⟩
  have B3 := hide (B2.out.trans (b3.mono B2.out.size))
  clear b3 HF B2
  go_wp2
  go_ret2
  exact ⟨rfl, B3.out⟩
end Go.Proofs.YtgnehnlmbodijaaDoor
