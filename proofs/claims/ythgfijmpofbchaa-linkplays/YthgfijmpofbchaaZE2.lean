/-
  examples, as it runs (mke2.py).
-/
import Derived.Test.YthgfijmpofbchaaZE1
namespace Go.Proofs.Ythgfijmpofbchaa
open Go.RowKit

set_option maxHeartbeats 8000000 in
set_option maxRecDepth 100000 in
theorem examples_any (w : World) : Calls Try.prog 5 #[] w fun e w' => e = .returned (.bool true) ∧ Below w.heap.size w w' := by
  go_enter Try.func5, Try.ntmps5
  go_wp2_with fail
  refine (new1 _).mono ?_
  rintro e w1 ⟨rfl, p1, b1⟩
  have P1 := hide p1
  have B1 := hide b1
  clear p1 b1
  go_wp2_with fail
  refine (new1 _).mono ?_
  rintro e w2 ⟨rfl, p2, b2⟩
  have E2 : Hid (Ends (fun j => j < w.heap.size) w2 w.heap.size (.slice none 0 0) (LK.new 1) w1.heap.size (.slice none 0 0) (LK.new 1)) := by
    have hs := heap_lt P1.out.box
    refine ⟨P1.out.below b2, p2, fun j h1 h2 => ?_, fun j h1 h2 => ?_, fun j h1 h2 => ?_⟩
    · rcases h1 with h1 | h1
      · rcases h2 with h2 | h2
        · omega
        · cases h2
      · cases h1
    · rcases h1 with h1 | h1
      · omega
      · cases h1
    · rcases h1 with h1 | h1
      · omega
      · cases h1
  have B2 := hide (B1.out.trans (b2.mono B1.out.size))
  clear p2 b2 P1 B1
  generalize w1.heap.size = bb at *
  go_wp2_with fail
  refine (new0 _).mono ?_
  rintro e w3 ⟨rfl, hw3⟩
  obtain rfl := hw3.symm
  go_wp2_with fail
  clear hw3
  refine (psend E2.out.one X0 (by rw [x0_size]; omega)).mono ?_
  rintro e w3 ⟨rfl, v3, p3, s3⟩
  rw [ex_send] at p3
  have E3 := hide (E2.out.call1 (fun j hj => Nat.lt_of_lt_of_le hj B2.out.size) p3 s3)
  have B3 := hide (B2.out.trans ((s3).touch.toBelow (B := w.heap.size) B2.out.size (fun k hk e => E2.out.fone k e hk)))
  clear p3 s3 E2 B2
  rw [ex_send]
  go_wp2_with fail
  refine (pout E3.out.one).mono ?_
  rintro e w4 ⟨oo4, oc4, rfl, g4⟩
  rw [ex_outA1, ex_putA1] at g4
  rw [ex_outA1]
  have E4 := hide (E3.out.call1 (fun j hj => Nat.lt_of_lt_of_le hj B3.out.size) g4.link (⟨g4.touch, fun _ e => .inl e⟩ : PStep _ _ _ _ _))
  have B4 := hide (B3.out.trans (((⟨g4.touch, fun _ e => .inl e⟩ : PStep _ _ _ _ _)).touch.toBelow (B := w.heap.size) B3.out.size (fun k hk e => E3.out.fone k e hk)))
  have R4 := hide g4.row
  clear g4 E3 B3
  simp only [List.length_singleton] at R4 ⊢
  obtain ⟨rg4, hrg, hcs4, hg4a, hg4b, y0, y1, y2, y3, y4⟩ := fr_one R4.out
  cases hrg
  simp only [fr1] at y0 y1 y2 y3 y4
  go_wp2_with fail
  refine (ptake E4.out.two fr1 (show FR.ok fr1 by unfold FR.ok fr1; simp [e0_size])).mono ?_
  rintro e w5 ⟨ao5, cp5, v5, rfl, t5⟩
  rw [ex_takeB0] at t5
  rw [ex_takeB0]
  have E5 := hide (E4.out.call2 (fun j hj => Nat.lt_of_lt_of_le hj B4.out.size) t5.link t5.step)
  have B5 := hide (B4.out.trans ((t5.step).touch.toBelow (B := w.heap.size) B4.out.size (fun k hk e => E4.out.ftwo k e hk)))
  clear t5 y0 y1 y2 y3 y4 R4 E4 B4
  simp only [List.length_nil]
  go_wp2_with fail
  refine (pout E5.out.two).mono ?_
  rintro e w6 ⟨oo6, oc6, rfl, g6⟩
  rw [ex_outB1, ex_putB1] at g6
  rw [ex_outB1]
  have E6 := hide (E5.out.call2 (fun j hj => Nat.lt_of_lt_of_le hj B5.out.size) g6.link (⟨g6.touch, fun _ e => .inl e⟩ : PStep _ _ _ _ _))
  have B6 := hide (B5.out.trans (((⟨g6.touch, fun _ e => .inl e⟩ : PStep _ _ _ _ _)).touch.toBelow (B := w.heap.size) B5.out.size (fun k hk e => E5.out.ftwo k e hk)))
  have R6 := hide g6.row
  clear g6 E5 B5
  simp only [List.length_singleton] at R6 ⊢
  obtain ⟨rg6, hrg, hcs6, hg6a, hg6b, y0, y1, y2, y3, y4⟩ := fr_one R6.out
  cases hrg
  simp only [fr2] at y0 y1 y2 y3 y4
  go_wp2_with fail
  refine (ptake E6.out.one fr2 (show FR.ok fr2 by unfold FR.ok fr2; simp [e0_size])).mono ?_
  rintro e w7 ⟨ao7, cp7, v7, rfl, t7⟩
  rw [ex_takeA2] at t7
  rw [ex_takeA2]
  have E7 := hide (E6.out.call1 (fun j hj => Nat.lt_of_lt_of_le hj B6.out.size) t7.link t7.step)
  have B7 := hide (B6.out.trans ((t7.step).touch.toBelow (B := w.heap.size) B6.out.size (fun k hk e => E6.out.fone k e hk)))
  clear t7 y0 y1 y2 y3 y4 R6 E6 B6
  simp only [List.length_nil]
  go_wp2_with fail
  refine (pout E7.out.one).mono ?_
  rintro e w8 ⟨oo8, oc8, rfl, g8⟩
  rw [ex_outA3, ex_putA3] at g8
  rw [ex_outA3]
  have E8 := hide (E7.out.call1 (fun j hj => Nat.lt_of_lt_of_le hj B7.out.size) g8.link (⟨g8.touch, fun _ e => .inl e⟩ : PStep _ _ _ _ _))
  have B8 := hide (B7.out.trans (((⟨g8.touch, fun _ e => .inl e⟩ : PStep _ _ _ _ _)).touch.toBelow (B := w.heap.size) B7.out.size (fun k hk e => E7.out.fone k e hk)))
  have R8 := hide g8.row
  clear g8 E7 B7
  simp only [List.length_singleton] at R8 ⊢
  obtain ⟨rg8, hrg, hcs8, hg8a, hg8b, y0, y1, y2, y3, y4⟩ := fr_one R8.out
  cases hrg
  simp only [fr3] at y0 y1 y2 y3 y4
  rw [show X0 = (⟨#[120]⟩ : ByteArray) from rfl] at y4
  have E8x := hide (E8.out.add hcs8.choose_spec (by decide) (by decide))
  have hl8 : ∀ W : World, Touch (fun _ => False) w8 W → True := fun _ _ => trivial
  clear hl8
  go_wp2_with fail
  refine (ptake E8x.out.two fr3 (show FR.ok fr3 by unfold FR.ok fr3; rw [x0_size]; omega)).mono ?_
  rintro e w9 ⟨ao9, cp9, v9, rfl, t9⟩
  rw [ex_takeB2] at t9
  rw [ex_takeB2]
  have E9 := hide (E8x.out.call2 (by rintro j (hj | rfl); exact Nat.lt_of_lt_of_le hj B8.out.size; exact hg8b) t9.link t9.step)
  have B9 := hide (B8.out.trans ((t9.step).touch.toBelow (B := w.heap.size) B8.out.size (fun k hk e => E8x.out.ftwo k e (.inl hk))))
  have z0 := t9.step.touch.cell _ y0 (fun e => E8x.out.ftwo _ e (.inr rfl))
  have z1 := t9.step.touch.cell _ y1 (fun e => E8x.out.ftwo _ e (.inr rfl))
  have z2 := t9.step.touch.cell _ y2 (fun e => E8x.out.ftwo _ e (.inr rfl))
  have z3 := t9.step.touch.cell _ y3 (fun e => E8x.out.ftwo _ e (.inr rfl))
  have z4 := t9.step.touch.cell _ y4 (fun e => E8x.out.ftwo _ e (.inr rfl))
  have hgz := Nat.lt_of_lt_of_le hg8b t9.step.touch.size
  have S1 := hide t9.row
  simp only [List.length_singleton, List.map_cons, List.map_nil] at S1 ⊢
  obtain ⟨sg, rfl, hsc, hsa, hsb, s0⟩ := str_one S1.out
  have E9x := hide (E9.out.add hsc.choose_spec (by decide) (by decide))
  clear t9 y0 y1 y2 y3 y4 E8x B8
  go_wp2_with fail
  refine (ptake E9x.out.two fr3 (show FR.ok fr3 by unfold FR.ok fr3; rw [x0_size]; omega)).mono ?_
  rintro e w10 ⟨ao10, cp10, v10, rfl, t10⟩
  rw [ex_takeB3] at t10
  rw [ex_takeB3]
  have E10 := hide (E9x.out.call2 (by rintro j ((hj | rfl) | rfl); exact Nat.lt_of_lt_of_le hj B9.out.size; exact hgz; exact hsb) t10.link t10.step)
  have B10 := hide (B9.out.trans ((t10.step).touch.toBelow (B := w.heap.size) B9.out.size (fun k hk e => E9x.out.ftwo k e (.inl (.inl hk)))))
  have s1 := t10.step.touch.cell _ s0 (fun e => E9x.out.ftwo _ e (.inr rfl))
  have hgz2 := Nat.lt_of_lt_of_le hgz t10.step.touch.size
  have hsb2 := Nat.lt_of_lt_of_le hsb t10.step.touch.size
  simp only [List.length_nil]
  clear t10 z0 z1 z2 z3 z4 s0 hgz hsb E9x B9
  go_wp2_with fail
  refine (pout E10.out.two).mono ?_
  rintro e w11 ⟨oo11, oc11, rfl, g11⟩
  rw [ex_outB3, ex_putB3] at g11
  rw [ex_outB3]
  have E11 := hide (E10.out.call2 (by rintro j ((hj | rfl) | rfl); exact Nat.lt_of_lt_of_le hj B10.out.size; exact hgz2; exact hsb2) g11.link (⟨g11.touch, fun _ e => .inl e⟩ : PStep _ _ _ _ _))
  have B11 := hide (B10.out.trans (((⟨g11.touch, fun _ e => .inl e⟩ : PStep _ _ _ _ _)).touch.toBelow (B := w.heap.size) B10.out.size (fun k hk e => E10.out.ftwo k e (.inl (.inl hk)))))
  have s2 := g11.touch.cell _ s1 (fun e => E10.out.ftwo _ e (.inr rfl))
  have R11 := hide g11.row
  clear g11 s1 E10 B10
  simp only [List.length_singleton] at R11 ⊢
  obtain ⟨rg, hrg, _, hga, hgb, y0, y1, y2, y3, y4⟩ := fr_one R11.out
  cases hrg
  simp only [fr4] at y0 y1 y2 y3 y4
  have HWT := hide (pwaiting E11.out.one)
  rw [show (kA4.wait.length : Int) = 1 from rfl] at HWT
  rw [show X0 = (⟨#[120]⟩ : ByteArray) from rfl] at s2
  go_wp2_with (go_at_call 19; refine HWT.out.mono ?_; rintro e w' ⟨rfl, hw⟩; obtain rfl := hw.symm)
  go_ret
  exact ⟨rfl, B11.out⟩
end Go.Proofs.Ythgfijmpofbchaa
