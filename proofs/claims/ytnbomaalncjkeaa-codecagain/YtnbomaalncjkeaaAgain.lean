/-
  CodecAgain: for every shape and every text the law's call returns true and leaves both as they were; no condition.
-/
import Derived.Test.YtnbomaalncjkeaaW15
import Derived.Test.YtnbomaalncjkeaaPure3
namespace Go.Proofs.Ytnbomaalncjkeaa
open Go.ChangeShapes Go.WideShapes Go.ChangeAt Go.RowKit
open Go.ChangeMaps (open_string shut_string)

set_option maxHeartbeats 1000000 in
theorem again_walk (shape s : ByteArray) (w : World) (h1 : shape.size ≤ maxLen) (h2 : s.size ≤ maxLen) :
    Calls Try.prog 6 #[.string shape, .string s] w fun e w' => e = .returned (.bool true) ∧ Below w.heap.size w w' := by
  have HD := hide (fun w => decode_any shape s w h1 h2 _ rfl)
  have HA := hide (again_pure shape.data.toList s.data.toList)
  have HF := hide (decF_err shape.data.toList s.data.toList)
  generalize decF shape.data.toList s.data.toList = R at *
  obtain ⟨l, F⟩ := R
  by_cases hF : F = 0
  · subst hF
    obtain ⟨hE, hok, hlen⟩ := HA.out rfl
    simp only at hE hok hlen
    have hm : l.length ≤ maxLen := by unfold maxLen; omega
    have hbk := back_pure l (by rw [hE]) (fun x hx => (hok x hx).2.2.1)
    have hE2 : ∀ ao cap w, ItemsAt w ao l → Calls Try.prog 10 #[.slice ao l.length cap] w fun e w' => e = .returned (.tuple #[.string s, .int .i64 0]) ∧ Below w.heap.size w w' := by
      intro ao cap w h
      have := encode_any ao cap l w h hok hm
      rw [hE] at this
      simp only [mk_back] at this
      exact this
    have hS2 : ∀ ao cap w, ItemsAt w ao l → Calls Try.prog 12 #[.slice ao l.length cap] w fun e w' => e = .returned (.tuple #[.string ⟨(shapeF l).1.toArray⟩, .int .i64 (shapeF l).2]) ∧ Below w.heap.size w w' :=
      fun ao cap w h => shape_any ao cap l w h (by omega)
    rw [hbk.1] at hS2
    have hD2 : decF (shapeF l).1 s.data.toList = (l, 0) := by rw [hE] at hbk; exact hbk.2
    have hZ := shapeF_len l
    generalize (shapeF l).1 = A at *
    have HE := hide hE2
    have HS := hide hS2
    have HD2 := hide (fun w => decode_any ⟨A.toArray⟩ s w (mk_size A (Nat.le_trans hZ hm)) h2 (l, 0) hD2)
    have HM := hide (fun ao cap co dap w h1 h2 => same_any co ao dap cap l w h1 h2 hm)
    clear hbk hE hok hE2 hS2 hD2 hZ HA HF hm
    go_enter Try.func6, Try.ntmps6
    go_wp2_with fail
    refine (examples_any _).mono ?_
    rintro e w1 ⟨rfl, b1⟩
    have B1 := hide b1
    clear b1
    go_wp2_with fail
    refine (HD.out _).mono ?_
    rintro e w2 ⟨v, rfl, hown, b2⟩
    have B2 := hide (B1.out.trans (b2.mono B1.out.size))
    obtain ⟨ao, cap, rfl, hao⟩ := items_of_own hown
    have HO := hide hao
    clear b2 hown hao
    go_wp2_with fail
    refine (HE.out ao cap _ HO.out).mono ?_
    rintro e w3 ⟨rfl, b3⟩
    have B3 := hide (B2.out.trans (b3.mono B2.out.size))
    have HO3 := hide (HO.out.below b3)
    clear b3 HO
    go_wp2_with fail
    refine (HS.out ao cap _ HO3.out).mono ?_
    rintro e w4 ⟨rfl, b4⟩
    have B4 := hide (B3.out.trans (b4.mono B3.out.size))
    have HO4 := hide (HO3.out.below b4)
    clear b4 HO3
    go_wp2_with fail
    refine (HD2.out _).mono ?_
    rintro e w5 ⟨v, rfl, hown, b5⟩
    have B5 := hide (B4.out.trans (b5.mono B4.out.size))
    have HO5 := hide (HO4.out.below b5)
    obtain ⟨co, dap, rfl, hco⟩ := items_of_own hown
    have HP := hide hco
    clear b5 hown hco HO4
    go_wp2_with fail
    refine (HM.out ao cap co dap _ HP.out HO5.out).mono ?_
    rintro e w6 ⟨rfl, nq, rfl⟩
    go_wp2
    go_ret
    exact ⟨rfl, below_drewN B5.out nq⟩
  · have hl := HF.out hF
    simp only at hl
    subst hl
    have hF2 : (F != 0) = true := by rw [bne_iff_ne]; exact hF
    clear HA HF hF
    go_enter Try.func6, Try.ntmps6
    go_wp2_with fail
    refine (examples_any _).mono ?_
    rintro e w1 ⟨rfl, b1⟩
    have B1 := hide b1
    clear b1
    go_wp2_with fail
    refine (HD.out _).mono ?_
    rintro e w2 ⟨v, rfl, hown, b2⟩
    have B2 := hide (B1.out.trans (b2.mono B1.out.size))
    obtain ⟨ao, cap, rfl⟩ := own_shape hown
    clear b2 hown
    go_wp2
    go_ret
    exact ⟨rfl, B2.out⟩

set_option maxRecDepth 100000 in
theorem again_lifted (os : Os) (started : os.Started) (H : Type) (enc : TypeId × Value → H) :
    ReturnsInHanded {} Try.checked os 6 .any (Rows.codecAgainSpec.pre6 enc Try.prog Try.f6 Rows.codecAgainRow.domain false) (Rows.codecAgainSpec.post enc Try.prog Try.f6 false true false false) := by
  refine returnsInHanded_of_change (C := Try.checked) own started (by kernel_rfl) Try.func6
    (ChangeSpec.witness6 (enc := enc) (C := Try.checked) false ⟨#[], #[.string ByteArray.empty, .string ByteArray.empty], []⟩ 8 (by kernel_rfl) (by kernel_rfl) (by kernel_rfl) (by kernel_rfl)) ?_
  intro W base args ds gs before hval0 hW hcnd _
  have hval : ∀ (j : Nat) t v, Try.f6.params[j]? = some t → args[j]? = some v → Value.okWide Try.prog W .any base t v := hval0
  have hW' := hW
  obtain ⟨p, q, hA0, hV, rfl, hfz, hnd⟩ := hW
  have hA : DataW.TrodAll enc Try.prog W 0 (fun _ => true) true Try.f6.params.toList args.toList ds p := hA0
  rw [Try.params6] at hA hval
  obtain ⟨v0, vs0, d0, ds0, p0, q0, hargs, rfl, rfl, h0, r0⟩ := trodAll_cons hA
  obtain ⟨v1, vs1, d1, ds1, p1, q1, rfl, rfl, rfl, h1, r1⟩ := trodAll_cons r0
  obtain ⟨rfl, rfl, rfl⟩ := trodAll_nil r1
  obtain rfl : args = #[v0, v1] := by cases args; simp_all
  obtain ⟨rfl, rfl⟩ := trodVars_none hV
  obtain ⟨a0, rfl, rfl, rfl, w0⟩ := open_string Try.underlying9 (hval 0 9 v0 rfl rfl) h0
  obtain ⟨a1, rfl, rfl, rfl, w1⟩ := open_string Try.underlying9 (hval 1 9 v1 rfl rfl) h1
  clear hA0 hval0
  refine (again_walk a0 a1 W w0 w1).mono fun e W' ⟨he, bel⟩ => ?_
  subst he
  exact ⟨_, rfl, _, _, _, [], _, [], hW', trodAll_mk1 (shut_bool Try.underlying4 _), (trodAll_cons_mk (shut_string Try.underlying9 w0) (trodAll_cons_mk (shut_string Try.underlying9 w1) trodAll_mk0)), rfl, bel.frame _, fun h => by cases h⟩

/-- THE STATEMENT. -/
theorem codecAgain_holds : Rows.CodecAgainSaid :=
  OpenClaim.holds_of_wide 6 Try.f6 rfl rfl rfl rfl rfl rfl rfl ⟨rfl, rfl, rfl, rfl, rfl⟩ rfl rfl rfl rfl rfl (by kernel_rfl) Try.func6 (by kernel_rfl)
    (of_decide_eq_true (by kernel_rfl)) (by unfold Func.isWrapper; first | (rw [if_pos (by decide +kernel)]; kernel_rfl) | (rw [if_neg (by decide +kernel)]; exact ⟨rfl, rfl⟩))
    (fun os started H enc _ => again_lifted os started H enc)

#print axioms codecAgain_holds
end Go.Proofs.Ytnbomaalncjkeaa
