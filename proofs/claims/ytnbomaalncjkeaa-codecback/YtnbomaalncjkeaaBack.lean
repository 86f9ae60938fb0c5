/-
  CodecBack: for every list of items the law's call returns true and leaves the list as it was; no condition.
-/
import Derived.Test.YtnbomaalncjkeaaW15
namespace Go.Proofs.Ytnbomaalncjkeaa
open Go.ChangeShapes Go.WideShapes Go.ChangeAt Go.RowKit

set_option maxHeartbeats 1000000 in
theorem back_walk (ao : Option Addr) (cap : Nat) (l : List It) (w : World) (hc : ItemsAt w ao l) (hok : ∀ x ∈ l, x.ok) (hlen : l.length ≤ 4398046511104) :
    Calls Try.prog 5 #[.slice ao l.length cap] w fun e w' => e = .returned (.bool true) ∧ Below w.heap.size w w' := by
  have hm : l.length ≤ maxLen := by unfold maxLen; omega
  have HC := hide hc
  have HE := hide (fun w h => encode_any ao cap l w h hok hm)
  have HS := hide (fun w h => shape_any ao cap l w h hlen)
  have HB := hide (fun h => back_pure l h (fun x hx => (hok x hx).2.2.1))
  have HF := hide (encF_fault l)
  have hE1 := encF_len l
  have hZ1 := shapeF_len l
  have HM := hide (fun co dap w h1 h2 => same_any co ao dap cap l w h1 h2 hm)
  clear hc hok
  generalize encF l = E at *
  obtain ⟨S, F⟩ := E
  generalize shapeF l = Z at *
  obtain ⟨A, G⟩ := Z
  by_cases hF : F = 0
  · subst hF
    obtain ⟨hG, hD⟩ := HB.out rfl
    simp only at hG hD
    subst hG
    have hA : A.length ≤ maxLen := Nat.le_trans hZ1 hm
    have hS : S.length ≤ maxLen := by unfold maxLen; simp only at hE1; omega
    have HD := hide (fun w => decode_any ⟨A.toArray⟩ ⟨S.toArray⟩ w (mk_size A hA) (mk_size S hS) (l, 0) hD)
    clear hA hS hD HB HF hE1 hZ1
    go_enter Try.func5, Try.ntmps5
    go_wp2_with fail
    refine (examples_any _).mono ?_
    rintro e w1 ⟨rfl, b1⟩
    have B1 := hide b1
    clear b1
    go_wp2_with fail
    refine (HE.out _ (HC.out.below B1.out)).mono ?_
    rintro e w2 ⟨rfl, b2⟩
    have B2 := hide (B1.out.trans (b2.mono B1.out.size))
    clear b2
    go_wp2_with fail
    refine (HS.out _ (HC.out.below B2.out)).mono ?_
    rintro e w3 ⟨rfl, b3⟩
    have B3 := hide (B2.out.trans (b3.mono B2.out.size))
    clear b3
    go_wp2_with fail
    refine (HD.out _).mono ?_
    rintro e w4 ⟨v, rfl, hown, b4⟩
    have B4 := hide (B3.out.trans (b4.mono B3.out.size))
    obtain ⟨co, dap, rfl, hco⟩ := items_of_own hown
    have HO := hide hco
    clear b4 hown hco
    go_wp2_with fail
    refine (HM.out co dap _ HO.out (HC.out.below B4.out)).mono ?_
    rintro e w5 ⟨rfl, nq, rfl⟩
    go_wp2
    go_ret
    exact ⟨rfl, below_drewN B4.out nq⟩
  · have hS := HF.out hF
    simp only at hS
    subst hS
    have hF2 : (F != 0) = true := by rw [bne_iff_ne]; exact hF
    clear HB HF hF HM hE1 hZ1
    go_enter Try.func5, Try.ntmps5
    go_wp2_with fail
    refine (examples_any _).mono ?_
    rintro e w1 ⟨rfl, b1⟩
    have B1 := hide b1
    clear b1
    go_wp2_with fail
    refine (HE.out _ (HC.out.below B1.out)).mono ?_
    rintro e w2 ⟨rfl, b2⟩
    have B2 := hide (B1.out.trans (b2.mono B1.out.size))
    clear b2
    go_wp2_with fail
    refine (HS.out _ (HC.out.below B2.out)).mono ?_
    rintro e w3 ⟨rfl, b3⟩
    have B3 := hide (B2.out.trans (b3.mono B2.out.size))
    clear b3
    go_wp2
    go_ret
    exact ⟨rfl, B3.out⟩

set_option maxRecDepth 100000 in
theorem back_lifted (os : Os) (started : os.Started) (H : Type) (enc : TypeId × Value → H) :
    ReturnsInHanded {} Try.checked os 5 .any (Rows.codecBackSpec.pre6 enc Try.prog Try.f5 Rows.codecBackRow.domain false) (Rows.codecBackSpec.post enc Try.prog Try.f5 false true false false) := by
  refine returnsInHanded_of_change_sized (C := Try.checked) own started (by kernel_rfl) Try.func5
    (ChangeSpec.witness6 (enc := enc) (C := Try.checked) false ⟨#[], #[.slice none 0 0], []⟩ 8 (by kernel_rfl) (by kernel_rfl) (by kernel_rfl) (by kernel_rfl)) ?_
  intro W base args ds gs before hval0 hW hcnd hsz0 _
  have hval : ∀ (j : Nat) t v, Try.f5.params[j]? = some t → args[j]? = some v → Value.okWide Try.prog W .any base t v := hval0
  have hsz : (DataW.weightsEach Try.prog (Try.f5.params.toList ++ Rows.codecBackSpec.plain.varTypes Try.prog) (ds ++ gs)).all (· ≤ reachBytes) = true := hsz0
  have hW' := hW
  obtain ⟨p, q, hA0, hV, rfl, hfz, hnd⟩ := hW
  have hA : DataW.TrodAll enc Try.prog W 0 (fun _ => true) true Try.f5.params.toList args.toList ds p := hA0
  rw [Try.params5] at hA hval hsz
  obtain ⟨v0, vs0, d0, ds0, p0, q0, hargs, rfl, rfl, h0, r0⟩ := trodAll_cons hA
  obtain ⟨rfl, rfl, rfl⟩ := trodAll_nil r0
  obtain rfl : args = #[v0] := by cases args; simp_all
  obtain ⟨rfl, rfl⟩ := trodVars_none hV
  obtain ⟨a0, len0, cap0, rfl⟩ := okWide_slice Try.underlying22 (hval 0 22 v0 rfl rfl)
  have k0 := h0
  have lt0 : ∀ x ∈ p0, x.block < W.heap.size := by obtain ⟨m, hm⟩ := k0; exact DataW.trod_lt m _ _ _ hm
  obtain ⟨l0, rfl, at0, ok0, dd0⟩ := items_open h0
  have len0 := items_reach hsz (j := 0) rfl rfl dd0
  clear hA0 hval0
  refine (back_walk a0 cap0 l0 W at0 ok0 len0).mono fun e W' ⟨he, bel⟩ => ?_
  subst he
  exact ⟨_, rfl, _, _, _, [], _, [], hW', trodAll_mk1 (shut_bool Try.underlying4 _), (trodAll_cons_mk (Below.trod laidOut (by kernel_rfl) (of_decide_eq_true (by kernel_rfl)) k0 bel lt0) trodAll_mk0), rfl, bel.frame _, fun h => by cases h⟩

/-- THE STATEMENT. -/
theorem codecBack_holds : Rows.CodecBackSaid :=
  OpenClaim.holds_of_wide 5 Try.f5 rfl rfl rfl rfl rfl rfl rfl ⟨rfl, rfl, rfl, rfl, rfl⟩ rfl rfl rfl rfl rfl (by kernel_rfl) Try.func5 (by kernel_rfl)
    (of_decide_eq_true (by kernel_rfl)) (by unfold Func.isWrapper; first | (rw [if_pos (by decide +kernel)]; kernel_rfl) | (rw [if_neg (by decide +kernel)]; exact ⟨rfl, rfl⟩))
    (fun os started H enc _ => back_lifted os started H enc)

#print axioms codecBack_holds
end Go.Proofs.Ytnbomaalncjkeaa
