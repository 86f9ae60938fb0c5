/-
  CodecWrites: for every list of items the law's call returns true and leaves the list as it was; no condition.
-/
import Derived.Test.YtnbomaalncjkeaaR4
namespace Go.Proofs.Ytnbomaalncjkeaa
open Go.ChangeShapes Go.WideShapes Go.ChangeAt Go.RowKit

set_option maxHeartbeats 1000000 in
theorem writes_yes (ao : Option Addr) (cap : Nat) (l : List It) (w : World) (F : Int) (S A : ByteArray)
    (HC : Hid (ItemsAt w ao l)) (hna : ao = none → cap = 0 ∧ l = []) (hlen : l.length ≤ 4398046511104)
    (HE : Hid (∀ co dap w, ItemsAt w co l → Calls Try.prog 10 #[.slice co l.length dap] w fun e w' => e = .returned (.tuple #[.string S, .int .i64 F]) ∧ Below w.heap.size w w'))
    (HRE : Hid (∀ w, ItemsAt w ao l → Calls Try.prog 11 #[.slice ao l.length cap] w fun e w' => e = .returned (.tuple #[.string S, .int .i64 F]) ∧ Below w.heap.size w w'))
    (HS : Hid (∀ co dap w, ItemsAt w co l → Calls Try.prog 12 #[.slice co l.length dap] w fun e w' => e = .returned (.tuple #[.string A, .int .i64 0]) ∧ Below w.heap.size w w'))
    (HRS : Hid (∀ w, ItemsAt w ao l → Calls Try.prog 13 #[.slice ao l.length cap] w fun e w' => e = .returned (.tuple #[.string A, .bool true]) ∧ Below w.heap.size w w'))
    (HM : Hid (∀ co dap w, ItemsAt w co l → ItemsAt w ao l → Calls Try.prog 14 #[.slice co l.length dap, .slice ao l.length cap] w fun e w' => e = .returned (.bool true) ∧ ∃ n, w' = w.drewN n)) :
    Calls Try.prog 3 #[.slice ao l.length cap] w fun e w' => e = .returned (.bool true) ∧ Below w.heap.size w w' := by
  go_enter Try.func3, Try.ntmps3
  go_wp2_with fail
  refine (examples_any _).mono ?_
  rintro e w1 ⟨rfl, b1⟩
  have B1 := hide b1
  clear b1
  go_wp2_with (at_builtin; refine wpList_append_items rfl _ _ rfl w.heap.size (.slice none 0 0) [] rfl ⟨rfl, Or.inl ⟨rfl, rfl⟩⟩ ao cap l rfl hna (HC.out.below B1.out) ?_ B1.out.size ?_)
  case _ => simp; omega
  intro v2 w2 hown2 hg2
  have B2 := hide (B1.out.grown hg2 B1.out.size (fun k hk => by simp [Value.ownBlock] at hk))
  obtain ⟨co, dap, rfl, hco⟩ := items_of_own (l := l) hown2
  have HO2 := hide hco
  clear hown2 hg2 hco
  go_wp2_with fail
  refine (HE.out co dap _ HO2.out).mono ?_
  rintro e w3 ⟨rfl, b3⟩
  have B3 := hide (B2.out.trans (b3.mono B2.out.size))
  have HO3 := hide (HO2.out.below b3)
  clear b3 HO2
  go_wp2_with fail
  refine (HRE.out _ (HC.out.below B3.out)).mono ?_
  rintro e w4 ⟨rfl, b4⟩
  have B4 := hide (B3.out.trans (b4.mono B3.out.size))
  have HO4 := hide (HO3.out.below b4)
  clear b4 HO3
  go_wp2_with fail
  refine (HS.out co dap _ HO4.out).mono ?_
  rintro e w5 ⟨rfl, b5⟩
  have B5 := hide (B4.out.trans (b5.mono B4.out.size))
  have HO5 := hide (HO4.out.below b5)
  clear b5 HO4
  go_wp2_with fail
  refine (HRS.out _ (HC.out.below B5.out)).mono ?_
  rintro e w6 ⟨rfl, b6⟩
  have B6 := hide (B5.out.trans (b6.mono B5.out.size))
  have HO6 := hide (HO5.out.below b6)
  clear b6 HO5
  go_wp2_with fail
  refine (HM.out co dap _ HO6.out (HC.out.below B6.out)).mono ?_
  rintro e w7 ⟨rfl, nq, rfl⟩
  go_wp2
  go_ret
  exact ⟨rfl, below_drewN B6.out nq⟩

set_option maxHeartbeats 1000000 in
theorem writes_no (ao : Option Addr) (cap : Nat) (l : List It) (w : World) (F : Int) (S A : ByteArray)
    (HC : Hid (ItemsAt w ao l)) (hna : ao = none → cap = 0 ∧ l = []) (hlen : l.length ≤ 4398046511104)
    (HE : Hid (∀ co dap w, ItemsAt w co l → Calls Try.prog 10 #[.slice co l.length dap] w fun e w' => e = .returned (.tuple #[.string S, .int .i64 F]) ∧ Below w.heap.size w w'))
    (HRE : Hid (∀ w, ItemsAt w ao l → Calls Try.prog 11 #[.slice ao l.length cap] w fun e w' => e = .returned (.tuple #[.string S, .int .i64 F]) ∧ Below w.heap.size w w'))
    (HS : Hid (∀ co dap w, ItemsAt w co l → Calls Try.prog 12 #[.slice co l.length dap] w fun e w' => e = .returned (.tuple #[.string A, .int .i64 1]) ∧ Below w.heap.size w w'))
    (HRS : Hid (∀ w, ItemsAt w ao l → Calls Try.prog 13 #[.slice ao l.length cap] w fun e w' => e = .returned (.tuple #[.string A, .bool false]) ∧ Below w.heap.size w w'))
    (HM : Hid (∀ co dap w, ItemsAt w co l → ItemsAt w ao l → Calls Try.prog 14 #[.slice co l.length dap, .slice ao l.length cap] w fun e w' => e = .returned (.bool true) ∧ ∃ n, w' = w.drewN n)) :
    Calls Try.prog 3 #[.slice ao l.length cap] w fun e w' => e = .returned (.bool true) ∧ Below w.heap.size w w' := by
  go_enter Try.func3, Try.ntmps3
  go_wp2_with fail
  refine (examples_any _).mono ?_
  rintro e w1 ⟨rfl, b1⟩
  have B1 := hide b1
  clear b1
  go_wp2_with (at_builtin; refine wpList_append_items rfl _ _ rfl w.heap.size (.slice none 0 0) [] rfl ⟨rfl, Or.inl ⟨rfl, rfl⟩⟩ ao cap l rfl hna (HC.out.below B1.out) ?_ B1.out.size ?_)
  case _ => simp; omega
  intro v2 w2 hown2 hg2
  have B2 := hide (B1.out.grown hg2 B1.out.size (fun k hk => by simp [Value.ownBlock] at hk))
  obtain ⟨co, dap, rfl, hco⟩ := items_of_own (l := l) hown2
  have HO2 := hide hco
  clear hown2 hg2 hco
  go_wp2_with fail
  refine (HE.out co dap _ HO2.out).mono ?_
  rintro e w3 ⟨rfl, b3⟩
  have B3 := hide (B2.out.trans (b3.mono B2.out.size))
  have HO3 := hide (HO2.out.below b3)
  clear b3 HO2
  go_wp2_with fail
  refine (HRE.out _ (HC.out.below B3.out)).mono ?_
  rintro e w4 ⟨rfl, b4⟩
  have B4 := hide (B3.out.trans (b4.mono B3.out.size))
  have HO4 := hide (HO3.out.below b4)
  clear b4 HO3
  go_wp2_with fail
  refine (HS.out co dap _ HO4.out).mono ?_
  rintro e w5 ⟨rfl, b5⟩
  have B5 := hide (B4.out.trans (b5.mono B4.out.size))
  have HO5 := hide (HO4.out.below b5)
  clear b5 HO4
  go_wp2_with fail
  refine (HRS.out _ (HC.out.below B5.out)).mono ?_
  rintro e w6 ⟨rfl, b6⟩
  have B6 := hide (B5.out.trans (b6.mono B5.out.size))
  have HO6 := hide (HO5.out.below b6)
  clear b6 HO5
  go_wp2_with fail
  refine (HM.out co dap _ HO6.out (HC.out.below B6.out)).mono ?_
  rintro e w7 ⟨rfl, nq, rfl⟩
  go_wp2
  go_ret
  exact ⟨rfl, below_drewN B6.out nq⟩

theorem writes_walk (ao : Option Addr) (cap : Nat) (l : List It) (w : World) (hc : ItemsAt w ao l) (hna : ao = none → cap = 0 ∧ l = []) (hok : ∀ x ∈ l, x.ok) (hlen : l.length ≤ 4398046511104) :
    Calls Try.prog 3 #[.slice ao l.length cap] w fun e w' => e = .returned (.bool true) ∧ Below w.heap.size w w' := by
  have hm : l.length ≤ maxLen := by unfold maxLen; omega
  have HE := fun co dap w h => encode_any co dap l w h hok hm
  have HRE := fun w h => rencode_any ao cap l w h hok hm
  have HS := fun co dap w h => shape_any co dap l w h hlen
  have HRS := fun w h => rshape_any ao cap l w h hlen
  have HM := fun co dap w h1 h2 => same_any co ao dap cap l w h1 h2 hm
  cases hk : kindsB l with
  | true =>
    have e : (shapeF l).2 = 0 := by rw [shapeF_eq, if_pos hk]
    rw [e] at HS
    rw [hk] at HRS
    exact writes_yes ao cap l w (encF l).2 ⟨(encF l).1.toArray⟩ ⟨(shapeF l).1.toArray⟩ hc hna hlen HE HRE HS HRS HM
  | false =>
    have e : (shapeF l).2 = 1 := by rw [shapeF_eq, if_neg (by rw [hk]; decide)]
    rw [e] at HS
    rw [hk] at HRS
    exact writes_no ao cap l w (encF l).2 ⟨(encF l).1.toArray⟩ ⟨(shapeF l).1.toArray⟩ hc hna hlen HE HRE HS HRS HM

set_option maxRecDepth 100000 in
theorem writes_lifted (os : Os) (started : os.Started) (H : Type) (enc : TypeId × Value → H) :
    ReturnsInHanded {} Try.checked os 3 .any (Rows.codecWritesSpec.pre6 enc Try.prog Try.f3 Rows.codecWritesRow.domain false) (Rows.codecWritesSpec.post enc Try.prog Try.f3 false true false false) := by
  refine returnsInHanded_of_change_sized (C := Try.checked) own started (by kernel_rfl) Try.func3
    (ChangeSpec.witness6 (enc := enc) (C := Try.checked) false ⟨#[], #[.slice none 0 0], []⟩ 8 (by kernel_rfl) (by kernel_rfl) (by kernel_rfl) (by kernel_rfl)) ?_
  intro W base args ds gs before hval0 hW hcnd hsz0 _
  have hval : ∀ (j : Nat) t v, Try.f3.params[j]? = some t → args[j]? = some v → Value.okWide Try.prog W .any base t v := hval0
  have hsz : (DataW.weightsEach Try.prog (Try.f3.params.toList ++ Rows.codecWritesSpec.plain.varTypes Try.prog) (ds ++ gs)).all (· ≤ reachBytes) = true := hsz0
  have hW' := hW
  obtain ⟨p, q, hA0, hV, rfl, hfz, hnd⟩ := hW
  have hA : DataW.TrodAll enc Try.prog W 0 (fun _ => true) true Try.f3.params.toList args.toList ds p := hA0
  rw [Try.params3] at hA hval hsz
  obtain ⟨v0, vs0, d0, ds0, p0, q0, hargs, rfl, rfl, h0, r0⟩ := trodAll_cons hA
  obtain ⟨rfl, rfl, rfl⟩ := trodAll_nil r0
  obtain rfl : args = #[v0] := by cases args; simp_all
  obtain ⟨rfl, rfl⟩ := trodVars_none hV
  obtain ⟨a0, len0, cap0, rfl⟩ := okWide_slice Try.underlying22 (hval 0 22 v0 rfl rfl)
  have k0 := h0
  have lt0 : ∀ x ∈ p0, x.block < W.heap.size := by obtain ⟨m, hm⟩ := k0; exact DataW.trod_lt m _ _ _ hm
  have n0 := nil_open h0
  obtain ⟨l0, rfl, at0, ok0, dd0⟩ := items_open h0
  have len0 := items_reach hsz (j := 0) rfl rfl dd0
  clear hA0 hval0
  refine (writes_walk a0 cap0 l0 W at0 (fun e => ⟨(n0 e).1, List.eq_nil_of_length_eq_zero (n0 e).2⟩) ok0 len0).mono fun e W' ⟨he, bel⟩ => ?_
  subst he
  exact ⟨_, rfl, _, _, _, [], _, [], hW', trodAll_mk1 (shut_bool Try.underlying4 _), (trodAll_cons_mk (Below.trod laidOut (by kernel_rfl) (of_decide_eq_true (by kernel_rfl)) k0 bel lt0) trodAll_mk0), rfl, bel.frame _, fun h => by cases h⟩

/-- THE STATEMENT. -/
theorem codecWrites_holds : Rows.CodecWritesSaid :=
  OpenClaim.holds_of_wide 3 Try.f3 rfl rfl rfl rfl rfl rfl rfl ⟨rfl, rfl, rfl, rfl, rfl⟩ rfl rfl rfl rfl rfl (by kernel_rfl) Try.func3 (by kernel_rfl)
    (of_decide_eq_true (by kernel_rfl)) (by unfold Func.isWrapper; first | (rw [if_pos (by decide +kernel)]; kernel_rfl) | (rw [if_neg (by decide +kernel)]; exact ⟨rfl, rfl⟩))
    (fun os started H enc _ => writes_lifted os started H enc)

#print axioms codecWrites_holds
end Go.Proofs.Ytnbomaalncjkeaa
