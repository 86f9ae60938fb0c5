/-
  CodecCut: for every list of items, every number and every text the law's call returns true and leaves them as they were; no condition.
-/
import Derived.Test.YtnbomaalncjkeaaW15
import Derived.Test.YtnbomaalncjkeaaPure4
namespace Go.Proofs.Ytnbomaalncjkeaa
open Go.ChangeShapes Go.WideShapes Go.ChangeAt Go.RowKit
open Go.ChangeMaps (open_string shut_string)

theorem bytes_append (a b : ByteArray) : (a ++ b).data.toList = a.data.toList ++ b.data.toList := by
  simp [ByteArray.data_append]

set_option maxHeartbeats 1000000 in
theorem cut_neg (ao : Option Addr) (cap : Nat) (l : List It) (d : Nat) (G r : Int) (T a more : ByteArray) (w : World)
    (HC : Hid (ItemsAt w ao l))
    (HE : Hid (∀ w, ItemsAt w ao l → Calls Try.prog 10 #[.slice ao l.length cap] w fun e w' => e = .returned (.tuple #[.string T, .int .i64 0]) ∧ Below w.heap.size w w'))
    (HS : Hid (∀ w, ItemsAt w ao l → Calls Try.prog 12 #[.slice ao l.length cap] w fun e w' => e = .returned (.tuple #[.string a, .int .i64 G]) ∧ Below w.heap.size w w'))
    (HDa : Hid (∀ w, Calls Try.prog 16 #[.string a, .string (T.extract 0 (d % T.size))] w fun e w' => ∃ v, e = .returned (.tuple #[v, .int .i64 2]) ∧ Below w.heap.size w w'))
    (HDb : Hid (∀ w, Calls Try.prog 16 #[.string a, .string (T ++ more)] w fun e w' => ∃ v, e = .returned (.tuple #[v, .int .i64 r]) ∧ Below w.heap.size w w'))
    (hpos : 0 < T.size) (hT : T.size ≤ 100008000) (hd : d % T.size < T.size) (_hd63 : d ≤ 9223372036854775807) (_hmore : more.size ≤ 140737488355328)
    (hr : (r = 0 ∧ more.toList.isEmpty = true) ∨ (r = 10 ∧ more.toList.isEmpty = false)) :
    Calls Try.prog 7 #[.slice ao l.length cap, .int .i64 (-(d : Int) - 1), .string more] w fun e w' => e = .returned (.bool true) ∧ Below w.heap.size w w' := by
  have hS1 : ((T.size : Int) == 0) = false := by rw [beq_eq_false_iff_ne]; omega
  rcases hr with ⟨rfl, hme⟩ | ⟨rfl, hme⟩
  · go_enter Try.func7, Try.ntmps7
    go_wp2_with fail
    refine (examples_any _).mono ?_
    rintro e w1 ⟨rfl, b1⟩
    have B1 := hide b1
    clear b1
    go_wp2_with fail
    refine (HE.out _ (HC.out.below B1.out)).mono ?_
    rintro e w2 ⟨rfl, b2⟩
    have B2 := hide (B1.out.trans (b2.mono B1.out.size))
    clear b2
    go_wp2_with fail
    refine (HS.out _ (HC.out.below B2.out)).mono ?_
    rintro e w3 ⟨rfl, b3⟩
    have B3 := hide (B2.out.trans (b3.mono B2.out.size))
    clear b3
    go_wp2_with fail
    refine (HDa.out _).mono ?_
    rintro e w4 ⟨v4, rfl, b4⟩
    have B4 := hide (B3.out.trans (b4.mono B3.out.size))
    clear b4
    go_wp2_with fail
    refine (HDb.out _).mono ?_
    rintro e w5 ⟨v5, rfl, b5⟩
    have B5 := hide (B4.out.trans (b5.mono B4.out.size))
    clear b5
    go_wp2
    go_ret
    exact ⟨rfl, B5.out⟩
  · go_enter Try.func7, Try.ntmps7
    go_wp2_with fail
    refine (examples_any _).mono ?_
    rintro e w1 ⟨rfl, b1⟩
    have B1 := hide b1
    clear b1
    go_wp2_with fail
    refine (HE.out _ (HC.out.below B1.out)).mono ?_
    rintro e w2 ⟨rfl, b2⟩
    have B2 := hide (B1.out.trans (b2.mono B1.out.size))
    clear b2
    go_wp2_with fail
    refine (HS.out _ (HC.out.below B2.out)).mono ?_
    rintro e w3 ⟨rfl, b3⟩
    have B3 := hide (B2.out.trans (b3.mono B2.out.size))
    clear b3
    go_wp2_with fail
    refine (HDa.out _).mono ?_
    rintro e w4 ⟨v4, rfl, b4⟩
    have B4 := hide (B3.out.trans (b4.mono B3.out.size))
    clear b4
    go_wp2_with fail
    refine (HDb.out _).mono ?_
    rintro e w5 ⟨v5, rfl, b5⟩
    have B5 := hide (B4.out.trans (b5.mono B4.out.size))
    clear b5
    go_wp2
    go_ret
    exact ⟨rfl, B5.out⟩

set_option maxHeartbeats 1000000 in
theorem cut_pos (ao : Option Addr) (cap : Nat) (l : List It) (d : Nat) (G r : Int) (T a more : ByteArray) (w : World)
    (HC : Hid (ItemsAt w ao l))
    (HE : Hid (∀ w, ItemsAt w ao l → Calls Try.prog 10 #[.slice ao l.length cap] w fun e w' => e = .returned (.tuple #[.string T, .int .i64 0]) ∧ Below w.heap.size w w'))
    (HS : Hid (∀ w, ItemsAt w ao l → Calls Try.prog 12 #[.slice ao l.length cap] w fun e w' => e = .returned (.tuple #[.string a, .int .i64 G]) ∧ Below w.heap.size w w'))
    (HDa : Hid (∀ w, Calls Try.prog 16 #[.string a, .string (T.extract 0 (d % T.size))] w fun e w' => ∃ v, e = .returned (.tuple #[v, .int .i64 2]) ∧ Below w.heap.size w w'))
    (HDb : Hid (∀ w, Calls Try.prog 16 #[.string a, .string (T ++ more)] w fun e w' => ∃ v, e = .returned (.tuple #[v, .int .i64 r]) ∧ Below w.heap.size w w'))
    (hpos : 0 < T.size) (hT : T.size ≤ 100008000) (hd : d % T.size < T.size) (_hd63 : d ≤ 9223372036854775807) (_hmore : more.size ≤ 140737488355328)
    (hr : (r = 0 ∧ more.toList.isEmpty = true) ∨ (r = 10 ∧ more.toList.isEmpty = false)) :
    Calls Try.prog 7 #[.slice ao l.length cap, .int .i64 ((d : Int)), .string more] w fun e w' => e = .returned (.bool true) ∧ Below w.heap.size w w' := by
  have hS1 : ((T.size : Int) == 0) = false := by rw [beq_eq_false_iff_ne]; omega
  rcases hr with ⟨rfl, hme⟩ | ⟨rfl, hme⟩
  · go_enter Try.func7, Try.ntmps7
    go_wp2_with fail
    refine (examples_any _).mono ?_
    rintro e w1 ⟨rfl, b1⟩
    have B1 := hide b1
    clear b1
    go_wp2_with fail
    refine (HE.out _ (HC.out.below B1.out)).mono ?_
    rintro e w2 ⟨rfl, b2⟩
    have B2 := hide (B1.out.trans (b2.mono B1.out.size))
    clear b2
    go_wp2_with fail
    refine (HS.out _ (HC.out.below B2.out)).mono ?_
    rintro e w3 ⟨rfl, b3⟩
    have B3 := hide (B2.out.trans (b3.mono B2.out.size))
    clear b3
    go_wp2_with fail
    refine (HDa.out _).mono ?_
    rintro e w4 ⟨v4, rfl, b4⟩
    have B4 := hide (B3.out.trans (b4.mono B3.out.size))
    clear b4
    go_wp2_with fail
    refine (HDb.out _).mono ?_
    rintro e w5 ⟨v5, rfl, b5⟩
    have B5 := hide (B4.out.trans (b5.mono B4.out.size))
    clear b5
    go_wp2
    go_ret
    exact ⟨rfl, B5.out⟩
  · go_enter Try.func7, Try.ntmps7
    go_wp2_with fail
    refine (examples_any _).mono ?_
    rintro e w1 ⟨rfl, b1⟩
    have B1 := hide b1
    clear b1
    go_wp2_with fail
    refine (HE.out _ (HC.out.below B1.out)).mono ?_
    rintro e w2 ⟨rfl, b2⟩
    have B2 := hide (B1.out.trans (b2.mono B1.out.size))
    clear b2
    go_wp2_with fail
    refine (HS.out _ (HC.out.below B2.out)).mono ?_
    rintro e w3 ⟨rfl, b3⟩
    have B3 := hide (B2.out.trans (b3.mono B2.out.size))
    clear b3
    go_wp2_with fail
    refine (HDa.out _).mono ?_
    rintro e w4 ⟨v4, rfl, b4⟩
    have B4 := hide (B3.out.trans (b4.mono B3.out.size))
    clear b4
    go_wp2_with fail
    refine (HDb.out _).mono ?_
    rintro e w5 ⟨v5, rfl, b5⟩
    have B5 := hide (B4.out.trans (b5.mono B4.out.size))
    clear b5
    go_wp2
    go_ret
    exact ⟨rfl, B5.out⟩

set_option maxHeartbeats 1000000 in
theorem cut_none (ao : Option Addr) (cap : Nat) (l : List It) (c F G : Int) (T a more : ByteArray) (w : World) (HC : Hid (ItemsAt w ao l))
    (HE : Hid (∀ w, ItemsAt w ao l → Calls Try.prog 10 #[.slice ao l.length cap] w fun e w' => e = .returned (.tuple #[.string T, .int .i64 F]) ∧ Below w.heap.size w w'))
    (HS : Hid (∀ w, ItemsAt w ao l → Calls Try.prog 12 #[.slice ao l.length cap] w fun e w' => e = .returned (.tuple #[.string a, .int .i64 G]) ∧ Below w.heap.size w w'))
    (hr : F ≠ 0 ∨ (F = 0 ∧ T.size = 0)) :
    Calls Try.prog 7 #[.slice ao l.length cap, .int .i64 c, .string more] w fun e w' => e = .returned (.bool true) ∧ Below w.heap.size w w' := by
  rcases hr with hF | ⟨rfl, hT⟩
  · have hF2 : (F != 0) = true := by rw [bne_iff_ne]; exact hF
    clear hF
    go_enter Try.func7, Try.ntmps7
    go_wp2_with fail
    refine (examples_any _).mono ?_
    rintro e w1 ⟨rfl, b1⟩
    have B1 := hide b1
    clear b1
    go_wp2_with fail
    refine (HE.out _ (HC.out.below B1.out)).mono ?_
    rintro e w2 ⟨rfl, b2⟩
    have B2 := hide (B1.out.trans (b2.mono B1.out.size))
    clear b2
    go_wp2_with fail
    refine (HS.out _ (HC.out.below B2.out)).mono ?_
    rintro e w3 ⟨rfl, b3⟩
    have B3 := hide (B2.out.trans (b3.mono B2.out.size))
    clear b3
    go_wp2
    go_ret
    exact ⟨rfl, B3.out⟩
  · have hS1 : ((T.size : Int) == 0) = true := by simp [hT]
    clear hT
    go_enter Try.func7, Try.ntmps7
    go_wp2_with fail
    refine (examples_any _).mono ?_
    rintro e w1 ⟨rfl, b1⟩
    have B1 := hide b1
    clear b1
    go_wp2_with fail
    refine (HE.out _ (HC.out.below B1.out)).mono ?_
    rintro e w2 ⟨rfl, b2⟩
    have B2 := hide (B1.out.trans (b2.mono B1.out.size))
    clear b2
    go_wp2_with fail
    refine (HS.out _ (HC.out.below B2.out)).mono ?_
    rintro e w3 ⟨rfl, b3⟩
    have B3 := hide (B2.out.trans (b3.mono B2.out.size))
    clear b3
    go_wp2
    go_ret
    exact ⟨rfl, B3.out⟩

theorem cut_walk (ao : Option Addr) (cap : Nat) (l : List It) (c : Int) (more : ByteArray) (w : World) (hc : ItemsAt w ao l) (hok : ∀ x ∈ l, x.ok) (hlen : l.length ≤ 4398046511104)
    (c0 : -9223372036854775808 ≤ c) (c1 : c ≤ 9223372036854775807) (hmore : more.size ≤ 140737488355328) :
    Calls Try.prog 7 #[.slice ao l.length cap, .int .i64 c, .string more] w fun e w' => e = .returned (.bool true) ∧ Below w.heap.size w w' := by
  have hm : l.length ≤ maxLen := by unfold maxLen; omega
  have hn : ∀ x ∈ l, 0 ≤ x.n := fun x hx => (hok x hx).2.2.1
  have HE := fun w h => encode_any ao cap l w h hok hm
  have HS := fun w h => shape_any ao cap l w h hlen
  have HP := fun h => cut_pure l h hn
  have HQ := fun h => more_pure l h hn more.data.toList
  have hE1 := encF_len l
  have hZ1 := shapeF_len l
  generalize encF l = E at *
  obtain ⟨S, F⟩ := E
  generalize shapeF l = Z at *
  obtain ⟨A, G⟩ := Z
  obtain ⟨T, rfl⟩ : ∃ T : ByteArray, S = T.data.toList := ⟨⟨S.toArray⟩, by simp⟩
  obtain ⟨a, rfl⟩ : ∃ a : ByteArray, A = a.data.toList := ⟨⟨A.toArray⟩, by simp⟩
  simp only [mk_back, size_list] at HE HS hE1 hZ1 HP HQ
  by_cases hF : F = 0
  · subst hF
    by_cases hT : T.size = 0
    · exact cut_none ao cap l c 0 G T a more w hc HE HS (Or.inr ⟨rfl, hT⟩)
    · have hA : a.size ≤ maxLen := Nat.le_trans hZ1 hm
      have hDa : ∀ d : Nat, Hid (∀ w, Calls Try.prog 16 #[.string a, .string (T.extract 0 (d % T.size))] w fun e w' => ∃ v, e = .returned (.tuple #[v, .int .i64 2]) ∧ Below w.heap.size w w') := by
        intro d w
        have hd : d % T.size < T.size := Nat.mod_lt _ (by omega)
        have e1 : (T.extract 0 (d % T.size)).data.toList = T.data.toList.take (d % T.size) := by rw [Lib.extract_data]; simp
        refine (decode_any a (T.extract 0 (d % T.size)) w hA (by simp; unfold maxLen; omega) _ rfl).mono ?_
        rintro e w' ⟨v, rfl, _, b⟩
        refine ⟨v, ret2 rfl ?_, b⟩
        rw [e1, HP rfl _ hd]
      have hDb : Hid (∀ w, Calls Try.prog 16 #[.string a, .string (T ++ more)] w fun e w' => ∃ v, e = .returned (.tuple #[v, .int .i64 (if more.data.toList = [] then 0 else 10)]) ∧ Below w.heap.size w w') := by
        intro w
        refine (decode_any a (T ++ more) w hA (by simp; unfold maxLen; omega) _ rfl).mono ?_
        rintro e w' ⟨v, rfl, _, b⟩
        refine ⟨v, ret2 rfl ?_, b⟩
        rw [bytes_append, HQ rfl]
      have hr : ((if more.data.toList = [] then (0 : Int) else 10) = 0 ∧ more.toList.isEmpty = true) ∨ ((if more.data.toList = [] then (0 : Int) else 10) = 10 ∧ more.toList.isEmpty = false) := by
        rw [Lib.toList_data]
        cases more.data.toList with
        | nil => exact Or.inl ⟨rfl, rfl⟩
        | cons x t => exact Or.inr ⟨rfl, rfl⟩
      generalize (if more.data.toList = [] then (0 : Int) else 10) = r at hDb hr
      by_cases hneg : c < 0
      · obtain ⟨d, rfl⟩ : ∃ d : Nat, c = -(d : Int) - 1 := ⟨(-(c + 1)).toNat, by omega⟩
        exact cut_neg ao cap l d G r T a more w hc HE HS (hDa d) hDb (by omega) hE1 (Nat.mod_lt _ (by omega)) (by omega) hmore hr
      · obtain ⟨d, rfl⟩ : ∃ d : Nat, c = (d : Int) := ⟨c.toNat, by omega⟩
        exact cut_pos ao cap l d G r T a more w hc HE HS (hDa d) hDb (by omega) hE1 (Nat.mod_lt _ (by omega)) (by omega) hmore hr
  · exact cut_none ao cap l c F G T a more w hc HE HS (Or.inl hF)

set_option maxRecDepth 100000 in
theorem cut_lifted (os : Os) (started : os.Started) (H : Type) (enc : TypeId × Value → H) :
    ReturnsInHanded {} Try.checked os 7 .any (Rows.codecCutSpec.pre6 enc Try.prog Try.f7 Rows.codecCutRow.domain false) (Rows.codecCutSpec.post enc Try.prog Try.f7 false true false false) := by
  refine returnsInHanded_of_change_sized (C := Try.checked) own started (by kernel_rfl) Try.func7
    (ChangeSpec.witness6 (enc := enc) (C := Try.checked) false ⟨#[], #[.slice none 0 0, .int .i64 0, .string ByteArray.empty], []⟩ 8 (by kernel_rfl) (by kernel_rfl) (by kernel_rfl) (by kernel_rfl)) ?_
  intro W base args ds gs before hval0 hW hcnd hsz0 _
  have hval : ∀ (j : Nat) t v, Try.f7.params[j]? = some t → args[j]? = some v → Value.okWide Try.prog W .any base t v := hval0
  have hsz : (DataW.weightsEach Try.prog (Try.f7.params.toList ++ Rows.codecCutSpec.plain.varTypes Try.prog) (ds ++ gs)).all (· ≤ reachBytes) = true := hsz0
  have hW' := hW
  obtain ⟨p, q, hA0, hV, rfl, hfz, hnd⟩ := hW
  have hA : DataW.TrodAll enc Try.prog W 0 (fun _ => true) true Try.f7.params.toList args.toList ds p := hA0
  rw [Try.params7] at hA hval hsz
  obtain ⟨v0, vs0, d0, ds0, p0, q0, hargs, rfl, rfl, h0, r0⟩ := trodAll_cons hA
  obtain ⟨v1, vs1, d1, ds1, p1, q1, rfl, rfl, rfl, h1, r1⟩ := trodAll_cons r0
  obtain ⟨v2, vs2, d2, ds2, p2, q2, rfl, rfl, rfl, h2, r2⟩ := trodAll_cons r1
  obtain ⟨rfl, rfl, rfl⟩ := trodAll_nil r2
  obtain rfl : args = #[v0, v1, v2] := by cases args; simp_all
  obtain ⟨rfl, rfl⟩ := trodVars_none hV
  obtain ⟨a0, len0, cap0, rfl⟩ := okWide_slice Try.underlying22 (hval 0 22 v0 rfl rfl)
  have k0 := h0
  have lt0 : ∀ x ∈ p0, x.block < W.heap.size := by obtain ⟨m, hm⟩ := k0; exact DataW.trod_lt m _ _ _ hm
  obtain ⟨l0, rfl, at0, ok0, dd0⟩ := items_open h0
  have len0 := items_reach hsz (j := 0) rfl rfl dd0
  obtain ⟨a1, rfl, rfl, rfl, w1⟩ := open_int Try.underlying3 (hval 1 3 v1 rfl rfl) h1
  obtain ⟨a2, rfl, rfl, rfl, w2⟩ := open_string Try.underlying9 (hval 2 9 v2 rfl rfl) h2
  have s2 := sized_string hsz (j := 2) rfl rfl
  have b1 := bounds_i64 w1
  have hm2 : a2.size ≤ 140737488355328 := by
    simp only [reachBytes] at s2
    rw [size_list] at s2
    omega
  clear hA0 hval0
  refine (cut_walk a0 cap0 l0 a1 a2 W at0 ok0 len0 (by omega) (by omega) hm2).mono fun e W' ⟨he, bel⟩ => ?_
  subst he
  exact ⟨_, rfl, _, _, _, [], _, [], hW', trodAll_mk1 (shut_bool Try.underlying4 _), (trodAll_cons_mk (Below.trod laidOut (by kernel_rfl) (of_decide_eq_true (by kernel_rfl)) k0 bel lt0) (trodAll_cons_mk (shut_int Try.underlying3 w1) (trodAll_cons_mk (shut_string Try.underlying9 w2) trodAll_mk0))), rfl, bel.frame _, fun h => by cases h⟩

/-- THE STATEMENT. -/
theorem codecCut_holds : Rows.CodecCutSaid :=
  OpenClaim.holds_of_wide 7 Try.f7 rfl rfl rfl rfl rfl rfl rfl ⟨rfl, rfl, rfl, rfl, rfl⟩ rfl rfl rfl rfl rfl (by kernel_rfl) Try.func7 (by kernel_rfl)
    (of_decide_eq_true (by kernel_rfl)) (by unfold Func.isWrapper; first | (rw [if_pos (by decide +kernel)]; kernel_rfl) | (rw [if_neg (by decide +kernel)]; exact ⟨rfl, rfl⟩))
    (fun os started H enc _ => cut_lifted os started H enc)

#print axioms codecCut_holds
end Go.Proofs.Ytnbomaalncjkeaa
