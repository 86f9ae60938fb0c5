/-
  CodecReads: for all shapes and texts that together hold at most 1048576 letters and bytes the law's call returns true and leaves them as they were.
-/
import Derived.Test.YtnbomaalncjkeaaR10
import Derived.JoinedCond
import Derived.Laws.OwnMore
namespace Go.Proofs.Ytnbomaalncjkeaa
open Go.ChangeShapes Go.WideShapes Go.ChangeAt Go.RowKit
open Go.ChangeMaps (open_string shut_string)

/-- The inner loop's world: nothing old has turned; the row is the call's own. -/
structure WS (w w' : World) (v : Value) (n : Nat) : Prop where
  below : Below w.heap.size w w'
  own : ∃ xs, w'.ownsRow w.heap.size 39 3 v n xs

theorem WS.opens {w w' : World} {co : Option Addr} {n cap : Nat} (h : WS w w' (.slice co n cap) n) (i : Nat) (hi : i < n) :
    ∃ g a b c, co = some ⟨g, 0, none⟩ ∧ g < w'.heap.size ∧ w'.cell? ⟨g, i * 3, none⟩ = some a ∧ w'.cell? ⟨g, i * 3 + 1, none⟩ = some b ∧ w'.cell? ⟨g, i * 3 + 2, none⟩ = some c ∧
      w'.frozen? ⟨g, i * 3, none⟩ = false ∧ w'.frozen? ⟨g, i * 3 + 1, none⟩ = false ∧ w'.frozen? ⟨g, i * 3 + 2, none⟩ = false ∧
      ∀ x y z, WS w (((w'.setCell ⟨g, i * 3, none⟩ x).setCell ⟨g, i * 3 + 1, none⟩ y).setCell ⟨g, i * 3 + 2, none⟩ z) (.slice co n cap) n := by
  obtain ⟨xs, ho⟩ := h.own
  have hl := ho.1
  have hco : ∃ g, co = some ⟨g, 0, none⟩ ∧ w.heap.size ≤ g := by
    rcases ho.2 with ⟨_, h0⟩ | ⟨g, cap', cur, hv, hg, _⟩
    · omega
    · injection hv with h1
      exact ⟨g, h1, hg⟩
  obtain ⟨g, rfl, hgw⟩ := hco
  have hlt := (ho.lt g rfl).2
  have c0 := ho.cellAt (i * 3) (by omega)
  have c1 := ho.cellAt (i * 3 + 1) (by omega)
  have c2 := ho.cellAt (i * 3 + 2) (by omega)
  rw [List.getElem?_eq_getElem (by omega)] at c0 c1 c2
  refine ⟨g, _, _, _, rfl, hlt, c0, c1, c2, ho.frozenAt _, ho.frozenAt _, ho.frozenAt _, fun x y z => ?_⟩
  have o1 := (ho.stored (i * 3) x).1
  have o2 := (o1.stored (i * 3 + 1) y).1
  have o3 := (o2.stored (i * 3 + 2) z).1
  exact ⟨((h.below.setCell (p := ⟨g, i * 3, none⟩) hgw _).setCell (p := ⟨g, i * 3 + 1, none⟩) hgw _).setCell (p := ⟨g, i * 3 + 2, none⟩) hgw _, _, o3⟩

set_option maxHeartbeats 1000000 in
set_option maxRecDepth 100000 in
theorem reads_core (shape s : ByteArray) (l : List It) (er : Int) (w : World) (hlen : l.length ≤ 1000)
    (HD : Hid (∀ w, Calls Try.prog 16 #[.string shape, .string s] w fun e w' => ∃ v, e = .returned (.tuple #[v, .int .i64 er]) ∧ w'.ownsRow w.heap.size 39 3 v l.length (itemCells l) ∧ Below w.heap.size w w'))
    (HF : Hid (∀ w, Calls Try.prog 15 #[.string shape, .string s] w fun e w' => ∃ v, e = .returned (.tuple #[v, .int .i64 er]) ∧ w'.ownsRow w.heap.size 39 3 v l.length (itemCells l) ∧ Below w.heap.size w w'))
    (HM : Hid (∀ co dap ao cap w, ItemsAt w co l → ItemsAt w ao l → Calls Try.prog 14 #[.slice co l.length dap, .slice ao l.length cap] w fun e w' => e = .returned (.bool true) ∧ ∃ n, w' = w.drewN n)) :
    Calls Try.prog 4 #[.string shape, .string s] w fun e w' => e = .returned (.bool true) ∧ Below w.heap.size w w' := by
  go_enter Try.func4, Try.ntmps4
  go_wp2_with fail
  refine (examples_any _).mono ?_
  rintro e w1 ⟨rfl, b1⟩
  have B1 := hide b1
  clear b1
  go_wp2_with fail
  refine (HF.out _).mono ?_
  rintro e w2 ⟨v2, rfl, hown2, b2⟩
  have B2 := hide (B1.out.trans (b2.mono B1.out.size))
  obtain ⟨wo, wcap, rfl, hwo⟩ := items_of_own hown2
  have HW2 := hide hwo
  clear b2 hown2 hwo
  go_wp2
  go_loopw [8] (fun i wv => ∃ t : Nat, t ≤ 2 ∧ i = .int .i64 t ∧ ItemsAt wv wo l ∧ Below w.heap.size w wv) (fun i _ => 2 - (intOf i).toNat)
  case atStart => exact ⟨0, by omega, rfl, HW2.out, B2.out⟩
  case round =>
    obtain ⟨t, ht, rfl, hit, hbe⟩ := hrel
    have HIT := hide hit
    have HBE := hide hbe
    clear hit hbe
    by_cases ht2 : t < 2
    · go_wp2_with fail
      refine (HD.out _).mono ?_
      rintro e w3 ⟨v3, rfl, hown3, b3⟩
      have B3 := hide (HBE.out.trans (b3.mono HBE.out.size))
      have HI3 := hide (HIT.out.below b3)
      obtain ⟨co, ccap, rfl, hco⟩ := items_of_own hown3
      have HC3 := hide hco
      have HWS : Hid (WS wr w3 (.slice co l.length ccap) l.length) := ⟨b3, _, hown3⟩
      clear b3 hown3 hco
      go_wp2_with fail
      refine (HM.out co ccap wo wcap _ HC3.out HI3.out).mono ?_
      rintro e w4 ⟨rfl, nq, rfl⟩
      have HWS4 : Hid (WS wr (w3.drewN nq) (.slice co l.length ccap) l.length) := by
        obtain ⟨xs, hxs⟩ := HWS.out.own
        exact ⟨below_drewN HWS.out.below nq, xs, own_below hxs (below_drewN (Below.refl _ _) nq) (Nat.le_refl _)⟩
      clear HC3 HI3 HWS B3
      generalize w3.drewN nq = w5 at HWS4 ⊢
      go_wp2
      go_loopw [12] (fun i wv => ∃ q : Nat, q ≤ l.length ∧ i = .int .i64 q ∧ WS wr wv (.slice co l.length ccap) l.length) (fun i _ => l.length - (intOf i).toNat)
      case atStart => exact ⟨0, by omega, rfl, HWS4.out⟩
      case round =>
        obtain ⟨q, hq, rfl, hws⟩ := hrel
        have HQ := hide hws
        by_cases hql : q < l.length
        · obtain ⟨g, a, b, c, rfl, hg, c0, c1, c2, f0, f1, f2, hnew⟩ := hws.opens q hql
          have HNEW := hide hnew
          clear hws hnew
          go_wp2
          exact ⟨⟨q + 1, by omega, by go_num, HNEW.out _ _ _⟩, by simp [intOf]; omega⟩
        · clear hws
          go_wp2
          exact ⟨⟨t + 1, by omega, by go_num, HIT.out.below HQ.out.below, HBE.out.trans (HQ.out.below.mono HBE.out.size)⟩, by simp [intOf]; omega⟩
    · go_wp2
      go_ret
      exact ⟨rfl, HBE.out⟩

theorem decF_len (shape s : List UInt8) : (decF shape s).1.length ≤ 1000 := by
  by_cases h : (decF shape s).2 = 0
  · exact (again_pure shape s h).2.2
  · rw [decF_err shape s h]; simp

theorem reads_walk (shape s : ByteArray) (w : World) (h1 : shape.size ≤ 1048576) (h2 : s.size ≤ 1048576) :
    Calls Try.prog 4 #[.string shape, .string s] w fun e w' => e = .returned (.bool true) ∧ Below w.heap.size w w' := by
  have hl := decF_len shape.data.toList s.data.toList
  refine reads_core shape s _ _ w hl (fun w => decode_any shape s w (by unfold maxLen; omega) (by unfold maxLen; omega) _ rfl) (fun w => rdecode_any shape s w h1 h2 _ rfl) ?_
  exact fun co dap ao cap w h1 h2 => same_any co ao dap cap _ w h1 h2 (by unfold maxLen; omega)

theorem small_two {H : Type} {a b : List UInt8} (hk : Rows.uptoSmall H [.lit (.string a), .lit (.string b)] = true) : a.length ≤ 1048576 ∧ b.length ≤ 1048576 := by
  have h : Rows.uptoBulkAll [DataW.lit (H := H) (.string a), .lit (.string b)] ≤ 1048576 := of_decide_eq_true hk
  simp only [Rows.uptoBulkAll, Rows.uptoBulk] at h
  omega

set_option maxRecDepth 100000 in
theorem reads_lifted (os : Os) (started : os.Started) (H : Type) (enc : TypeId × Value → H) (F : Stop.Interp) :
    ReturnsInHanded {} Try.checked os 4 .any ((Rows.OpenSpec.upto Rows.codecReadsSpec).pre6 enc Try.prog Try.f4 Rows.codecReadsUptoRow.domain false) (((Rows.OpenSpec.upto Rows.codecReadsSpec).at F).post enc Try.prog Try.f4 false true false false) := by
  refine returnsInHanded_of_cond (C := Try.checked) (s := Rows.OpenSpec.upto Rows.codecReadsSpec) (k := Rows.uptoSmall) rfl own started (by kernel_rfl) Try.func4
    (OpenSpec.witness (enc := enc) (C := Try.checked) (s := Rows.OpenSpec.upto Rows.codecReadsSpec) (k := Rows.uptoSmall) rfl false ⟨#[], #[.string .empty, .string .empty], []⟩ 8 (by kernel_rfl) (by kernel_rfl) (by kernel_rfl)
      (x := ([.lit (.string []), .lit (.string [])], [], [])) (by kernel_rfl) rfl (by kernel_rfl)) ?_
  intro W base args ds gs before hval0 hW _ hk _
  have hval : ∀ (j : Nat) t v, Try.f4.params[j]? = some t → args[j]? = some v → Value.okWide Try.prog W .any base t v := hval0
  have hW' := hW
  obtain ⟨p, q, hA0, hV, rfl, hfz, hnd⟩ := hW
  have hA : DataW.TrodAll enc Try.prog W 0 (fun _ => true) true Try.f4.params.toList args.toList ds p := hA0
  rw [Try.params4] at hA hval
  obtain ⟨v0, vs0, d0, ds0, p0, q0, hargs, rfl, rfl, h0, r0⟩ := trodAll_cons hA
  obtain ⟨v1, vs1, d1, ds1, p1, q1, rfl, rfl, rfl, h1, r1⟩ := trodAll_cons r0
  obtain ⟨rfl, rfl, rfl⟩ := trodAll_nil r1
  obtain rfl : args = #[v0, v1] := by cases args; simp_all
  obtain ⟨rfl, rfl⟩ := trodVars_none hV
  obtain ⟨a0, rfl, rfl, rfl, w0⟩ := open_string Try.underlying9 (hval 0 9 v0 rfl rfl) h0
  obtain ⟨a1, rfl, rfl, rfl, w1⟩ := open_string Try.underlying9 (hval 1 9 v1 rfl rfl) h1
  have hsm := small_two (a := a0.data.toList) (b := a1.data.toList) (by simpa using hk)
  simp only [size_list] at hsm
  clear hA0 hval0
  refine (reads_walk a0 a1 W hsm.1 hsm.2).mono fun e W' ⟨he, bel⟩ => ?_
  subst he
  exact ⟨_, rfl, _, _, _, [], _, [], hW', trodAll_mk1 (shut_bool Try.underlying4 _), (trodAll_cons_mk (shut_string Try.underlying9 w0) (trodAll_cons_mk (shut_string Try.underlying9 w1) trodAll_mk0)), rfl, bel.frame _, fun h => by cases h⟩

/-- THE STATEMENT, in its second form. -/
theorem codecReads_upto : Rows.CodecReadsUptoSaid :=
  OpenClaim.holds_of_cond 4 Try.f4 rfl rfl rfl rfl rfl rfl rfl ⟨rfl, rfl, rfl, rfl, rfl⟩ rfl rfl rfl rfl rfl (by kernel_rfl) Try.func4 (by kernel_rfl)
    (of_decide_eq_true (by kernel_rfl)) (by unfold Func.isWrapper; first | (rw [if_pos (by decide +kernel)]; kernel_rfl) | (rw [if_neg (by decide +kernel)]; exact ⟨rfl, rfl⟩))
    (fun os started H enc _ F => reads_lifted os started H enc F)

#print axioms codecReads_upto
end Go.Proofs.Ytnbomaalncjkeaa
