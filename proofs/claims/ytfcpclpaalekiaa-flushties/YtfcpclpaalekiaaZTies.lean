/-
  FlushTies: for all rows of texts the law's call returns true and leaves them as they were; no condition.
-/
import Derived.Test.YtfcpclpaalekiaaZFT1
import Derived.Test.YtfcpclpaalekiaaZFK
namespace Go.Proofs.Ytfcpclpaalekiaa
open Go.RowKit
set_option maxHeartbeats 8000000
set_option maxRecDepth 100000
attribute [local go_sem ↓] Go.wp_at_zero Go.wp_at_succ
set_option linter.unusedSimpArgs false
set_option linter.unusedVariables false
theorem ties_walk (ao bo : Option Addr) (ca cb : Nat) (a b : List ByteArray) (w : World) (ha : TextsAt w ao a) (hb : TextsAt w bo b) (hl : a.length ≤ 17592186044416) (hl2 : b.length ≤ 17592186044416) (hcap : a.length ≤ ca) :
    Calls Try.prog 8 #[.slice ao a.length ca, .slice bo b.length cb] w fun e w' => e = .returned (.bool true) ∧ Below w.heap.size w w' := by
  have hle := comF_le a b
  have hlt : ((a.take (comF a b)).length) = comF a b := by rw [List.length_take]; omega
  have P2 : ∀ W, Below w.heap.size w W → Calls Try.prog 15 #[.slice ao (comF a b) ca, .slice bo b.length cb] W fun e w' => e = .returned (.bool true) ∧ Below W.heap.size W w' := fun W bW => by
    have := fprefix ao bo ca cb (a.take (comF a b)) b W ((ha.below bW).take _) (hb.below bW) (by rw [hlt]; omega) hl2
    rw [hlt] at this
    have hp : preF (a.take (comF a b)) b = true := by
      rw [preF_iff, hlt]
      apply List.ext_getElem
      · rw [List.length_take, List.length_take]; omega
      · intro i h1 h2
        rw [List.length_take] at h1
        rw [List.getElem_take, List.getElem_take]
        exact comF_same a b i (by omega) (by omega) (by omega)
    rw [hp] at this
    exact this
  have hs1 := texts_upto (ao := ao) (m := a.length) (n := comF a b) (cap := ca) (by omega)
  have HPF : (preF a b == ((comF a b : Int) == (a.length : Int))) = true := by
    unfold preF
    by_cases q : comF a b = a.length
    · rw [q]; simp
    · have q2 : ¬ (comF a b : Int) = (a.length : Int) := by omega
      simp [q, q2]
  go_enter Try.func8, Try.ntmps8
  refine wp_seq (reg_mono (ft_r0 (by kernel_rfl) _ (v := ⟨_, _, _, _, _, _⟩) ⟨rfl, rfl, rfl, rfl, rfl, rfl, rfl, rfl⟩ ?_))
  intro a0 F0
  try dsimp only at F0
  refine wp_seq (reg_mono (ft_r1 (by kernel_rfl) _ F0 (fexamples w) ?_))
  intro a1 w1 F1 b1
  try dsimp only at F1
  refine wp_seq (reg_mono (ft_r2 (R := fun W => Below w1.heap.size w1 W) (cf := comF a b) (by kernel_rfl) _ F1 rfl rfl (fcommon ao bo ca cb a b w1 (ha.below b1) (hb.below b1) hl hl2) ?_))
  intro a2 w2 F2 b2
  try dsimp only at F2
  have B2 := b1.trans (b2.mono b1.size)
  refine wp_seq (wp_seq (reg_mono (ft_r3 (pf := preF a b) (by kernel_rfl) _ F2 rfl rfl rfl (by rw [comF_comm a b]; exact fcommon bo ao cb ca b a w2 (hb.below B2) (ha.below B2) hl2 hl) (fun W bW => fprefix ao bo ca cb a b W (ha.below (B2.trans (bW.mono B2.size))) (hb.below (B2.trans (bW.mono B2.size))) hl hl2) hle.1 hle.2 HPF ?_)))
  intro a3 w3 F3 g3 b3
  have B3 := B2.trans (b3.mono B2.size)
  refine wp_cond_false g3 (wp_skip ?_)
  show Code.wp _ _ _ _ _
  refine wp_seq (wp_seq (reg_mono (ft_r5 (by kernel_rfl) _ F3 ?_)))
  intro a5 F5
  try dsimp only at F5
  have hcs := comF_same a b
  have hcp := comF_part a b
  generalize comF a b = cf at *
  refine wp_block (wp_loop (fun a' W => ∃ k : Nat, k ≤ cf ∧ Below w.heap.size w W ∧ Fft a' { v0 := .slice ao a.length ca, v1 := .slice bo b.length cb, v4 := .bool false, v5 := .bool true, v6 := .int .i64 (cf : Int), v7 := .int .i64 (k : Int) }) (fun a' _ => cf - (intOf (a'.tmps.getD 7 undef)).toNat) ⟨0, Nat.zero_le _, B3, F5⟩ ?_)
  clear F0 F1 F2 F3 F5 g3
  rintro a' W ⟨k, hk, B, F⟩
  have hmk : (intOf (a'.tmps.getD 7 undef)).toNat = k := by rw [F.s7]; simp [intOf]
  by_cases hlt2 : (k : Int) < (cf : Int)
  · refine wp_seq (wp_seq (reg_mono (ft_r6y (by kernel_rfl) _ F rfl rfl hlt2 ?_)))
    intro a6 F6 g6
    refine wp_cond_true g6 (wp_skip ?_)
    show Code.wp _ _ _ _ _
    have hkc : k < cf := by omega
    obtain ⟨g, of, hao, _, hc1⟩ := (ha.below B) k (by omega)
    obtain ⟨g2, of2, hbo, _, hc2⟩ := (hb.below B) k (by omega)
    rw [← hcs k hkc (by omega) (by omega)] at hc2
    refine wp_seq (wp_block ?_)
    refine wp_seq (reg_mono (ft_r8 (by kernel_rfl) _ F6 (by rw [hao]) (by rw [hbo]) rfl (by omega) (by omega) hc1 hc2 ?_))
    intro a8 m8 F8 g8
    refine wp_cond_false g8 (wp_skip ?_)
    show Code.wp _ _ _ _ _
    refine reg_all (ft_r7 (by kernel_rfl) _ F8 rfl (by omega) ?_)
    intro a7 F7
    refine ⟨⟨k + 1, by omega, below_drewN B _, by rw [hao, hbo] at *; exact F7⟩, ?_⟩
    rw [hmk, F7.s7]
    simp [intOf]
    omega
  · refine wp_seq (wp_seq (reg_mono (ft_r6n (by kernel_rfl) _ F rfl rfl hlt2 ?_)))
    intro a6 F6 g6
    refine wp_cond_false g6 (wp_exit ?_)
    show Code.wp _ _ _ _ _
    have P3 : ∀ W', Below W.heap.size W W' → _ := fun W' b' => P2 W' (B.trans (b'.mono B.size))
    have fin : ∀ {a10 : Act} {W' : World} {V : Vft}, Fft a10 V → V.v4 = .bool true → Below W.heap.size W W' → bodyPost Try.prog Try.f8 (fun e w' => e = .returned (.bool true) ∧ Below w.heap.size w w') .ret a10 W' := fun F10 h4 b' => ft_ret (x := true) F10 h4 ⟨rfl, B.trans (b'.mono B.size)⟩
    by_cases q1 : cf = a.length
    · subst q1
      refine wp_seq (reg_mono (ft_r10a (by kernel_rfl) _ F6 rfl rfl rfl rfl hs1 P3 ?_))
      intro a10 w10 F10 b10
      refine wp_ret ?_
      try dsimp only [Exit.then, Exit.inBlock]
      exact fin F10 rfl b10
    have e1 : ((cf : Int) == (a.length : Int)) = false := by rw [beq_eq_false_iff_ne]; omega
    by_cases q2 : cf = b.length
    · subst q2
      refine wp_seq (reg_mono (ft_r10b (by kernel_rfl) _ F6 rfl rfl rfl rfl e1 hs1 P3 ?_))
      intro a10 w10 F10 b10
      refine wp_ret ?_
      try dsimp only [Exit.then, Exit.inBlock]
      exact fin F10 rfl b10
    have e2 : ((cf : Int) == (b.length : Int)) = false := by rw [beq_eq_false_iff_ne]; omega
    obtain ⟨g, of, hao, hg, hc1⟩ := (ha.below B) cf (by omega)
    obtain ⟨g2, of2, hbo, hg2, hc2⟩ := (hb.below B) cf (by omega)
    subst hao hbo
    refine wp_seq (reg_mono (ft_r10c (by kernel_rfl) _ F6 rfl rfl rfl rfl e1 e2 ⟨by omega, by omega, by omega⟩ hg hg2 hc1 hc2 (toList_ne (hcp (by omega) (by omega))) hs1 P3 ?_))
    intro a10 w10 F10 b10
    refine wp_ret ?_
    try dsimp only [Exit.then, Exit.inBlock]
    exact fin F10 rfl b10
end Go.Proofs.Ytfcpclpaalekiaa
namespace Go.Proofs.Ytfcpclpaalekiaa
open Go.ChangeShapes Go.WideShapes Go.ChangeAt Go.RowKit
set_option maxRecDepth 100000
open Go.ChangeMaps (open_string shut_string)
theorem flushTies_lifted (os : Os) (started : os.Started) (H : Type) (enc : TypeId × Value → H) :
    ReturnsInHanded {} Try.checked os 8 .any (Rows.flushTiesSpec.pre6 enc Try.prog Try.f8 Rows.flushTiesRow.domain false) (Rows.flushTiesSpec.post enc Try.prog Try.f8 false true false false) := by
  refine returnsInHanded_of_change_sized (C := Try.checked) own started (by kernel_rfl) Try.func8
    (ChangeSpec.witness6 (enc := enc) (C := Try.checked) false ⟨#[], #[.slice none 0 0, .slice none 0 0], []⟩ 8 (by kernel_rfl) (by kernel_rfl) (by kernel_rfl) (by kernel_rfl)) ?_
  intro W base args ds gs before hval0 hW hcnd hsz0 _
  have hval : ∀ (j : Nat) t v, Try.f8.params[j]? = some t → args[j]? = some v → Value.okWide Try.prog W .any base t v := hval0
  have hsz : (DataW.weightsEach Try.prog (Try.f8.params.toList ++ Rows.flushTiesSpec.plain.varTypes Try.prog) (ds ++ gs)).all (· ≤ reachBytes) = true := hsz0
  have hW' := hW
  obtain ⟨p, q, hA0, hV, rfl, hfz, hnd⟩ := hW
  have hA : DataW.TrodAll enc Try.prog W 0 (fun _ => true) true Try.f8.params.toList args.toList ds p := hA0
  rw [Try.params8] at hA hval hsz
  obtain ⟨v0, vs0, d0, ds0, p0, q0, hargs, rfl, rfl, h0, r0⟩ := trodAll_cons hA
  obtain ⟨v1, vs1, d1, ds1, p1, q1, rfl, rfl, rfl, h1, r1⟩ := trodAll_cons r0
  obtain ⟨rfl, rfl, rfl⟩ := trodAll_nil r1
  obtain rfl : args = #[v0, v1] := by cases args; simp_all
  obtain ⟨rfl, rfl⟩ := trodVars_none hV
  have k0 := h0
  have lt0 : ∀ x ∈ p0, x.block < W.heap.size := by obtain ⟨m, hm⟩ := k0; exact DataW.trod_lt m _ _ _ hm
  obtain ⟨a0, cap0, us0, rfl, cm0, in0, ln0, cp0, nz0⟩ := texts_param (hval 0 23 v0 rfl rfl) h0 hsz (j := 0) rfl rfl
  have k1 := h1
  have lt1 : ∀ x ∈ p1, x.block < W.heap.size := by obtain ⟨m, hm⟩ := k1; exact DataW.trod_lt m _ _ _ hm
  obtain ⟨a1, cap1, us1, rfl, cm1, in1, ln1, cp1, nz1⟩ := texts_param (hval 1 23 v1 rfl rfl) h1 hsz (j := 1) rfl rfl
  clear hA0 hval0
  refine (ties_walk a0 a1 cap0 cap1 us0 us1 W cm0 cm1 (by omega) (by omega) cp0).mono fun e W' ⟨he, bel⟩ => ?_
  subst he
  exact ⟨_, rfl, _, _, _, [], _, [], hW', trodAll_mk1 (shut_bool Try.underlying4 _), (trodAll_cons_mk (Below.trod laidOut (by kernel_rfl) (of_decide_eq_true (by kernel_rfl)) k0 bel lt0) (trodAll_cons_mk (Below.trod laidOut (by kernel_rfl) (of_decide_eq_true (by kernel_rfl)) k1 bel lt1) trodAll_mk0)), rfl, bel.frame _, fun h => by cases h⟩
theorem flushTies_holds : Rows.FlushTiesSaid :=
  OpenClaim.holds_of_wide 8 Try.f8 rfl rfl rfl rfl rfl rfl rfl ⟨rfl, rfl, rfl, rfl, rfl⟩ rfl rfl rfl rfl rfl (by kernel_rfl) Try.func8 (by kernel_rfl)
    (of_decide_eq_true (by kernel_rfl)) (by unfold Func.isWrapper; first | (rw [if_pos (by decide +kernel)]; kernel_rfl) | (rw [if_neg (by decide +kernel)]; exact ⟨rfl, rfl⟩))
    (fun os started H enc _ => flushTies_lifted os started H enc)
#print axioms flushTies_holds
end Go.Proofs.Ytfcpclpaalekiaa
