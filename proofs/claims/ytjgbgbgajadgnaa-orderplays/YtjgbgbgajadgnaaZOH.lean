/-
  Add, Propose, as they run.
-/
import Derived.Test.YtjgbgbgajadgnaaZOG
namespace Go.Proofs.Ytjgbgbgajadgnaa
open Go.RowKit Go.Shelf

attribute [local go_sem ↓] Go.wp_at_zero Go.wp_at_succ
set_option linter.unusedSimpArgs false
set_option linter.unusedVariables false
theorem OStep.below2 {w w1 w2 : World} {L L2 : OL} (h : Below w.heap.size w w1) (h2 : OStep w1 w2 L L2) : OStep w w2 L L2 := (OStep.below h).trans h2
set_option maxHeartbeats 4000000 in
theorem padd {w : World} {L : OL} {o : OS} (h : OAt w L o) (hk : o.Ok) (i : Int) (s : ByteArray) (hs : s.size ≤ 140737488351232) (hlen : o.log.length < 8796093022208) :
    Calls Try.prog 15 #[L.at, .int .i64 i, .string s] w fun e w' => e = .returned (.bool (o.add i s).2) ∧ ∃ L', OAt w' L' (o.add i s).1 ∧ OStep w w' L L' := by
  have HF := hide (pfirst h hk)
  have HB : Hid (∀ w1, Below w.heap.size w w1 → OAt w1 L o ∧ w1.cell? ⟨L.b, 2, none⟩ = some (.slice L.lo o.log.length L.lc)) := fun w1 b1 => ⟨h.below b1, (h.below b1).cells.c2⟩
  have HI := hide (fun w1 b1 => pfits (HB.out w1 b1).1 s (by omega))
  have HK := hide (fun w1 b1 => pkeep (HB.out w1 b1).1 hk s hs hlen)
  unfold OL.at at *
  by_cases hc : o.first = false ∧ i = (o.log.length : Int) ∧ o.fits s = true
  · have e1 : o.add i s = (o.keep s, true) := by unfold OS.add; rw [if_pos hc]
    rw [e1]
    obtain ⟨hf, rfl, hfit⟩ := hc
    rw [hf] at HF
    rw [hfit] at HI
    clear h hk e1 hf hfit
    go_enter Try.func15, Try.ntmps15
    go_wp2
    refine wp_scope_none 0 rfl ?_
    go_wp2_with (first | (go_at_call 10; refine HF.out.mono ?_; rintro e w1 ⟨rfl, b1⟩; obtain ⟨_, c2⟩ := HB.out w1 b1; have B1 := hide b1; clear b1) | (go_at_call 34; refine (HI.out _ B1.out).mono ?_; rintro e w2 ⟨rfl, rfl⟩) | (go_at_call 33; refine (HK.out _ B1.out).mono ?_; rintro e w3 ⟨rfl, L', h3, s3⟩))
    dsimp only [Exit.then, Exit.jump]
    go_ret
    exact ⟨rfl, L', h3, OStep.below2 B1.out s3⟩
  · have e1 : o.add i s = (o, false) := by unfold OS.add; rw [if_neg hc]
    rw [e1]
    have HS : Hid (∀ w1, Below w.heap.size w w1 → ∃ L', OAt w1 L' o ∧ OStep w w1 L L') := fun w1 b1 => ⟨L, h.below b1, OStep.below b1⟩
    go_enter Try.func15, Try.ntmps15
    go_wp2
    refine wp_scope_goto 0 (fun a' w' => a'.tmps.size = 27 ∧ a'.defers = [] ∧ Below w.heap.size w w') rfl ?_ fun a' w' hJ => ad_refused (by kernel_rfl) a' w' hJ.1 hJ.2.1 ⟨rfl, HS.out w' hJ.2.2⟩
    cases hf : o.first with
    | true =>
      rw [hf] at HF
      clear h hk hf hc HS
      go_wp2_with (go_at_call 10; refine HF.out.mono ?_; rintro e w1 ⟨rfl, b1⟩)
      exact wp_goto ⟨rfl, rfl, rfl, b1⟩
    | false =>
      rw [hf] at HF
      by_cases hi : i = (o.log.length : Int)
      · have hfit : o.fits s = false := by
          cases hq : o.fits s with
          | false => rfl
          | true => exact absurd ⟨hf, hi, hq⟩ hc
        subst hi
        rw [hfit] at HI
        clear h hk hf hc HS hfit
        go_wp2_with (first | (go_at_call 10; refine HF.out.mono ?_; rintro e w1 ⟨rfl, b1⟩; obtain ⟨_, c2⟩ := HB.out w1 b1; have B1 := hide b1; clear b1) | (go_at_call 34; refine (HI.out _ B1.out).mono ?_; rintro e w2 ⟨rfl, rfl⟩))
        exact wp_goto ⟨rfl, rfl, rfl, B1.out⟩
      · clear h hk hf hc HS
        go_wp2_with (first | (go_at_call 10; refine HF.out.mono ?_; rintro e w1 ⟨rfl, b1⟩; obtain ⟨_, c2⟩ := HB.out w1 b1; have B1 := hide b1; clear b1))
        exact wp_goto ⟨rfl, rfl, rfl, B1.out⟩
set_option maxHeartbeats 4000000 in
theorem ppropose {w : World} {L : OL} {o : OS} (h : OAt w L o) (hk : o.Ok) (s : ByteArray) (hs : s.size ≤ 140737488351232) (hlen : o.log.length < 8796093022208) :
    Calls Try.prog 13 #[L.at, .string s] w fun e w' => e = .returned (.tuple #[.int .i64 (o.propose s).2.1, .int .i64 (o.propose s).2.2]) ∧ ∃ L', OAt w' L' (o.propose s).1 ∧ OStep w w' L L' := by
  have HF := hide (pfirst h hk)
  have HB : Hid (∀ w1, Below w.heap.size w w1 → OAt w1 L o) := fun w1 b1 => h.below b1
  have HI := hide (fun w1 b1 => pfits (HB.out w1 b1) s (by omega))
  have HK := hide (fun w1 b1 => pkeep (HB.out w1 b1) hk s hs hlen)
  have HM : Hid (∀ w1 L1, OAt w1 L1 (o.keep s) → L1.b = L.b → Calls Try.prog 35 #[.pointer (some ⟨L.b, 0, none⟩)] w1 fun e w' => e = .returned (.tuple #[]) ∧ OAt w' L1 (o.keep s).make ∧ OStep w1 w' L1 L1) := fun w1 L1 h1 hb => by
    have := pmake h1 (hk.keep s hs)
    unfold OL.at at this
    rw [hb] at this
    exact this
  unfold OL.at at *
  cases hf : o.first with
  | false =>
    have e1 : o.propose s = (o, 0, 11) := by unfold OS.propose; rw [hf]; rfl
    rw [e1]
    rw [hf] at HF
    clear h hk e1 hf
    go_enter Try.func13, Try.ntmps13
    go_wp2_with (go_at_call 10; refine HF.out.mono ?_; rintro e w1 ⟨rfl, b1⟩)
    go_ret2
    exact ⟨rfl, L, HB.out _ b1, OStep.below b1⟩
  | true =>
    rw [hf] at HF
    cases hfit : o.fits s with
    | false =>
      have e1 : o.propose s = (o, 0, 8) := by unfold OS.propose; rw [hf, hfit]; rfl
      rw [e1]
      rw [hfit] at HI
      clear h hk e1 hf hfit
      go_enter Try.func13, Try.ntmps13
      go_wp2_with (first | (go_at_call 10; refine HF.out.mono ?_; rintro e w1 ⟨rfl, b1⟩; have B1 := hide b1; clear b1) | (go_at_call 34; refine (HI.out _ B1.out).mono ?_; rintro e w2 ⟨rfl, rfl⟩))
      go_ret2
      exact ⟨rfl, L, HB.out _ B1.out, OStep.below B1.out⟩
    | true =>
      have e1 : o.propose s = ((o.keep s).make, (o.log.length : Int), 0) := by unfold OS.propose; rw [hf, hfit]; rfl
      rw [e1]
      rw [hfit] at HI
      have HC : Hid (∀ w1 L1, OAt w1 L1 (o.keep s).make → L1.b = L.b → w1.cell? ⟨L.b, 2, none⟩ = some (.slice L1.lo (o.log.length + 1) L1.lc)) := fun w1 L1 h1 hb => by
        have := h1.cells.c2
        rw [hb] at this
        rw [this]
        simp [OS.make, OS.keep]
      have hcast : ((o.log.length + 1 : Nat) : Int) - 1 = (o.log.length : Int) := by omega
      clear h hk e1 hf hfit
      go_enter Try.func13, Try.ntmps13
      go_wp2_with (first | (go_at_call 10; refine HF.out.mono ?_; rintro e w1 ⟨rfl, b1⟩; have B1 := hide b1; clear b1) | (go_at_call 34; refine (HI.out _ B1.out).mono ?_; rintro e w2 ⟨rfl, rfl⟩) | (go_at_call 33; refine (HK.out _ B1.out).mono ?_; rintro e w3 ⟨rfl, L', h3, s3⟩; have A3 := hide h3; have S3 := hide s3; clear h3 s3) | (go_at_call 35; refine (HM.out _ _ A3.out S3.out.b).mono ?_; rintro e w4 ⟨rfl, h4, s4⟩; have c2 := HC.out _ _ h4 S3.out.b; have A4 := hide h4; have S4 := hide s4; clear h4 s4))
      go_ret2
      exact ⟨by simp, L', A4.out, (OStep.below2 B1.out S3.out).trans S4.out⟩
end Go.Proofs.Ytjgbgbgajadgnaa
