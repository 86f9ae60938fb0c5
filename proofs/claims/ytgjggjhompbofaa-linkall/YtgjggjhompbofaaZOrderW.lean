/-
  LinkOrder as it runs.
-/
import Derived.Test.YtgjggjhompbofaaZTB
import Derived.Test.YtgjggjhompbofaaZTK
import Derived.LoopTactic
namespace Go.Proofs.Ytgjggjhompbofaa
open Go.RowKit

/-- Behind i turns. -/
def Run (w0 : World) (pb i : Nat) (w : World) : Prop := ∃ G r p, PA w0.heap.size w G r p ∧ G.pb = pb ∧ @Inv Ep.a p ∧ @Lz i p ∧ Below w0.heap.size w0 w
theorem Run.step {w0 w : World} {pb i : Nat} (h : Run w0 pb i w) (hi : i ≤ 10000) (t : TN) (ht : t.ok) : Calls Try.prog 26 #[.pointer (some ⟨pb, 0, none⟩), t.v] w fun e w' => e = .returned (.bool true) ∧ Run w0 pb (i + 1) w' := by
  obtain ⟨G, r, p, h1, rfl, h2, h3, h4⟩ := h
  refine (@turn_any Ep.a _ _ _ _ _ _ t ht h1 h2 h3 hi).mono ?_
  rintro e w' ⟨rfl, ⟨G', r', k1, k2⟩, k3, k4, k5⟩
  exact ⟨rfl, G', r', _, k1, k2, k3, k4, h4.trans k5⟩
theorem run_begin (w : World) : Calls Try.prog 25 #[] w fun e w' => ∃ pb, e = .returned (.pointer (some ⟨pb, 0, none⟩)) ∧ Run w pb 0 w' := by
  refine (begin_any w).mono ?_
  rintro e w' ⟨G, r, rfl, h1, h2⟩
  exact ⟨_, rfl, G, r, _, h1, rfl, @inv_begin Ep.a, @lz_begin Ep.a, h2⟩
set_option maxHeartbeats 8000000 in
set_option maxRecDepth 100000 in
theorem order_walk (ao : Option Addr) (cp : Nat) (l : List TN) (w : World) (hcm : Turns w ao l) :
    Calls Try.prog 4 #[.slice ao l.length cp] w fun e w' => e = .returned (.bool true) ∧ Below w.heap.size w w' := by
  have HE := hide (examples_any w)
  have HCM := hide hcm
  have hlen := hcm.len
  clear hcm
  go_enter Try.func4, Try.ntmps4
  go_wp2_with fail
  refine HE.out.mono ?_
  rintro e w0 ⟨rfl, be⟩
  have BE := hide be
  clear be HE
  go_wp2_with fail
  refine (run_begin w0).mono ?_
  rintro e w1 ⟨pb, rfl, r1⟩
  have R1 := hide r1
  clear r1
  go_wp2
  go_loopw [5] (fun iv wv => ∃ i : Nat, iv = .int .i64 i ∧ i ≤ 300 ∧ Hid (Run w0 pb i wv)) (fun iv _ => 300 - (intOf iv).toNat)
  case atStart => exact ⟨0, rfl, Nat.zero_le _, R1⟩
  case round =>
    clear R1
    obtain ⟨i, rfl, hi, R⟩ := hrel
    by_cases hlt : i < l.length ∧ i < 300
    · obtain ⟨hl1, hl2⟩ := hlt
      have hb := R.out
      obtain ⟨_, _, _, _, _, _, _, hb⟩ := hb
      have hdd := HCM.out.all.below (BE.out.trans (hb.mono BE.out.size)) i hl1
      have hok := HCM.out.ok l[i] (List.getElem_mem hl1)
      clear hb
      obtain ⟨kb, off, rfl, hkb, d0, d1, d2, d3⟩ := hdd
      have HT := hide (R.out.step (by omega) l[i] hok)
      have hi0 : (0 : Int) ≤ (i : Int) := by omega
      have hi1 : (i : Int) < (l.length : Int) := by omega
      have hi2 : (i : Int) < 300 := by omega
      clear hok
      simp only [TN.v, TN.c] at HT
      generalize l[i].kind = tk at *
      generalize l[i].who = tw at *
      generalize l[i].i = ti at *
      generalize l[i].s = ts at *
      go_wp2_with fail
      refine HT.out.mono ?_
      rintro e w3 ⟨rfl, r3⟩
      have R3 := hide r3
      clear r3 HT d0 d1 d2 d3
      go_wp2
      go_roundw
      case rel => exact ⟨i + 1, by go_num, by omega, R3⟩
      case measure => simp [intOf]; omega
    · obtain ⟨_, _, _, _, _, _, _, hb⟩ := R.out
      have B3 := hide (BE.out.trans (hb.mono BE.out.size))
      clear hb
      by_cases h1 : i < l.length
      · have hi1 : (i : Int) < (l.length : Int) := by omega
        have hi2 : ¬ (i : Int) < 300 := by omega
        clear h1 hlt
        go_wp2
        go_ret
        exact ⟨rfl, B3.out⟩
      · have hi1 : ¬ (i : Int) < (l.length : Int) := by omega
        clear h1 hlt
        go_wp2
        go_ret
        exact ⟨rfl, B3.out⟩
end Go.Proofs.Ytgjggjhompbofaa
