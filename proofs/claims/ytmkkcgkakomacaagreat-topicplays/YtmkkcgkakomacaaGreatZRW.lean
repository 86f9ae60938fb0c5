/-
  carillonref14's Word (mkxa.py, out of command's RA)
-/
import Derived.Test.YtmkkcgkakomacaaGreatZC6
namespace Go.Proofs.YtmkkcgkakomacaaGreat
open Go.RowKit
set_option maxHeartbeats 4000000
set_option maxRecDepth 100000
attribute [local go_sem ↓] Go.wp_at_zero Go.wp_at_succ
set_option linter.unusedSimpArgs false
set_option linter.unusedVariables false
theorem rword (s : ByteArray) (h63 : s.size ≤ 9223372036854775807) (w : World) :
    Calls Tryz.prog 28 #[.string s] w fun e w' => e = .returned (.bool (wordB s)) ∧ w' = w := by
  have HG := hide (fun h1 h2 hh => word_good (s := s) h1 h2 hh)
  have HB := hide (fun k (hk : k < s.size) hb => word_bad (s := s) hk hb)
  have H0 := hide (@word_short s)
  have H20 := hide (@word_long s)
  generalize wordB s = r at *
  go_enter Tryz.func28, Tryz.ntmps28
  go_wp2
  go_loopw [3] (fun iv wv => ∃ k : Nat, k ≤ s.size ∧ iv = .int .i64 k ∧ wv = w ∧ Hid (((s.data.toList.take k).all fun b => letB b.toNat) = true)) (fun iv _ => s.size - (intOf iv).toNat)
  case atStart => exact ⟨0, Nat.zero_le _, rfl, rfl, rfl⟩
  case round =>
    obtain ⟨k, hk, rfl, rfl, HJ⟩ := hrel
    by_cases hlt : k < s.size
    · have hlt2 : (k : Int) < (s.size : Int) := by omega
      have HX : Hid (letB s[k].toNat = true → ((s.data.toList.take (k + 1)).all fun b => letB b.toNat) = true) := fun hb => by
        rw [take_snocC s k hlt, List.all_append, HJ.out]
        simp [hb]
      have HY := hide (HB.out k hlt)
      clear HB HJ HG H0 H20
      by_cases g1 : (97 : Int) ≤ (s[k].toNat : Int)
      · by_cases g2 : (s[k].toNat : Int) ≤ 122
        · have HZ := hide (HX.out (by unfold letB; simp; omega))
          clear HX HY
          go_wp2
          exact ⟨⟨k + 1, by omega, by go_num, trivial, HZ⟩, by simp [intOf]; omega⟩
        · have HR := hide (HY.out (by unfold letB; simp; omega))
          have g3 : (48 : Int) ≤ (s[k].toNat : Int) := by omega
          have g4 : ¬ (s[k].toNat : Int) ≤ 57 := by omega
          clear HX HY
          go_wp2
          go_ret
          exact ⟨by rw [HR.out]; rfl, rfl⟩
      · by_cases g3 : (48 : Int) ≤ (s[k].toNat : Int)
        · by_cases g4 : (s[k].toNat : Int) ≤ 57
          · have HZ := hide (HX.out (by unfold letB; simp; omega))
            clear HX HY
            go_wp2
            exact ⟨⟨k + 1, by omega, by go_num, trivial, HZ⟩, by simp [intOf]; omega⟩
          · have HR := hide (HY.out (by unfold letB; simp; omega))
            clear HX HY
            go_wp2
            go_ret
            exact ⟨by rw [HR.out]; rfl, rfl⟩
        · have HR := hide (HY.out (by unfold letB; simp; omega))
          clear HX HY
          go_wp2
          go_ret
          exact ⟨by rw [HR.out]; rfl, rfl⟩
    · have hlt2 : ¬ (k : Int) < (s.size : Int) := by omega
      have e : s.data.toList.take k = s.data.toList := List.take_of_length_le (by simp; omega)
      have HJ2 := HJ.out
      rw [e] at HJ2
      by_cases f1 : (s.size : Int) ≥ 1
      · by_cases f2 : (s.size : Int) ≤ 20
        · have HR := hide (HG.out (by omega) (by omega) HJ2)
          clear e HJ HB HG H0 H20 HJ2
          go_wp2
          go_ret
          exact ⟨by rw [HR.out]; rfl, rfl⟩
        · have HR := hide (H20.out (by omega))
          clear e HJ HB HG H0 H20 HJ2
          go_wp2
          go_ret
          exact ⟨by rw [HR.out]; rfl, rfl⟩
      · have HR := hide (H0.out (by omega))
        clear e HJ HB HG H0 H20 HJ2
        go_wp2
        go_ret
        exact ⟨by rw [HR.out]; rfl, rfl⟩
end Go.Proofs.YtmkkcgkakomacaaGreat
