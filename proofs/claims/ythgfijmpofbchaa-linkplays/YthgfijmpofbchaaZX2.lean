/-
  carillonref09's Right, as it runs.
-/
import Derived.Test.YthgfijmpofbchaaZD0
import Derived.Test.YthgfijmpofbchaaRows
import Derived.WalkSmall
import Derived.KernelRfl
import Derived.Lib.Strings
namespace Go.Proofs.Ythgfijmpofbchaa
open Go.RowKit

set_option maxHeartbeats 4000000 in
theorem xright (f : FR) (hf : f.ok) (w : World) : Calls Try.prog 34 #[f.v] w fun e w' => e = .returned (.bool (decide f.rightP)) ∧ Below w.heap.size w w' := by
  obtain ⟨ep, pe, sq, ak, bo⟩ := f
  have hz : bo.size ≤ 9223372036854775807 := hf
  simp only [FR.v]
  by_cases h1 : 1 ≤ ep
  · by_cases h2 : ep ≤ 9007199254740991
    · by_cases h3 : 0 ≤ pe
      · by_cases h4 : pe ≤ 9007199254740991
        · by_cases h5 : 0 ≤ sq
          · by_cases h6 : sq ≤ 9007199254740991
            · by_cases h7 : 0 ≤ ak
              · by_cases h8 : ak ≤ 9007199254740991
                · by_cases h9 : (bo.size : Int) ≤ 100000
                  · by_cases h10 : sq = 0
                    · by_cases h11 : bo = ⟨#[]⟩
                      · subst h10 h11
                        have hk : decide (FR.rightP ⟨ep, pe, 0, ak, ⟨#[]⟩⟩) = true := decide_eq_true ⟨h1, h2, h3, h4, h5, h6, h7, h8, by show (⟨#[]⟩ : ByteArray).size ≤ 100000; omega, .inr rfl⟩
                        rw [hk]
                        clear hk hf
                        go_enter Try.func34, Try.ntmps34
                        go_wp2
                        go_ret
                        exact ⟨rfl, (Below.refl _ _).alloc (Nat.le_refl _) _⟩
                      · have g11 : bo.toList.isEmpty = false := full_of h11
                        subst h10
                        have hk : decide (FR.rightP ⟨ep, pe, 0, ak, bo⟩) = false := decide_eq_false fun e => by rcases e.2.2.2.2.2.2.2.2.2 with e | e; exact e rfl; exact h11 e
                        rw [hk]
                        clear hk hf
                        go_enter Try.func34, Try.ntmps34
                        go_wp2
                        go_ret
                        exact ⟨rfl, (Below.refl _ _).alloc (Nat.le_refl _) _⟩
                    · have g10 : (sq == 0) = false := by rw [beq_eq_false_iff_ne]; exact h10
                      have hk : decide (FR.rightP ⟨ep, pe, sq, ak, bo⟩) = true := decide_eq_true ⟨h1, h2, h3, h4, h5, h6, h7, h8, by show bo.size ≤ 100000; omega, .inl h10⟩
                      rw [hk]
                      clear hk hf
                      go_enter Try.func34, Try.ntmps34
                      go_wp2
                      go_ret
                      exact ⟨rfl, (Below.refl _ _).alloc (Nat.le_refl _) _⟩
                  · skip
                    have hk : decide (FR.rightP ⟨ep, pe, sq, ak, bo⟩) = false := decide_eq_false fun e => h9 (by have := e.2.2.2.2.2.2.2.2.1; simp only at this; omega)
                    rw [hk]
                    clear hk hf
                    go_enter Try.func34, Try.ntmps34
                    go_wp2
                    go_ret
                    exact ⟨rfl, (Below.refl _ _).alloc (Nat.le_refl _) _⟩
                · skip
                  have hk : decide (FR.rightP ⟨ep, pe, sq, ak, bo⟩) = false := decide_eq_false fun e => h8 e.2.2.2.2.2.2.2.1
                  rw [hk]
                  clear hk hf
                  go_enter Try.func34, Try.ntmps34
                  go_wp2
                  go_ret
                  exact ⟨rfl, (Below.refl _ _).alloc (Nat.le_refl _) _⟩
              · skip
                have hk : decide (FR.rightP ⟨ep, pe, sq, ak, bo⟩) = false := decide_eq_false fun e => h7 e.2.2.2.2.2.2.1
                rw [hk]
                clear hk hf
                go_enter Try.func34, Try.ntmps34
                go_wp2
                go_ret
                exact ⟨rfl, (Below.refl _ _).alloc (Nat.le_refl _) _⟩
            · skip
              have hk : decide (FR.rightP ⟨ep, pe, sq, ak, bo⟩) = false := decide_eq_false fun e => h6 e.2.2.2.2.2.1
              rw [hk]
              clear hk hf
              go_enter Try.func34, Try.ntmps34
              go_wp2
              go_ret
              exact ⟨rfl, (Below.refl _ _).alloc (Nat.le_refl _) _⟩
          · skip
            have hk : decide (FR.rightP ⟨ep, pe, sq, ak, bo⟩) = false := decide_eq_false fun e => h5 e.2.2.2.2.1
            rw [hk]
            clear hk hf
            go_enter Try.func34, Try.ntmps34
            go_wp2
            go_ret
            exact ⟨rfl, (Below.refl _ _).alloc (Nat.le_refl _) _⟩
        · skip
          have hk : decide (FR.rightP ⟨ep, pe, sq, ak, bo⟩) = false := decide_eq_false fun e => h4 e.2.2.2.1
          rw [hk]
          clear hk hf
          go_enter Try.func34, Try.ntmps34
          go_wp2
          go_ret
          exact ⟨rfl, (Below.refl _ _).alloc (Nat.le_refl _) _⟩
      · skip
        have hk : decide (FR.rightP ⟨ep, pe, sq, ak, bo⟩) = false := decide_eq_false fun e => h3 e.2.2.1
        rw [hk]
        clear hk hf
        go_enter Try.func34, Try.ntmps34
        go_wp2
        go_ret
        exact ⟨rfl, (Below.refl _ _).alloc (Nat.le_refl _) _⟩
    · skip
      have hk : decide (FR.rightP ⟨ep, pe, sq, ak, bo⟩) = false := decide_eq_false fun e => h2 e.2.1
      rw [hk]
      clear hk hf
      go_enter Try.func34, Try.ntmps34
      go_wp2
      go_ret
      exact ⟨rfl, (Below.refl _ _).alloc (Nat.le_refl _) _⟩
  · skip
    have hk : decide (FR.rightP ⟨ep, pe, sq, ak, bo⟩) = false := decide_eq_false fun e => h1 e.1
    rw [hk]
    clear hk hf
    go_enter Try.func34, Try.ntmps34
    go_wp2
    go_ret
    exact ⟨rfl, (Below.refl _ _).alloc (Nat.le_refl _) _⟩
end Go.Proofs.Ythgfijmpofbchaa
