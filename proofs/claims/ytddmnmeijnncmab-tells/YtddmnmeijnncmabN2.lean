/-
  The program's number, pair, small, as they run.
-/
import Derived.Test.YtddmnmeijnncmabMem
import Derived.Deep.RegionHeld3
namespace Go.Proofs.Ytddmnmeijnncmab
open Go.RowKit

theorem number_any (a b : Int) (w : World) :
    Calls Try.prog 12 #[.agg #[.int .i64 a, .int .i64 b]] w fun e w' => e = .returned (.complex .f64 (floatOfInt .f64 a) (floatOfInt .f64 b)) ∧ Below w.heap.size w w' := by
  go_enter Try.func12, Try.ntmps12
  go_wp2
  go_ret
  exact ⟨rfl, (Below.refl _ _).alloc (Nat.le_refl _) _⟩

theorem below_box {w W : World} (h : Below w.heap.size w W) (b : Nat) (hb : w.heap.size ≤ b) (v u : Value) : Below w.heap.size w ((W.setCell ⟨b, 0, none⟩ v).setCell ⟨b, 1, none⟩ u) :=
  (h.setCell (p := ⟨b, 0, none⟩) hb _).setCell (p := ⟨b, 1, none⟩) hb _

theorem pair_any (x y : Int) (hx : x.natAbs < 2 ^ 53) (hy : y.natAbs < 2 ^ 53) (w : World) :
    Calls Try.prog 13 #[.complex .f64 (floatOfInt .f64 x) (floatOfInt .f64 y)] w fun e w' => e = .returned (.agg #[.int .i64 (x % 33554383), .int .i64 (y % 33554383)]) ∧ Below w.heap.size w w' := by
  have HX := hide (modulo_any x hx)
  have HY := hide (modulo_any y hy)
  clear hx hy
  generalize x % 33554383 = m at *
  generalize y % 33554383 = n at *
  generalize floatOfInt .f64 x = fx at *
  generalize floatOfInt .f64 y = fy at *
  go_enter Try.func13, Try.ntmps13
  go_wp2_with fail
  refine (HX.out _).mono ?_
  rintro e w' ⟨rfl, rfl⟩
  go_wp2_with fail
  refine (HY.out _).mono ?_
  rintro e w' ⟨rfl, rfl⟩
  go_wp2
  refine bodyPost_ret (v := .agg #[.int .i64 m, .int .i64 n]) (by simp [results, Try.results13, go_sem]) rfl ⟨rfl, ?_⟩
  exact (Below.refl _ _).alloc (Nat.le_refl _) _

theorem small_any (x y : Int) (hx : x.natAbs < 2 ^ 53) (hy : y.natAbs < 2 ^ 53) (w : World) :
    Calls Try.prog 15 #[.complex .f64 (floatOfInt .f64 x) (floatOfInt .f64 y)] w fun e w' => e = .returned (.complex .f64 (floatOfInt .f64 (x % 33554383)) (floatOfInt .f64 (y % 33554383))) ∧ Below w.heap.size w w' := by
  have HP := hide (pair_any x y hx hy)
  have HN := hide (number_any (x % 33554383) (y % 33554383))
  clear hx hy
  generalize x % 33554383 = m at *
  generalize y % 33554383 = n at *
  generalize floatOfInt .f64 x = fx at *
  generalize floatOfInt .f64 y = fy at *
  go_enter Try.func15, Try.ntmps15
  go_wp2_with fail
  refine (HP.out _).mono ?_
  rintro e w1 ⟨rfl, b1⟩
  have B1 := hide b1
  clear b1
  go_wp2_with fail
  refine (HN.out _).mono ?_
  rintro e w2 ⟨rfl, b2⟩
  have B2 := hide (bthen B1.out b2)
  clear b2
  go_wp2
  go_ret
  exact ⟨rfl, B2.out⟩

/-- What is right. -/
def rightB (a b : Int) : Bool := decide (0 ≤ a ∧ a < 33554383 ∧ 0 ≤ b ∧ b < 33554383)
theorem Right_any (a b : Int) (w : World) :
    Calls Try.prog 10 #[.agg #[.int .i64 a, .int .i64 b]] w fun e w' => e = .returned (.bool (rightB a b)) ∧ Below w.heap.size w w' := by
  have HD : Hid (rightB a b = decide (0 ≤ a ∧ a < 33554383 ∧ 0 ≤ b ∧ b < 33554383)) := rfl
  generalize rightB a b = r at *
  by_cases h1 : 0 ≤ a
  · by_cases h2 : a < 33554383
    · by_cases h3 : 0 ≤ b
      · by_cases h4 : b < 33554383
        all_goals
          go_enter Try.func10, Try.ntmps10
          go_wp2
          go_ret
          refine ⟨?_, (Below.refl _ _).alloc (Nat.le_refl _) _⟩
          rw [HD.out]
          simp <;> omega
      · go_enter Try.func10, Try.ntmps10
        go_wp2
        go_ret
        refine ⟨?_, (Below.refl _ _).alloc (Nat.le_refl _) _⟩
        rw [HD.out]
        simp <;> omega
    · go_enter Try.func10, Try.ntmps10
      go_wp2
      go_ret
      refine ⟨?_, (Below.refl _ _).alloc (Nat.le_refl _) _⟩
      rw [HD.out]
      simp <;> omega
  · go_enter Try.func10, Try.ntmps10
    go_wp2
    go_ret
    refine ⟨?_, (Below.refl _ _).alloc (Nat.le_refl _) _⟩
    rw [HD.out]
    simp <;> omega

end Go.Proofs.Ytddmnmeijnncmab
