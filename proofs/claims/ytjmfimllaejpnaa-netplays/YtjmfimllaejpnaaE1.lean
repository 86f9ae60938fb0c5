/-
  The chapter's examples as they run.
-/
import Derived.Test.YtjmfimllaejpnaaO1
namespace Go.Proofs.Ytjmfimllaejpnaa
open Go.RowKit Go.Maps

def tA : ByteArray := ⟨#[97]⟩
def tB : ByteArray := ⟨#[98]⟩
def q0 : Qs := fun _ _ => []
def q1 : Qs := moreQ q0 0 1 tA
def q2 : Qs := moreQ q1 0 1 tB
def q3 : Qs := lessQ q2 0 1 1
def q4 : Qs := lessQ q3 0 1 0
theorem ex1 : decide (roomQ 3 q0 0 1) = true := by decide
theorem ex2 : decide (roomQ 3 q1 0 1) = true := by decide
theorem ex3 : decide (takesQ 3 0 q2 0 1 1) = true := by decide
theorem ex4 : decide (takesQ 3 1 q3 0 1 0) = false := by decide
theorem ex5 : decide (joined 3 1 1 2) = true := by decide
theorem ex6 : decide (joined 3 1 0 1) = false := by decide
theorem ex7 : decide (takesQ 3 0 q3 0 1 0) = true := by decide
theorem ex8 : decide (roomQ 3 q4 0 0) = false := by decide
theorem ex9 : decide (roomQ 3 q4 0 3) = false := by decide
theorem m3 : msgQ q2 0 1 1 = tB := rfl
theorem m7 : msgQ q3 0 1 0 = tA := rfl
theorem in64_small {x : Int} (h0 : 0 ≤ x) (h1 : x ≤ 1000) : In64 x := ⟨by omega, by omega⟩
section
variable {B : Nat} {w : World} {b n : Nat} {s : Int} {q : Qs}
theorem Net.sendT (h : Net B w b n s q) (hB : B ≤ w.heap.size) {x y : Int} (hx : In64 x) (hy : In64 y) (t : ByteArray) (ht : t.size ≤ 281474976710656) (hr : decide (roomQ n q x y) = true) : Calls Try.prog 9 #[.pointer (some ⟨b, 0, none⟩), .int .i64 x, .int .i64 y, .string t] w fun e w' => e = .returned (.bool true) ∧ Net B w' b n s (moreQ q x y t) ∧ Below B w w' := by
  have h1 := h.send hB hx hy t ht
  rw [hr, if_pos (of_decide_eq_true hr)] at h1
  exact h1
theorem Net.sendF (h : Net B w b n s q) (hB : B ≤ w.heap.size) {x y : Int} (hx : In64 x) (hy : In64 y) (t : ByteArray) (ht : t.size ≤ 281474976710656) (hr : decide (roomQ n q x y) = false) : Calls Try.prog 9 #[.pointer (some ⟨b, 0, none⟩), .int .i64 x, .int .i64 y, .string t] w fun e w' => e = .returned (.bool false) ∧ Net B w' b n s q ∧ Below B w w' := by
  have h1 := h.send hB hx hy t ht
  rw [hr, if_neg (of_decide_eq_false hr)] at h1
  exact h1
theorem Net.takeT (h : Net B w b n s q) (hB : B ≤ w.heap.size) {x y : Int} (hx : In64 x) (hy : In64 y) (i : Int) (m : ByteArray) (hr : decide (takesQ n s q x y i) = true) (hm : msgQ q x y i = m) : Calls Try.prog 11 #[.pointer (some ⟨b, 0, none⟩), .int .i64 x, .int .i64 y, .int .i64 i] w fun e w' => e = .returned (.tuple #[.string m, .bool true]) ∧ Net B w' b n s (lessQ q x y i) ∧ Below B w w' := by
  have h1 := h.take hB hx hy i
  rw [hr, if_pos (of_decide_eq_true hr), if_pos (of_decide_eq_true hr), hm] at h1
  exact h1
theorem Net.takeF (h : Net B w b n s q) (hB : B ≤ w.heap.size) {x y : Int} (hx : In64 x) (hy : In64 y) (i : Int) (hr : decide (takesQ n s q x y i) = false) : Calls Try.prog 11 #[.pointer (some ⟨b, 0, none⟩), .int .i64 x, .int .i64 y, .int .i64 i] w fun e w' => e = .returned (.tuple #[.string ⟨#[]⟩, .bool false]) ∧ Net B w' b n s q ∧ Below B w w' := by
  have h1 := h.take hB hx hy i
  rw [hr, if_neg (of_decide_eq_false hr), if_neg (of_decide_eq_false hr)] at h1
  exact h1
theorem Net.join (h : Net B w b n s q) (x y : Int) (r : Bool) (hr : decide (Go.Proofs.Ytjmfimllaejpnaa.joined n s x y) = r) : Calls Try.prog 21 #[.pointer (some ⟨b, 0, none⟩), .int .i64 x, .int .i64 y] w fun e w' => e = .returned (.bool r) ∧ w' = w := by
  have h1 := h.joined x y
  rw [hr] at h1
  exact h1
end
set_option maxRecDepth 100000
set_option maxHeartbeats 4000000
theorem examples_any (w : World) : Calls Try.prog 4 #[] w fun e w' => e = .returned (.bool true) ∧ Below w.heap.size w w' := by
  have I0 : Hid (In64 0) := in64_small (by omega) (by omega)
  have I1 : Hid (In64 1) := in64_small (by omega) (by omega)
  have I3 : Hid (In64 3) := in64_small (by omega) (by omega)
  go_enter Try.func4, Try.ntmps4
  go_wp2_with fail
  refine (Net.new 3 w (by omega)).mono ?_
  rintro e w0 ⟨b, rfl, n0, b0⟩
  have N0 : Hid (Net w.heap.size w0 b 3 0 q0) := n0
  have B0 := hide b0
  clear n0 b0
  go_wp2_with fail
  refine (new_bad 8 w0 (by omega)).mono ?_
  rintro e wx ⟨rfl, rfl⟩
  go_wp2_with fail
  refine (N0.out.sendT B0.out.size I0.out I1.out tA (by decide) ex1).mono ?_
  rintro e w1 ⟨rfl, n1, b1⟩
  have N1 : Hid (Net w.heap.size w1 b 3 0 q1) := n1
  have B1 := hide (B0.out.trans b1)
  clear n1 b1 N0 B0
  go_wp2_with fail
  refine (N1.out.sendT B1.out.size I0.out I1.out tB (by decide) ex2).mono ?_
  rintro e w2 ⟨rfl, n1, b1⟩
  have N2 : Hid (Net w.heap.size w2 b 3 0 q2) := n1
  have B2 := hide (B1.out.trans b1)
  clear n1 b1 N1 B1
  go_wp2_with fail
  refine (N2.out.takeT B2.out.size I0.out I1.out 1 ⟨#[98]⟩ ex3 m3).mono ?_
  rintro e w3 ⟨rfl, n1, b1⟩
  have N3 : Hid (Net w.heap.size w3 b 3 0 q3) := n1
  have B3 := hide (B2.out.trans b1)
  clear n1 b1 N2 B2
  go_wp2_with fail
  refine (N3.out.cut B3.out.size 1 I1.out).mono ?_
  rintro e w4 ⟨rfl, n1, b1⟩
  have N4 : Hid (Net w.heap.size w4 b 3 1 q3) := n1
  have B4 := hide (B3.out.trans b1)
  clear n1 b1 N3 B3
  go_wp2_with fail
  refine (N4.out.takeF B4.out.size I0.out I1.out 0 ex4).mono ?_
  rintro e w5 ⟨rfl, n1, b1⟩
  have N5 : Hid (Net w.heap.size w5 b 3 1 q3) := n1
  have B5 := hide (B4.out.trans b1)
  clear n1 b1 N4 B4
  go_wp2_with fail
  refine (N5.out.join 1 2 true ex5).mono ?_
  rintro e wx ⟨rfl, rfl⟩
  go_wp2_with fail
  refine (N5.out.join 0 1 false ex6).mono ?_
  rintro e wx ⟨rfl, rfl⟩
  go_wp2_with fail
  refine (N5.out.cut B5.out.size 0 I0.out).mono ?_
  rintro e w6 ⟨rfl, n1, b1⟩
  have N6 : Hid (Net w.heap.size w6 b 3 0 q3) := n1
  have B6 := hide (B5.out.trans b1)
  clear n1 b1 N5 B5
  go_wp2_with fail
  refine (N6.out.takeT B6.out.size I0.out I1.out 0 ⟨#[97]⟩ ex7 m7).mono ?_
  rintro e w7 ⟨rfl, n1, b1⟩
  have N7 : Hid (Net w.heap.size w7 b 3 0 q4) := n1
  have B7 := hide (B6.out.trans b1)
  clear n1 b1 N6 B6
  go_wp2_with fail
  refine (N7.out.sendF B7.out.size I0.out I0.out tA (by decide) ex8).mono ?_
  rintro e w8 ⟨rfl, n1, b1⟩
  have N8 : Hid (Net w.heap.size w8 b 3 0 q4) := n1
  have B8 := hide (B7.out.trans b1)
  clear n1 b1 N7 B7
  go_wp2_with fail
  refine (N8.out.sendF B8.out.size I0.out I3.out tA (by decide) ex9).mono ?_
  rintro e w9 ⟨rfl, n1, b1⟩
  have N9 : Hid (Net w.heap.size w9 b 3 0 q4) := n1
  have B9 := hide (B8.out.trans b1)
  clear n1 b1 N8 B8
  go_wp2_with fail
  refine N9.out.nodes.mono ?_
  rintro e wx ⟨rfl, rfl⟩
  go_wp2_with fail
  go_ret
  exact ⟨rfl, B9.out⟩

end Go.Proofs.Ytjmfimllaejpnaa
