/-
  The laws' examples, as they run (mka3.py).
-/
import Derived.Test.YtpopamechapmmaaZA2
namespace Go.Proofs.Ytpopamechapmmaa
open Go.RowKit

theorem tl (a : Array UInt8) : (⟨a⟩ : ByteArray).toList = a.toList := by rw [Lib.toList_data]
set_option linter.unusedSimpArgs false in
theorem ex1 (w : World) : Calls Try.prog 11 #[.agg #[.int .i64 0, .int .i64 0, .int .i64 0, .int .i64 0, .string ⟨#[]⟩], .agg #[.int .i64 2, .int .i64 1]] w fun e w' => e = .returned (.tuple #[.agg #[.int .i64 2, .int .i64 1, .int .i64 0, .int .i64 0, .string ⟨#[]⟩], .bool true]) ∧ Below w.heap.size w w' := by
  have h := prepare_any ⟨⟨0, 0⟩, ⟨0, 0⟩, ⟨#[]⟩⟩ ⟨2, 1⟩ (by decide) w
  have e : AC.listens ⟨⟨0, 0⟩, ⟨0, 0⟩, ⟨#[]⟩⟩ ⟨2, 1⟩ = true := by simp [AC.takes, AC.listens, AC.right, AC.nothing, BL.may, BL.right, BL.none, BL.less, BL.same, tl, ByteArray.size]
  unfold AC.prep at h
  rw [e] at h
  exact h
set_option linter.unusedSimpArgs false in
theorem ex2 (w : World) : Calls Try.prog 11 #[.agg #[.int .i64 2, .int .i64 1, .int .i64 0, .int .i64 0, .string ⟨#[]⟩], .agg #[.int .i64 1, .int .i64 5]] w fun e w' => e = .returned (.tuple #[.agg #[.int .i64 2, .int .i64 1, .int .i64 0, .int .i64 0, .string ⟨#[]⟩], .bool false]) ∧ Below w.heap.size w w' := by
  have h := prepare_any ⟨⟨2, 1⟩, ⟨0, 0⟩, ⟨#[]⟩⟩ ⟨1, 5⟩ (by decide) w
  have e : AC.listens ⟨⟨2, 1⟩, ⟨0, 0⟩, ⟨#[]⟩⟩ ⟨1, 5⟩ = false := by simp [AC.takes, AC.listens, AC.right, AC.nothing, BL.may, BL.right, BL.none, BL.less, BL.same, tl, ByteArray.size]
  unfold AC.prep at h
  rw [e] at h
  exact h
set_option linter.unusedSimpArgs false in
theorem ex3 (w : World) : Calls Try.prog 12 #[.agg #[.int .i64 2, .int .i64 1, .int .i64 0, .int .i64 0, .string ⟨#[]⟩], .agg #[.int .i64 2, .int .i64 1], .string ⟨#[120]⟩] w fun e w' => e = .returned (.tuple #[.agg #[.int .i64 2, .int .i64 1, .int .i64 2, .int .i64 1, .string ⟨#[120]⟩], .bool true]) ∧ Below w.heap.size w w' := by
  have h := take_any ⟨⟨2, 1⟩, ⟨0, 0⟩, ⟨#[]⟩⟩ ⟨2, 1⟩ ⟨#[120]⟩ (by decide) (by decide) w
  have e : AC.takes ⟨⟨2, 1⟩, ⟨0, 0⟩, ⟨#[]⟩⟩ ⟨2, 1⟩ ⟨#[120]⟩ = true := by simp [AC.takes, AC.listens, AC.right, AC.nothing, BL.may, BL.right, BL.none, BL.less, BL.same, tl, ByteArray.size]
  unfold AC.take at h
  rw [e] at h
  exact h
set_option linter.unusedSimpArgs false in
theorem ex4 (w : World) : Calls Try.prog 12 #[.agg #[.int .i64 2, .int .i64 1, .int .i64 2, .int .i64 1, .string ⟨#[120]⟩], .agg #[.int .i64 2, .int .i64 1], .string ⟨#[121]⟩] w fun e w' => e = .returned (.tuple #[.agg #[.int .i64 2, .int .i64 1, .int .i64 2, .int .i64 1, .string ⟨#[120]⟩], .bool false]) ∧ Below w.heap.size w w' := by
  have h := take_any ⟨⟨2, 1⟩, ⟨2, 1⟩, ⟨#[120]⟩⟩ ⟨2, 1⟩ ⟨#[121]⟩ (by decide) (by decide) w
  have e : AC.takes ⟨⟨2, 1⟩, ⟨2, 1⟩, ⟨#[120]⟩⟩ ⟨2, 1⟩ ⟨#[121]⟩ = false := by simp [AC.takes, AC.listens, AC.right, AC.nothing, BL.may, BL.right, BL.none, BL.less, BL.same, tl, ByteArray.size]
  unfold AC.take at h
  rw [e] at h
  exact h
set_option linter.unusedSimpArgs false in
theorem ex5 (w : World) : Calls Try.prog 12 #[.agg #[.int .i64 2, .int .i64 1, .int .i64 2, .int .i64 1, .string ⟨#[120]⟩], .agg #[.int .i64 3, .int .i64 0], .string ⟨#[121]⟩] w fun e w' => e = .returned (.tuple #[.agg #[.int .i64 3, .int .i64 0, .int .i64 3, .int .i64 0, .string ⟨#[121]⟩], .bool true]) ∧ Below w.heap.size w w' := by
  have h := take_any ⟨⟨2, 1⟩, ⟨2, 1⟩, ⟨#[120]⟩⟩ ⟨3, 0⟩ ⟨#[121]⟩ (by decide) (by decide) w
  have e : AC.takes ⟨⟨2, 1⟩, ⟨2, 1⟩, ⟨#[120]⟩⟩ ⟨3, 0⟩ ⟨#[121]⟩ = true := by simp [AC.takes, AC.listens, AC.right, AC.nothing, BL.may, BL.right, BL.none, BL.less, BL.same, tl, ByteArray.size]
  unfold AC.take at h
  rw [e] at h
  exact h
theorem ex6 (w : World) : Calls Try.prog 13 #[.agg #[.int .i64 2, .int .i64 0], .agg #[.int .i64 2, .int .i64 1]] w fun e w' => e = .returned (.bool true) ∧ Below w.heap.size w w' := less_any ⟨2, 0⟩ ⟨2, 1⟩ w
theorem ex7 (w : World) : Calls Try.prog 14 #[.agg #[.int .i64 0, .int .i64 0]] w fun e w' => e = .returned (.bool false) ∧ Below w.heap.size w w' := pright ⟨0, 0⟩ w
set_option maxHeartbeats 4000000 in
theorem examples_any (w : World) : Calls Try.prog 6 #[] w fun e w' => e = .returned (.bool true) ∧ Below w.heap.size w w' := by
  go_enter Try.func6, Try.ntmps6
  go_wp2_with fail
  refine (ex1 _).mono ?_
  rintro e w1 ⟨rfl, bb⟩
  have T : Hid (w1.heap[w.heap.size]? = some (.cells #[.int .i64 2, .int .i64 1] 23)) := hide (Below.at bb (heap_alloc_new w (.cells #[.int .i64 2, .int .i64 1] 23)))
  have B := hide (bthen (below_new (Below.refl _ w) (.cells #[.int .i64 2, .int .i64 1] 23)) bb)
  clear bb
  have cT0 := fun o0 => box_cell (box_alloc T.out o0) 0 rfl
  have cT1 := fun o0 => box_cell (box_alloc T.out o0) 1 rfl
  go_wp2_with fail
  refine (ex2 _).mono ?_
  rintro e w2 ⟨rfl, bb⟩
  clear cT0 cT1
  replace T := hide (Below.at bb (box_alloc T.out (.cells #[.int .i64 2, .int .i64 1, .int .i64 0, .int .i64 0, .string ⟨#[]⟩] 25)))
  have A : Hid (w2.heap[w1.heap.size]? = some (.cells #[.int .i64 2, .int .i64 1, .int .i64 0, .int .i64 0, .string ⟨#[]⟩] 25)) := hide (Below.at bb (heap_alloc_new w1 (.cells #[.int .i64 2, .int .i64 1, .int .i64 0, .int .i64 0, .string ⟨#[]⟩] 25)))
  replace B := hide (bthen (below_new B.out (.cells #[.int .i64 2, .int .i64 1, .int .i64 0, .int .i64 0, .string ⟨#[]⟩] 25)) bb)
  clear bb
  generalize w1.heap.size = bA at *
  have cT0 := fun o0 => box_cell (box_alloc T.out o0) 0 rfl
  have cT1 := fun o0 => box_cell (box_alloc T.out o0) 1 rfl
  have cA0 := fun o0 => box_cell (box_alloc A.out o0) 0 rfl
  have cA1 := fun o0 => box_cell (box_alloc A.out o0) 1 rfl
  have cA2 := fun o0 => box_cell (box_alloc A.out o0) 2 rfl
  have cA3 := fun o0 => box_cell (box_alloc A.out o0) 3 rfl
  have cA4 := fun o0 => box_cell (box_alloc A.out o0) 4 rfl
  go_wp2_with fail
  refine (ex3 _).mono ?_
  rintro e w3 ⟨rfl, bb⟩
  clear cT0 cT1 cA0 cA1 cA2 cA3 cA4
  replace T := hide (Below.at bb (box_alloc T.out (.cells #[.int .i64 2, .int .i64 1, .int .i64 0, .int .i64 0, .string ⟨#[]⟩] 25)))
  replace A := hide (Below.at bb (box_alloc A.out (.cells #[.int .i64 2, .int .i64 1, .int .i64 0, .int .i64 0, .string ⟨#[]⟩] 25)))
  have C : Hid (w3.heap[w2.heap.size]? = some (.cells #[.int .i64 2, .int .i64 1, .int .i64 0, .int .i64 0, .string ⟨#[]⟩] 25)) := hide (Below.at bb (heap_alloc_new w2 (.cells #[.int .i64 2, .int .i64 1, .int .i64 0, .int .i64 0, .string ⟨#[]⟩] 25)))
  replace B := hide (bthen (below_new B.out (.cells #[.int .i64 2, .int .i64 1, .int .i64 0, .int .i64 0, .string ⟨#[]⟩] 25)) bb)
  clear bb
  generalize w2.heap.size = bC at *
  have cT0 := fun o0 => box_cell (box_alloc T.out o0) 0 rfl
  have cT1 := fun o0 => box_cell (box_alloc T.out o0) 1 rfl
  go_wp2_with fail
  refine (ex4 _).mono ?_
  rintro e w4 ⟨rfl, bb⟩
  clear cT0 cT1
  replace T := hide (Below.at bb (box_alloc T.out (.cells #[.int .i64 2, .int .i64 1, .int .i64 2, .int .i64 1, .string ⟨#[120]⟩] 25)))
  replace A := hide (Below.at bb (box_alloc A.out (.cells #[.int .i64 2, .int .i64 1, .int .i64 2, .int .i64 1, .string ⟨#[120]⟩] 25)))
  replace C := hide (Below.at bb (box_alloc C.out (.cells #[.int .i64 2, .int .i64 1, .int .i64 2, .int .i64 1, .string ⟨#[120]⟩] 25)))
  have D : Hid (w4.heap[w3.heap.size]? = some (.cells #[.int .i64 2, .int .i64 1, .int .i64 2, .int .i64 1, .string ⟨#[120]⟩] 25)) := hide (Below.at bb (heap_alloc_new w3 (.cells #[.int .i64 2, .int .i64 1, .int .i64 2, .int .i64 1, .string ⟨#[120]⟩] 25)))
  replace B := hide (bthen (below_new B.out (.cells #[.int .i64 2, .int .i64 1, .int .i64 2, .int .i64 1, .string ⟨#[120]⟩] 25)) bb)
  clear bb
  generalize w3.heap.size = bD at *
  have cT0 := fun o0 => box_cell (box_alloc T.out o0) 0 rfl
  have cT1 := fun o0 => box_cell (box_alloc T.out o0) 1 rfl
  have cD0 := fun o0 => box_cell (box_alloc D.out o0) 0 rfl
  have cD1 := fun o0 => box_cell (box_alloc D.out o0) 1 rfl
  have cD2 := fun o0 => box_cell (box_alloc D.out o0) 2 rfl
  have cD3 := fun o0 => box_cell (box_alloc D.out o0) 3 rfl
  have cD4 := fun o0 => box_cell (box_alloc D.out o0) 4 rfl
  go_wp2_with fail
  refine (ex5 _).mono ?_
  rintro e w5 ⟨rfl, bb⟩
  clear cT0 cT1 cD0 cD1 cD2 cD3 cD4
  replace T := hide (Below.at bb (box_alloc T.out (.cells #[.int .i64 2, .int .i64 1, .int .i64 2, .int .i64 1, .string ⟨#[120]⟩] 25)))
  replace A := hide (Below.at bb (box_alloc A.out (.cells #[.int .i64 2, .int .i64 1, .int .i64 2, .int .i64 1, .string ⟨#[120]⟩] 25)))
  replace C := hide (Below.at bb (box_alloc C.out (.cells #[.int .i64 2, .int .i64 1, .int .i64 2, .int .i64 1, .string ⟨#[120]⟩] 25)))
  replace D := hide (Below.at bb (box_alloc D.out (.cells #[.int .i64 2, .int .i64 1, .int .i64 2, .int .i64 1, .string ⟨#[120]⟩] 25)))
  have F : Hid (w5.heap[w4.heap.size]? = some (.cells #[.int .i64 2, .int .i64 1, .int .i64 2, .int .i64 1, .string ⟨#[120]⟩] 25)) := hide (Below.at bb (heap_alloc_new w4 (.cells #[.int .i64 2, .int .i64 1, .int .i64 2, .int .i64 1, .string ⟨#[120]⟩] 25)))
  replace B := hide (bthen (below_new B.out (.cells #[.int .i64 2, .int .i64 1, .int .i64 2, .int .i64 1, .string ⟨#[120]⟩] 25)) bb)
  clear bb
  generalize w4.heap.size = bF at *
  have cT0 := fun o0 => box_cell (box_alloc T.out o0) 0 rfl
  have cT1 := fun o0 => box_cell (box_alloc T.out o0) 1 rfl
  go_wp2_with fail
  refine (ex6 _).mono ?_
  rintro e w6 ⟨rfl, bb⟩
  clear cT0 cT1
  replace T := hide (Below.at bb (box_alloc T.out (.cells #[.int .i64 3, .int .i64 0, .int .i64 3, .int .i64 0, .string ⟨#[121]⟩] 25)))
  replace A := hide (Below.at bb (box_alloc A.out (.cells #[.int .i64 3, .int .i64 0, .int .i64 3, .int .i64 0, .string ⟨#[121]⟩] 25)))
  replace C := hide (Below.at bb (box_alloc C.out (.cells #[.int .i64 3, .int .i64 0, .int .i64 3, .int .i64 0, .string ⟨#[121]⟩] 25)))
  replace D := hide (Below.at bb (box_alloc D.out (.cells #[.int .i64 3, .int .i64 0, .int .i64 3, .int .i64 0, .string ⟨#[121]⟩] 25)))
  replace F := hide (Below.at bb (box_alloc F.out (.cells #[.int .i64 3, .int .i64 0, .int .i64 3, .int .i64 0, .string ⟨#[121]⟩] 25)))
  have G : Hid (w6.heap[w5.heap.size]? = some (.cells #[.int .i64 3, .int .i64 0, .int .i64 3, .int .i64 0, .string ⟨#[121]⟩] 25)) := hide (Below.at bb (heap_alloc_new w5 (.cells #[.int .i64 3, .int .i64 0, .int .i64 3, .int .i64 0, .string ⟨#[121]⟩] 25)))
  replace B := hide (bthen (below_new B.out (.cells #[.int .i64 3, .int .i64 0, .int .i64 3, .int .i64 0, .string ⟨#[121]⟩] 25)) bb)
  clear bb
  generalize w5.heap.size = bG at *
  have cT0 := box_cell T.out 0 rfl
  have cT1 := box_cell T.out 1 rfl
  have cG0 := box_cell G.out 0 rfl
  have cG1 := box_cell G.out 1 rfl
  have cG2 := box_cell G.out 2 rfl
  have cG3 := box_cell G.out 3 rfl
  have cG4 := box_cell G.out 4 rfl
  go_wp2_with fail
  refine (ex7 _).mono ?_
  rintro e w7 ⟨rfl, bb⟩
  clear cT0 cT1 cG0 cG1 cG2 cG3 cG4
  replace T := hide (Below.at bb T.out)
  replace A := hide (Below.at bb A.out)
  replace C := hide (Below.at bb C.out)
  replace D := hide (Below.at bb D.out)
  replace F := hide (Below.at bb F.out)
  replace G := hide (Below.at bb G.out)
  replace B := hide (bthen B.out bb)
  clear bb
  go_wp2
  go_ret
  exact ⟨rfl, B.out⟩

end Go.Proofs.Ytpopamechapmmaa
