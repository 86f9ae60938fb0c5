/-
  AcceptorBytes, as it runs (mkbytes.py).
-/
import Derived.Test.YtpopamechapmmaaZP5
import Derived.Test.YtpopamechapmmaaZP6
import Derived.Test.YtpopamechapmmaaZBackW
namespace Go.Proofs.Ytpopamechapmmaa
open Go.RowKit

set_option maxHeartbeats 4000000 in
theorem bytes_walk (a : AC) (s : ByteArray) (hz : a.v.size ≤ 281474976710656) (hs : s.size ≤ 281474976710656) (w : World) : Calls Try.prog 3 #[a.d, .string s] w fun e w' => e = .returned (.bool true) ∧ Below w.heap.size w w' := by
  have E1 := hide (fun W => enc_any a hz W)
  have E2 := hide (fun W => xenc_any a hz W)
  have D1 := hide (fun W => pdec_any s (by omega) W)
  have D2 := hide (fun W => xdec_any s (by omega) W)
  generalize decA s.data.toList = R at *
  obtain ⟨⟨⟨cr, cn⟩, ⟨dr, dn⟩, u⟩, g⟩ := R
  clear hz hs
  by_cases hr : a.right = true
  · rw [enc_good hr] at E1 E2
    rw [hr] at E2
    simp only at E1 E2
    generalize (codeA a).toArray = cd at *
    obtain ⟨⟨pr, pn⟩, ⟨tr, tn⟩, v⟩ := a
    clear hr
    simp only [AC.d] at *
    go_enter Try.func3, Try.ntmps3
    go_wp2_with fail
    refine (examples_any _).mono ?_
    rintro e w1 ⟨rfl, bb⟩
    have X : Hid (w1.heap[w.heap.size]? = some (.cells #[.int .i64 pr, .int .i64 pn, .int .i64 tr, .int .i64 tn, .string v] 25)) := hide (Below.at bb (heap_alloc_new w (.cells #[.int .i64 pr, .int .i64 pn, .int .i64 tr, .int .i64 tn, .string v] 25)))
    have B := hide (bthen (below_new (Below.refl _ w) (.cells #[.int .i64 pr, .int .i64 pn, .int .i64 tr, .int .i64 tn, .string v] 25)) bb)
    clear bb
    have cX0 := box_cell X.out 0 rfl
    have cX1 := box_cell X.out 1 rfl
    have cX2 := box_cell X.out 2 rfl
    have cX3 := box_cell X.out 3 rfl
    have cX4 := box_cell X.out 4 rfl
    go_wp2_with fail
    refine (E1.out _).mono ?_
    rintro e w2 ⟨rfl, bb⟩
    clear cX0 cX1 cX2 cX3 cX4
    replace X := hide (Below.at bb X.out)
    replace B := hide (bthen B.out bb)
    clear bb
    have cX0 := box_cell X.out 0 rfl
    have cX1 := box_cell X.out 1 rfl
    have cX2 := box_cell X.out 2 rfl
    have cX3 := box_cell X.out 3 rfl
    have cX4 := box_cell X.out 4 rfl
    go_wp2_with fail
    refine (E2.out _).mono ?_
    rintro e w3 ⟨rfl, bb⟩
    clear cX0 cX1 cX2 cX3 cX4
    replace X := hide (Below.at bb X.out)
    replace B := hide (bthen B.out bb)
    clear bb
    go_wp2_with fail
    refine (D1.out _).mono ?_
    rintro e w4 ⟨rfl, bb⟩
    replace X := hide (Below.at bb X.out)
    replace B := hide (bthen B.out bb)
    clear bb
    go_wp2_with fail
    refine (D2.out _).mono ?_
    rintro e w5 ⟨rfl, bb⟩
    replace X := hide (Below.at bb (box_alloc X.out (.cells #[.int .i64 cr, .int .i64 cn, .int .i64 dr, .int .i64 dn, .string u] 25)))
    have P : Hid (w5.heap[w4.heap.size]? = some (.cells #[.int .i64 cr, .int .i64 cn, .int .i64 dr, .int .i64 dn, .string u] 25)) := hide (Below.at bb (heap_alloc_new w4 (.cells #[.int .i64 cr, .int .i64 cn, .int .i64 dr, .int .i64 dn, .string u] 25)))
    replace B := hide (bthen (below_new B.out (.cells #[.int .i64 cr, .int .i64 cn, .int .i64 dr, .int .i64 dn, .string u] 25)) bb)
    clear bb
    generalize w4.heap.size = bP at *
    have cP0 := fun o0 => box_cell (box_alloc P.out o0) 0 rfl
    have cP1 := fun o0 => box_cell (box_alloc P.out o0) 1 rfl
    have cP2 := fun o0 => box_cell (box_alloc P.out o0) 2 rfl
    have cP3 := fun o0 => box_cell (box_alloc P.out o0) 3 rfl
    have cP4 := fun o0 => box_cell (box_alloc P.out o0) 4 rfl
    go_wp2
    go_ret
    exact ⟨rfl, (below_new B.out _)⟩
  · rw [enc_bad hr] at E1 E2
    rw [Bool.eq_false_iff.2 hr] at E2
    simp only at E1 E2
    obtain ⟨⟨pr, pn⟩, ⟨tr, tn⟩, v⟩ := a
    clear hr
    simp only [AC.d] at *
    go_enter Try.func3, Try.ntmps3
    go_wp2_with fail
    refine (examples_any _).mono ?_
    rintro e w1 ⟨rfl, bb⟩
    have X : Hid (w1.heap[w.heap.size]? = some (.cells #[.int .i64 pr, .int .i64 pn, .int .i64 tr, .int .i64 tn, .string v] 25)) := hide (Below.at bb (heap_alloc_new w (.cells #[.int .i64 pr, .int .i64 pn, .int .i64 tr, .int .i64 tn, .string v] 25)))
    have B := hide (bthen (below_new (Below.refl _ w) (.cells #[.int .i64 pr, .int .i64 pn, .int .i64 tr, .int .i64 tn, .string v] 25)) bb)
    clear bb
    have cX0 := box_cell X.out 0 rfl
    have cX1 := box_cell X.out 1 rfl
    have cX2 := box_cell X.out 2 rfl
    have cX3 := box_cell X.out 3 rfl
    have cX4 := box_cell X.out 4 rfl
    go_wp2_with fail
    refine (E1.out _).mono ?_
    rintro e w2 ⟨rfl, bb⟩
    clear cX0 cX1 cX2 cX3 cX4
    replace X := hide (Below.at bb X.out)
    replace B := hide (bthen B.out bb)
    clear bb
    have cX0 := box_cell X.out 0 rfl
    have cX1 := box_cell X.out 1 rfl
    have cX2 := box_cell X.out 2 rfl
    have cX3 := box_cell X.out 3 rfl
    have cX4 := box_cell X.out 4 rfl
    go_wp2_with fail
    refine (E2.out _).mono ?_
    rintro e w3 ⟨rfl, bb⟩
    clear cX0 cX1 cX2 cX3 cX4
    replace X := hide (Below.at bb X.out)
    replace B := hide (bthen B.out bb)
    clear bb
    go_wp2_with fail
    refine (D1.out _).mono ?_
    rintro e w4 ⟨rfl, bb⟩
    replace X := hide (Below.at bb X.out)
    replace B := hide (bthen B.out bb)
    clear bb
    go_wp2_with fail
    refine (D2.out _).mono ?_
    rintro e w5 ⟨rfl, bb⟩
    replace X := hide (Below.at bb (box_alloc X.out (.cells #[.int .i64 cr, .int .i64 cn, .int .i64 dr, .int .i64 dn, .string u] 25)))
    have P : Hid (w5.heap[w4.heap.size]? = some (.cells #[.int .i64 cr, .int .i64 cn, .int .i64 dr, .int .i64 dn, .string u] 25)) := hide (Below.at bb (heap_alloc_new w4 (.cells #[.int .i64 cr, .int .i64 cn, .int .i64 dr, .int .i64 dn, .string u] 25)))
    replace B := hide (bthen (below_new B.out (.cells #[.int .i64 cr, .int .i64 cn, .int .i64 dr, .int .i64 dn, .string u] 25)) bb)
    clear bb
    generalize w4.heap.size = bP at *
    have cP0 := fun o0 => box_cell (box_alloc P.out o0) 0 rfl
    have cP1 := fun o0 => box_cell (box_alloc P.out o0) 1 rfl
    have cP2 := fun o0 => box_cell (box_alloc P.out o0) 2 rfl
    have cP3 := fun o0 => box_cell (box_alloc P.out o0) 3 rfl
    have cP4 := fun o0 => box_cell (box_alloc P.out o0) 4 rfl
    go_wp2
    go_ret
    exact ⟨rfl, (below_new B.out _)⟩

end Go.Proofs.Ytpopamechapmmaa
