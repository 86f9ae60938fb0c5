/-
  AcceptorDoes, as it runs (mkdoes.py).
-/
import Derived.Test.YtmhkaopbajbmkaaA3
import Derived.Test.YtmhkaopbajbmkaaR2
import Derived.Deep.DeepCutAuto
namespace Go.Proofs.Ytmhkaopbajbmkaa
open Go.RowKit

set_option maxHeartbeats 8000000 in
set_option maxRecDepth 100000 in
theorem does_walk (a : AC) (b c : BL) (x : ByteArray) (hz : a.v.size ≤ 281474976710656) (hx : x.size ≤ 281474976710656) (w : World) : Calls Try.prog 3 #[a.d, b.v, c.v, .string x] w fun e w' => e = .returned (.bool true) ∧ Below w.heap.size w w' := by
  have P1 := hide (fun W => prepare_any a b hz W)
  have P2 := hide (fun W => rprepare_any a b hz W)
  have T1 := hide (fun W => take_any a c x hz hx W)
  have T2 := hide (fun W => rtake_any a c x hz hx W)
  have R1 := hide (fun W => pright b W)
  have R2 := hide (fun W => rright b W)
  have L1 := hide (fun W => less_any b c W)
  have L2 := hide (fun W => rless b c W)
  generalize a.prep b = p at *
  generalize a.take c x = t at *
  generalize a.listens b = ok1 at *
  generalize a.takes c x = ok2 at *
  generalize b.right = rt at *
  generalize b.less c = ls at *
  obtain ⟨⟨pr, pn⟩, ⟨tr, tn⟩, v⟩ := a
  obtain ⟨br, bn⟩ := b
  obtain ⟨cr, cn⟩ := c
  obtain ⟨⟨p0, p1⟩, ⟨p2, p3⟩, p4⟩ := p
  obtain ⟨⟨t0, t1⟩, ⟨t2, t3⟩, t4⟩ := t
  simp only [AC.d, BL.v] at *
  clear hz hx
  go_enter Try.func3, Try.ntmps3
  go_wp2_with fail
  refine (examples_any _).mono ?_
  rintro e w1 ⟨rfl, bb⟩
  have X : Hid (w1.heap[w.heap.size]? = some (.cells #[.int .i64 pr, .int .i64 pn, .int .i64 tr, .int .i64 tn, .string v] 25)) := hide (Below.at bb (by have hnew := box_alloc (box_alloc (heap_alloc_new w (.cells #[.int .i64 pr, .int .i64 pn, .int .i64 tr, .int .i64 tn, .string v] 25)) (.cells #[.int .i64 br, .int .i64 bn] 23)) (.cells #[.int .i64 cr, .int .i64 cn] 23); simpa using hnew))
  have Y : Hid (w1.heap[w.heap.size + 1]? = some (.cells #[.int .i64 br, .int .i64 bn] 23)) := hide (Below.at bb (by have hnew := box_alloc (heap_alloc_new (w.alloc (.cells #[.int .i64 pr, .int .i64 pn, .int .i64 tr, .int .i64 tn, .string v] 25)) (.cells #[.int .i64 br, .int .i64 bn] 23)) (.cells #[.int .i64 cr, .int .i64 cn] 23); simpa using hnew))
  have C : Hid (w1.heap[w.heap.size + 2]? = some (.cells #[.int .i64 cr, .int .i64 cn] 23)) := hide (Below.at bb (by have hnew := heap_alloc_new ((w.alloc (.cells #[.int .i64 pr, .int .i64 pn, .int .i64 tr, .int .i64 tn, .string v] 25)).alloc (.cells #[.int .i64 br, .int .i64 bn] 23)) (.cells #[.int .i64 cr, .int .i64 cn] 23); simpa using hnew))
  have B := hide (bthen (below_new (below_new (below_new (Below.refl _ w) (.cells #[.int .i64 pr, .int .i64 pn, .int .i64 tr, .int .i64 tn, .string v] 25)) (.cells #[.int .i64 br, .int .i64 bn] 23)) (.cells #[.int .i64 cr, .int .i64 cn] 23)) bb)
  clear bb
  have cX0 := box_cell X.out 0 rfl
  have cX1 := box_cell X.out 1 rfl
  have cX2 := box_cell X.out 2 rfl
  have cX3 := box_cell X.out 3 rfl
  have cX4 := box_cell X.out 4 rfl
  have cY0 := box_cell Y.out 0 rfl
  have cY1 := box_cell Y.out 1 rfl
  go_wp2_with fail
  refine (P1.out _).mono ?_
  rintro e w2 ⟨rfl, bb⟩
  clear cX0 cX1 cX2 cX3 cX4 cY0 cY1
  replace X := hide (Below.at bb X.out)
  replace Y := hide (Below.at bb Y.out)
  replace C := hide (Below.at bb C.out)
  replace B := hide (bthen B.out bb)
  clear bb
  have cX0 := fun o0 => box_cell (box_alloc X.out o0) 0 rfl
  have cX1 := fun o0 => box_cell (box_alloc X.out o0) 1 rfl
  have cX2 := fun o0 => box_cell (box_alloc X.out o0) 2 rfl
  have cX3 := fun o0 => box_cell (box_alloc X.out o0) 3 rfl
  have cX4 := fun o0 => box_cell (box_alloc X.out o0) 4 rfl
  have cY0 := fun o0 => box_cell (box_alloc Y.out o0) 0 rfl
  have cY1 := fun o0 => box_cell (box_alloc Y.out o0) 1 rfl
  go_wp2_with fail
  refine (P2.out _).mono ?_
  rintro e w3 ⟨rfl, bb⟩
  clear cX0 cX1 cX2 cX3 cX4 cY0 cY1
  replace X := hide (Below.at bb (box_alloc X.out (.cells #[.int .i64 p0, .int .i64 p1, .int .i64 p2, .int .i64 p3, .string p4] 25)))
  replace Y := hide (Below.at bb (box_alloc Y.out (.cells #[.int .i64 p0, .int .i64 p1, .int .i64 p2, .int .i64 p3, .string p4] 25)))
  replace C := hide (Below.at bb (box_alloc C.out (.cells #[.int .i64 p0, .int .i64 p1, .int .i64 p2, .int .i64 p3, .string p4] 25)))
  have P : Hid (w3.heap[w2.heap.size]? = some (.cells #[.int .i64 p0, .int .i64 p1, .int .i64 p2, .int .i64 p3, .string p4] 25)) := hide (Below.at bb (heap_alloc_new w2 (.cells #[.int .i64 p0, .int .i64 p1, .int .i64 p2, .int .i64 p3, .string p4] 25)))
  replace B := hide (bthen (below_new B.out (.cells #[.int .i64 p0, .int .i64 p1, .int .i64 p2, .int .i64 p3, .string p4] 25)) bb)
  clear bb
  generalize w2.heap.size = bP at *
  have cX0 := fun o0 => box_cell (box_alloc X.out o0) 0 rfl
  have cX1 := fun o0 => box_cell (box_alloc X.out o0) 1 rfl
  have cX2 := fun o0 => box_cell (box_alloc X.out o0) 2 rfl
  have cX3 := fun o0 => box_cell (box_alloc X.out o0) 3 rfl
  have cX4 := fun o0 => box_cell (box_alloc X.out o0) 4 rfl
  have cC0 := fun o0 => box_cell (box_alloc C.out o0) 0 rfl
  have cC1 := fun o0 => box_cell (box_alloc C.out o0) 1 rfl
  go_wp2_with fail
  refine (T1.out _).mono ?_
  rintro e w4 ⟨rfl, bb⟩
  clear cX0 cX1 cX2 cX3 cX4 cC0 cC1
  replace X := hide (Below.at bb (box_alloc X.out (.cells #[.int .i64 p0, .int .i64 p1, .int .i64 p2, .int .i64 p3, .string p4] 25)))
  replace Y := hide (Below.at bb (box_alloc Y.out (.cells #[.int .i64 p0, .int .i64 p1, .int .i64 p2, .int .i64 p3, .string p4] 25)))
  replace C := hide (Below.at bb (box_alloc C.out (.cells #[.int .i64 p0, .int .i64 p1, .int .i64 p2, .int .i64 p3, .string p4] 25)))
  replace P := hide (Below.at bb (box_alloc P.out (.cells #[.int .i64 p0, .int .i64 p1, .int .i64 p2, .int .i64 p3, .string p4] 25)))
  have Q : Hid (w4.heap[w3.heap.size]? = some (.cells #[.int .i64 p0, .int .i64 p1, .int .i64 p2, .int .i64 p3, .string p4] 25)) := hide (Below.at bb (heap_alloc_new w3 (.cells #[.int .i64 p0, .int .i64 p1, .int .i64 p2, .int .i64 p3, .string p4] 25)))
  replace B := hide (bthen (below_new B.out (.cells #[.int .i64 p0, .int .i64 p1, .int .i64 p2, .int .i64 p3, .string p4] 25)) bb)
  clear bb
  generalize w3.heap.size = bQ at *
  have cX0 := fun o0 => box_cell (box_alloc X.out o0) 0 rfl
  have cX1 := fun o0 => box_cell (box_alloc X.out o0) 1 rfl
  have cX2 := fun o0 => box_cell (box_alloc X.out o0) 2 rfl
  have cX3 := fun o0 => box_cell (box_alloc X.out o0) 3 rfl
  have cX4 := fun o0 => box_cell (box_alloc X.out o0) 4 rfl
  have cC0 := fun o0 => box_cell (box_alloc C.out o0) 0 rfl
  have cC1 := fun o0 => box_cell (box_alloc C.out o0) 1 rfl
  go_wp2_with fail
  refine (T2.out _).mono ?_
  rintro e w5 ⟨rfl, bb⟩
  clear cX0 cX1 cX2 cX3 cX4 cC0 cC1
  replace X := hide (Below.at bb (box_alloc X.out (.cells #[.int .i64 t0, .int .i64 t1, .int .i64 t2, .int .i64 t3, .string t4] 25)))
  replace Y := hide (Below.at bb (box_alloc Y.out (.cells #[.int .i64 t0, .int .i64 t1, .int .i64 t2, .int .i64 t3, .string t4] 25)))
  replace C := hide (Below.at bb (box_alloc C.out (.cells #[.int .i64 t0, .int .i64 t1, .int .i64 t2, .int .i64 t3, .string t4] 25)))
  replace P := hide (Below.at bb (box_alloc P.out (.cells #[.int .i64 t0, .int .i64 t1, .int .i64 t2, .int .i64 t3, .string t4] 25)))
  replace Q := hide (Below.at bb (box_alloc Q.out (.cells #[.int .i64 t0, .int .i64 t1, .int .i64 t2, .int .i64 t3, .string t4] 25)))
  have T : Hid (w5.heap[w4.heap.size]? = some (.cells #[.int .i64 t0, .int .i64 t1, .int .i64 t2, .int .i64 t3, .string t4] 25)) := hide (Below.at bb (heap_alloc_new w4 (.cells #[.int .i64 t0, .int .i64 t1, .int .i64 t2, .int .i64 t3, .string t4] 25)))
  replace B := hide (bthen (below_new B.out (.cells #[.int .i64 t0, .int .i64 t1, .int .i64 t2, .int .i64 t3, .string t4] 25)) bb)
  clear bb
  generalize w4.heap.size = bT at *
  go_upto_region 6 with fail
  obtain ⟨w6, bb, hgw⟩ : ∃ W : World, Below (w5.alloc (.cells #[.int .i64 t0, .int .i64 t1, .int .i64 t2, .int .i64 t3, .string t4] 25)).heap.size (w5.alloc (.cells #[.int .i64 t0, .int .i64 t1, .int .i64 t2, .int .i64 t3, .string t4] 25)) W ∧ (w5.alloc (.cells #[.int .i64 t0, .int .i64 t1, .int .i64 t2, .int .i64 t3, .string t4] 25)) = W := ⟨_, Below.refl _ _, rfl⟩
  rw [hgw]
  clear hgw
  replace X := hide (Below.at bb (box_alloc X.out (.cells #[.int .i64 t0, .int .i64 t1, .int .i64 t2, .int .i64 t3, .string t4] 25)))
  replace Y := hide (Below.at bb (box_alloc Y.out (.cells #[.int .i64 t0, .int .i64 t1, .int .i64 t2, .int .i64 t3, .string t4] 25)))
  replace C := hide (Below.at bb (box_alloc C.out (.cells #[.int .i64 t0, .int .i64 t1, .int .i64 t2, .int .i64 t3, .string t4] 25)))
  replace P := hide (Below.at bb (box_alloc P.out (.cells #[.int .i64 t0, .int .i64 t1, .int .i64 t2, .int .i64 t3, .string t4] 25)))
  replace Q := hide (Below.at bb (box_alloc Q.out (.cells #[.int .i64 t0, .int .i64 t1, .int .i64 t2, .int .i64 t3, .string t4] 25)))
  replace T := hide (Below.at bb (box_alloc T.out (.cells #[.int .i64 t0, .int .i64 t1, .int .i64 t2, .int .i64 t3, .string t4] 25)))
  have U : Hid (w6.heap[w5.heap.size]? = some (.cells #[.int .i64 t0, .int .i64 t1, .int .i64 t2, .int .i64 t3, .string t4] 25)) := hide (Below.at bb (heap_alloc_new w5 (.cells #[.int .i64 t0, .int .i64 t1, .int .i64 t2, .int .i64 t3, .string t4] 25)))
  replace B := hide (bthen (below_new B.out (.cells #[.int .i64 t0, .int .i64 t1, .int .i64 t2, .int .i64 t3, .string t4] 25)) bb)
  clear bb
  generalize w5.heap.size = bU at *
  have dY0 := cell_regrown (box_cell Y.out 0 rfl)
  have dY1 := cell_regrown (box_cell Y.out 1 rfl)
  have dC0 := cell_regrown (box_cell C.out 0 rfl)
  have dC1 := cell_regrown (box_cell C.out 1 rfl)
  have dP0 := cell_regrown (box_cell P.out 0 rfl)
  have dP1 := cell_regrown (box_cell P.out 1 rfl)
  have dP2 := cell_regrown (box_cell P.out 2 rfl)
  have dP3 := cell_regrown (box_cell P.out 3 rfl)
  have dP4 := cell_regrown (box_cell P.out 4 rfl)
  have dQ0 := cell_regrown (box_cell Q.out 0 rfl)
  have dQ1 := cell_regrown (box_cell Q.out 1 rfl)
  have dQ2 := cell_regrown (box_cell Q.out 2 rfl)
  have dQ3 := cell_regrown (box_cell Q.out 3 rfl)
  have dQ4 := cell_regrown (box_cell Q.out 4 rfl)
  have dT0 := cell_regrown (box_cell T.out 0 rfl)
  have dT1 := cell_regrown (box_cell T.out 1 rfl)
  have dT2 := cell_regrown (box_cell T.out 2 rfl)
  have dT3 := cell_regrown (box_cell T.out 3 rfl)
  have dT4 := cell_regrown (box_cell T.out 4 rfl)
  have dU0 := cell_regrown (box_cell U.out 0 rfl)
  have dU1 := cell_regrown (box_cell U.out 1 rfl)
  have dU2 := cell_regrown (box_cell U.out 2 rfl)
  have dU3 := cell_regrown (box_cell U.out 3 rfl)
  have dU4 := cell_regrown (box_cell U.out 4 rfl)
  refine wp_region_quiet_below (by kernel_rfl) (by kernel_rfl) ?_
  repeat (go_big_quiet_step (first | (go_at_call 10; first | exact Calls.regrown_of (R1.out _)) | (go_at_call 11; first | exact Calls.regrown_of (R2.out _)) | (go_at_call 12; first | exact Calls.regrown_of (L1.out _)) | (go_at_call 13; first | exact Calls.regrown_of (L2.out _))))
  refine wpQuiet_nil ?_
  intro _ hw'
  obtain ⟨⟨dq, osq⟩, hw''⟩ := hw'
  subst hw''
  have bb := below_regrown w6 dq osq
  generalize Go.Sort.grow (redrawn w6 dq) osq = w7 at *
  clear dY0 dY1 dC0 dC1 dP0 dP1 dP2 dP3 dP4 dQ0 dQ1 dQ2 dQ3 dQ4 dT0 dT1 dT2 dT3 dT4 dU0 dU1 dU2 dU3 dU4
  replace X := hide (Below.at bb X.out)
  replace Y := hide (Below.at bb Y.out)
  replace C := hide (Below.at bb C.out)
  replace P := hide (Below.at bb P.out)
  replace Q := hide (Below.at bb Q.out)
  replace T := hide (Below.at bb T.out)
  replace U := hide (Below.at bb U.out)
  replace B := hide (bthen B.out bb)
  clear bb
  go_wp2
  go_ret
  exact ⟨rfl, B.out⟩

end Go.Proofs.Ytmhkaopbajbmkaa
