/-
  The document's own Prepare, Take, as they run (mkr1.py).
-/
import Derived.Test.YtmhkaopbajbmkaaR1
namespace Go.Proofs.Ytmhkaopbajbmkaa
open Go.RowKit

set_option maxHeartbeats 4000000 in
set_option linter.unusedSimpArgs false in
theorem rprepare_any (a : AC) (b : BL) (hz : a.v.size ≤ 281474976710656) (w : World) : Calls Try.prog 7 #[a.d, b.v] w fun e w' => e = .returned (.tuple #[(a.prep b).d, .bool (a.listens b)]) ∧ Below w.heap.size w w' := by
  have AR := hide (fun W => rrightA a hz W)
  have RB := hide (fun W => rright b W)
  have LS := hide (fun W => rless b a.p W)
  unfold AC.prep
  unfold AC.listens
  generalize a.right = x1 at *
  generalize b.right = x2 at *
  generalize b.less a.p = x3 at *
  obtain ⟨⟨pr, pn⟩, ⟨tr, tn⟩, v⟩ := a
  obtain ⟨br, bn⟩ := b
  simp only [AC.d, BL.v] at *
  cases x1 with
  | false =>
    simp only [Bool.false_and, Bool.and_false, Bool.true_and, Bool.and_true, Bool.not_true, Bool.not_false, Bool.false_eq_true, if_true, if_false]
    go_enter Try.func7, Try.ntmps7
    go_wp2_with fail
    refine (AR.out _).mono ?_
    rintro e w1 ⟨rfl, bb⟩
    have X : Hid (w1.heap[w.heap.size]? = some (.cells #[.int .i64 pr, .int .i64 pn, .int .i64 tr, .int .i64 tn, .string v] 25)) := hide (Below.at bb (by have hnew := box_alloc (box_alloc (heap_alloc_new w (.cells #[.int .i64 pr, .int .i64 pn, .int .i64 tr, .int .i64 tn, .string v] 25)) (.cells #[.int .i64 br, .int .i64 bn] 23)) (.cells #[.int .i64 0, .int .i64 0, .int .i64 0, .int .i64 0, .string ⟨#[]⟩] 25); simpa using hnew))
    have Y : Hid (w1.heap[w.heap.size + 1]? = some (.cells #[.int .i64 br, .int .i64 bn] 23)) := hide (Below.at bb (by have hnew := box_alloc (heap_alloc_new (w.alloc (.cells #[.int .i64 pr, .int .i64 pn, .int .i64 tr, .int .i64 tn, .string v] 25)) (.cells #[.int .i64 br, .int .i64 bn] 23)) (.cells #[.int .i64 0, .int .i64 0, .int .i64 0, .int .i64 0, .string ⟨#[]⟩] 25); simpa using hnew))
    have Z : Hid (w1.heap[w.heap.size + 2]? = some (.cells #[.int .i64 0, .int .i64 0, .int .i64 0, .int .i64 0, .string ⟨#[]⟩] 25)) := hide (Below.at bb (by have hnew := heap_alloc_new ((w.alloc (.cells #[.int .i64 pr, .int .i64 pn, .int .i64 tr, .int .i64 tn, .string v] 25)).alloc (.cells #[.int .i64 br, .int .i64 bn] 23)) (.cells #[.int .i64 0, .int .i64 0, .int .i64 0, .int .i64 0, .string ⟨#[]⟩] 25); simpa using hnew))
    have B := hide (bthen (below_new (below_new (below_new (Below.refl _ w) (.cells #[.int .i64 pr, .int .i64 pn, .int .i64 tr, .int .i64 tn, .string v] 25)) (.cells #[.int .i64 br, .int .i64 bn] 23)) (.cells #[.int .i64 0, .int .i64 0, .int .i64 0, .int .i64 0, .string ⟨#[]⟩] 25)) bb)
    clear bb
    have cX0 := box_cell X.out 0 rfl
    have cX1 := box_cell X.out 1 rfl
    have cX2 := box_cell X.out 2 rfl
    have cX3 := box_cell X.out 3 rfl
    have cX4 := box_cell X.out 4 rfl
    have cY0 := box_cell Y.out 0 rfl
    have cY1 := box_cell Y.out 1 rfl
    go_wp2_with fail
    refine (RB.out _).mono ?_
    rintro e w2 ⟨rfl, bb⟩
    clear cX0 cX1 cX2 cX3 cX4 cY0 cY1
    replace X := hide (Below.at bb X.out)
    replace Y := hide (Below.at bb Y.out)
    replace Z := hide (Below.at bb Z.out)
    replace B := hide (bthen B.out bb)
    clear bb
    have cX0 := box_cell X.out 0 rfl
    have cX1 := box_cell X.out 1 rfl
    have cX2 := box_cell X.out 2 rfl
    have cX3 := box_cell X.out 3 rfl
    have cX4 := box_cell X.out 4 rfl
    have cY0 := box_cell Y.out 0 rfl
    have cY1 := box_cell Y.out 1 rfl
    go_wp2_with fail
    refine (LS.out _).mono ?_
    rintro e w3 ⟨rfl, bb⟩
    clear cX0 cX1 cX2 cX3 cX4 cY0 cY1
    replace X := hide (Below.at bb X.out)
    replace Y := hide (Below.at bb Y.out)
    replace Z := hide (Below.at bb Z.out)
    replace B := hide (bthen B.out bb)
    clear bb
    have cX0 := box_cell X.out 0 rfl
    have fX0 := box_free X.out 0
    have cX1 := box_cell X.out 1 rfl
    have fX1 := box_free X.out 1
    have cX2 := box_cell X.out 2 rfl
    have fX2 := box_free X.out 2
    have cX3 := box_cell X.out 3 rfl
    have fX3 := box_free X.out 3
    have cX4 := box_cell X.out 4 rfl
    have fX4 := box_free X.out 4
    have cY0 := box_cell Y.out 0 rfl
    have fY0 := box_free Y.out 0
    have cY1 := box_cell Y.out 1 rfl
    have fY1 := box_free Y.out 1
    have cZ0 := box_cell Z.out 0 rfl
    have fZ0 := box_free Z.out 0
    have cZ1 := box_cell Z.out 1 rfl
    have fZ1 := box_free Z.out 1
    have cZ2 := box_cell Z.out 2 rfl
    have fZ2 := box_free Z.out 2
    have cZ3 := box_cell Z.out 3 rfl
    have fZ3 := box_free Z.out 3
    have cZ4 := box_cell Z.out 4 rfl
    have fZ4 := box_free Z.out 4
    go_wp2
    have K := box5 (set5_box (.int .i64 pr) (.int .i64 pn) (.int .i64 tr) (.int .i64 tn) (.string v) Z.out)
    simp only [set5] at K
    obtain ⟨⟨k0, k1, k2, k3, k4⟩, _⟩ := K
    refine bodyPost_ret (v := .tuple #[.agg #[.int .i64 pr, .int .i64 pn, .int .i64 tr, .int .i64 tn, .string v], .bool false]) (by simp [results, Try.results7, go_sem, k0, k1, k2, k3, k4]) rfl ⟨rfl, ?_⟩
    exact set5_below _ _ _ _ _ B.out (by omega)
  | true =>
    cases x2 with
    | false =>
      simp only [Bool.false_and, Bool.and_false, Bool.true_and, Bool.and_true, Bool.not_true, Bool.not_false, Bool.false_eq_true, if_true, if_false]
      go_enter Try.func7, Try.ntmps7
      go_wp2_with fail
      refine (AR.out _).mono ?_
      rintro e w1 ⟨rfl, bb⟩
      have X : Hid (w1.heap[w.heap.size]? = some (.cells #[.int .i64 pr, .int .i64 pn, .int .i64 tr, .int .i64 tn, .string v] 25)) := hide (Below.at bb (by have hnew := box_alloc (box_alloc (heap_alloc_new w (.cells #[.int .i64 pr, .int .i64 pn, .int .i64 tr, .int .i64 tn, .string v] 25)) (.cells #[.int .i64 br, .int .i64 bn] 23)) (.cells #[.int .i64 0, .int .i64 0, .int .i64 0, .int .i64 0, .string ⟨#[]⟩] 25); simpa using hnew))
      have Y : Hid (w1.heap[w.heap.size + 1]? = some (.cells #[.int .i64 br, .int .i64 bn] 23)) := hide (Below.at bb (by have hnew := box_alloc (heap_alloc_new (w.alloc (.cells #[.int .i64 pr, .int .i64 pn, .int .i64 tr, .int .i64 tn, .string v] 25)) (.cells #[.int .i64 br, .int .i64 bn] 23)) (.cells #[.int .i64 0, .int .i64 0, .int .i64 0, .int .i64 0, .string ⟨#[]⟩] 25); simpa using hnew))
      have Z : Hid (w1.heap[w.heap.size + 2]? = some (.cells #[.int .i64 0, .int .i64 0, .int .i64 0, .int .i64 0, .string ⟨#[]⟩] 25)) := hide (Below.at bb (by have hnew := heap_alloc_new ((w.alloc (.cells #[.int .i64 pr, .int .i64 pn, .int .i64 tr, .int .i64 tn, .string v] 25)).alloc (.cells #[.int .i64 br, .int .i64 bn] 23)) (.cells #[.int .i64 0, .int .i64 0, .int .i64 0, .int .i64 0, .string ⟨#[]⟩] 25); simpa using hnew))
      have B := hide (bthen (below_new (below_new (below_new (Below.refl _ w) (.cells #[.int .i64 pr, .int .i64 pn, .int .i64 tr, .int .i64 tn, .string v] 25)) (.cells #[.int .i64 br, .int .i64 bn] 23)) (.cells #[.int .i64 0, .int .i64 0, .int .i64 0, .int .i64 0, .string ⟨#[]⟩] 25)) bb)
      clear bb
      have cX0 := box_cell X.out 0 rfl
      have cX1 := box_cell X.out 1 rfl
      have cX2 := box_cell X.out 2 rfl
      have cX3 := box_cell X.out 3 rfl
      have cX4 := box_cell X.out 4 rfl
      have cY0 := box_cell Y.out 0 rfl
      have cY1 := box_cell Y.out 1 rfl
      go_wp2_with fail
      refine (RB.out _).mono ?_
      rintro e w2 ⟨rfl, bb⟩
      clear cX0 cX1 cX2 cX3 cX4 cY0 cY1
      replace X := hide (Below.at bb X.out)
      replace Y := hide (Below.at bb Y.out)
      replace Z := hide (Below.at bb Z.out)
      replace B := hide (bthen B.out bb)
      clear bb
      have cX0 := box_cell X.out 0 rfl
      have cX1 := box_cell X.out 1 rfl
      have cX2 := box_cell X.out 2 rfl
      have cX3 := box_cell X.out 3 rfl
      have cX4 := box_cell X.out 4 rfl
      have cY0 := box_cell Y.out 0 rfl
      have cY1 := box_cell Y.out 1 rfl
      go_wp2_with fail
      refine (LS.out _).mono ?_
      rintro e w3 ⟨rfl, bb⟩
      clear cX0 cX1 cX2 cX3 cX4 cY0 cY1
      replace X := hide (Below.at bb X.out)
      replace Y := hide (Below.at bb Y.out)
      replace Z := hide (Below.at bb Z.out)
      replace B := hide (bthen B.out bb)
      clear bb
      have cX0 := box_cell X.out 0 rfl
      have fX0 := box_free X.out 0
      have cX1 := box_cell X.out 1 rfl
      have fX1 := box_free X.out 1
      have cX2 := box_cell X.out 2 rfl
      have fX2 := box_free X.out 2
      have cX3 := box_cell X.out 3 rfl
      have fX3 := box_free X.out 3
      have cX4 := box_cell X.out 4 rfl
      have fX4 := box_free X.out 4
      have cY0 := box_cell Y.out 0 rfl
      have fY0 := box_free Y.out 0
      have cY1 := box_cell Y.out 1 rfl
      have fY1 := box_free Y.out 1
      have cZ0 := box_cell Z.out 0 rfl
      have fZ0 := box_free Z.out 0
      have cZ1 := box_cell Z.out 1 rfl
      have fZ1 := box_free Z.out 1
      have cZ2 := box_cell Z.out 2 rfl
      have fZ2 := box_free Z.out 2
      have cZ3 := box_cell Z.out 3 rfl
      have fZ3 := box_free Z.out 3
      have cZ4 := box_cell Z.out 4 rfl
      have fZ4 := box_free Z.out 4
      go_wp2
      have K := box5 (set5_box (.int .i64 pr) (.int .i64 pn) (.int .i64 tr) (.int .i64 tn) (.string v) Z.out)
      simp only [set5] at K
      obtain ⟨⟨k0, k1, k2, k3, k4⟩, _⟩ := K
      refine bodyPost_ret (v := .tuple #[.agg #[.int .i64 pr, .int .i64 pn, .int .i64 tr, .int .i64 tn, .string v], .bool false]) (by simp [results, Try.results7, go_sem, k0, k1, k2, k3, k4]) rfl ⟨rfl, ?_⟩
      exact set5_below _ _ _ _ _ B.out (by omega)
    | true =>
      cases x3 with
      | true =>
        simp only [Bool.false_and, Bool.and_false, Bool.true_and, Bool.and_true, Bool.not_true, Bool.not_false, Bool.false_eq_true, if_true, if_false]
        go_enter Try.func7, Try.ntmps7
        go_wp2_with fail
        refine (AR.out _).mono ?_
        rintro e w1 ⟨rfl, bb⟩
        have X : Hid (w1.heap[w.heap.size]? = some (.cells #[.int .i64 pr, .int .i64 pn, .int .i64 tr, .int .i64 tn, .string v] 25)) := hide (Below.at bb (by have hnew := box_alloc (box_alloc (heap_alloc_new w (.cells #[.int .i64 pr, .int .i64 pn, .int .i64 tr, .int .i64 tn, .string v] 25)) (.cells #[.int .i64 br, .int .i64 bn] 23)) (.cells #[.int .i64 0, .int .i64 0, .int .i64 0, .int .i64 0, .string ⟨#[]⟩] 25); simpa using hnew))
        have Y : Hid (w1.heap[w.heap.size + 1]? = some (.cells #[.int .i64 br, .int .i64 bn] 23)) := hide (Below.at bb (by have hnew := box_alloc (heap_alloc_new (w.alloc (.cells #[.int .i64 pr, .int .i64 pn, .int .i64 tr, .int .i64 tn, .string v] 25)) (.cells #[.int .i64 br, .int .i64 bn] 23)) (.cells #[.int .i64 0, .int .i64 0, .int .i64 0, .int .i64 0, .string ⟨#[]⟩] 25); simpa using hnew))
        have Z : Hid (w1.heap[w.heap.size + 2]? = some (.cells #[.int .i64 0, .int .i64 0, .int .i64 0, .int .i64 0, .string ⟨#[]⟩] 25)) := hide (Below.at bb (by have hnew := heap_alloc_new ((w.alloc (.cells #[.int .i64 pr, .int .i64 pn, .int .i64 tr, .int .i64 tn, .string v] 25)).alloc (.cells #[.int .i64 br, .int .i64 bn] 23)) (.cells #[.int .i64 0, .int .i64 0, .int .i64 0, .int .i64 0, .string ⟨#[]⟩] 25); simpa using hnew))
        have B := hide (bthen (below_new (below_new (below_new (Below.refl _ w) (.cells #[.int .i64 pr, .int .i64 pn, .int .i64 tr, .int .i64 tn, .string v] 25)) (.cells #[.int .i64 br, .int .i64 bn] 23)) (.cells #[.int .i64 0, .int .i64 0, .int .i64 0, .int .i64 0, .string ⟨#[]⟩] 25)) bb)
        clear bb
        have cX0 := box_cell X.out 0 rfl
        have cX1 := box_cell X.out 1 rfl
        have cX2 := box_cell X.out 2 rfl
        have cX3 := box_cell X.out 3 rfl
        have cX4 := box_cell X.out 4 rfl
        have cY0 := box_cell Y.out 0 rfl
        have cY1 := box_cell Y.out 1 rfl
        go_wp2_with fail
        refine (RB.out _).mono ?_
        rintro e w2 ⟨rfl, bb⟩
        clear cX0 cX1 cX2 cX3 cX4 cY0 cY1
        replace X := hide (Below.at bb X.out)
        replace Y := hide (Below.at bb Y.out)
        replace Z := hide (Below.at bb Z.out)
        replace B := hide (bthen B.out bb)
        clear bb
        have cX0 := box_cell X.out 0 rfl
        have cX1 := box_cell X.out 1 rfl
        have cX2 := box_cell X.out 2 rfl
        have cX3 := box_cell X.out 3 rfl
        have cX4 := box_cell X.out 4 rfl
        have cY0 := box_cell Y.out 0 rfl
        have cY1 := box_cell Y.out 1 rfl
        go_wp2_with fail
        refine (LS.out _).mono ?_
        rintro e w3 ⟨rfl, bb⟩
        clear cX0 cX1 cX2 cX3 cX4 cY0 cY1
        replace X := hide (Below.at bb X.out)
        replace Y := hide (Below.at bb Y.out)
        replace Z := hide (Below.at bb Z.out)
        replace B := hide (bthen B.out bb)
        clear bb
        have cX0 := box_cell X.out 0 rfl
        have fX0 := box_free X.out 0
        have cX1 := box_cell X.out 1 rfl
        have fX1 := box_free X.out 1
        have cX2 := box_cell X.out 2 rfl
        have fX2 := box_free X.out 2
        have cX3 := box_cell X.out 3 rfl
        have fX3 := box_free X.out 3
        have cX4 := box_cell X.out 4 rfl
        have fX4 := box_free X.out 4
        have cY0 := box_cell Y.out 0 rfl
        have fY0 := box_free Y.out 0
        have cY1 := box_cell Y.out 1 rfl
        have fY1 := box_free Y.out 1
        have cZ0 := box_cell Z.out 0 rfl
        have fZ0 := box_free Z.out 0
        have cZ1 := box_cell Z.out 1 rfl
        have fZ1 := box_free Z.out 1
        have cZ2 := box_cell Z.out 2 rfl
        have fZ2 := box_free Z.out 2
        have cZ3 := box_cell Z.out 3 rfl
        have fZ3 := box_free Z.out 3
        have cZ4 := box_cell Z.out 4 rfl
        have fZ4 := box_free Z.out 4
        go_wp2
        have K := box5 (set5_box (.int .i64 pr) (.int .i64 pn) (.int .i64 tr) (.int .i64 tn) (.string v) Z.out)
        simp only [set5] at K
        obtain ⟨⟨k0, k1, k2, k3, k4⟩, _⟩ := K
        refine bodyPost_ret (v := .tuple #[.agg #[.int .i64 pr, .int .i64 pn, .int .i64 tr, .int .i64 tn, .string v], .bool false]) (by simp [results, Try.results7, go_sem, k0, k1, k2, k3, k4]) rfl ⟨rfl, ?_⟩
        exact set5_below _ _ _ _ _ B.out (by omega)
      | false =>
        simp only [Bool.false_and, Bool.and_false, Bool.true_and, Bool.and_true, Bool.not_true, Bool.not_false, Bool.false_eq_true, if_true, if_false]
        go_enter Try.func7, Try.ntmps7
        go_wp2_with fail
        refine (AR.out _).mono ?_
        rintro e w1 ⟨rfl, bb⟩
        have X : Hid (w1.heap[w.heap.size]? = some (.cells #[.int .i64 pr, .int .i64 pn, .int .i64 tr, .int .i64 tn, .string v] 25)) := hide (Below.at bb (by have hnew := box_alloc (box_alloc (heap_alloc_new w (.cells #[.int .i64 pr, .int .i64 pn, .int .i64 tr, .int .i64 tn, .string v] 25)) (.cells #[.int .i64 br, .int .i64 bn] 23)) (.cells #[.int .i64 0, .int .i64 0, .int .i64 0, .int .i64 0, .string ⟨#[]⟩] 25); simpa using hnew))
        have Y : Hid (w1.heap[w.heap.size + 1]? = some (.cells #[.int .i64 br, .int .i64 bn] 23)) := hide (Below.at bb (by have hnew := box_alloc (heap_alloc_new (w.alloc (.cells #[.int .i64 pr, .int .i64 pn, .int .i64 tr, .int .i64 tn, .string v] 25)) (.cells #[.int .i64 br, .int .i64 bn] 23)) (.cells #[.int .i64 0, .int .i64 0, .int .i64 0, .int .i64 0, .string ⟨#[]⟩] 25); simpa using hnew))
        have Z : Hid (w1.heap[w.heap.size + 2]? = some (.cells #[.int .i64 0, .int .i64 0, .int .i64 0, .int .i64 0, .string ⟨#[]⟩] 25)) := hide (Below.at bb (by have hnew := heap_alloc_new ((w.alloc (.cells #[.int .i64 pr, .int .i64 pn, .int .i64 tr, .int .i64 tn, .string v] 25)).alloc (.cells #[.int .i64 br, .int .i64 bn] 23)) (.cells #[.int .i64 0, .int .i64 0, .int .i64 0, .int .i64 0, .string ⟨#[]⟩] 25); simpa using hnew))
        have B := hide (bthen (below_new (below_new (below_new (Below.refl _ w) (.cells #[.int .i64 pr, .int .i64 pn, .int .i64 tr, .int .i64 tn, .string v] 25)) (.cells #[.int .i64 br, .int .i64 bn] 23)) (.cells #[.int .i64 0, .int .i64 0, .int .i64 0, .int .i64 0, .string ⟨#[]⟩] 25)) bb)
        clear bb
        have cX0 := box_cell X.out 0 rfl
        have cX1 := box_cell X.out 1 rfl
        have cX2 := box_cell X.out 2 rfl
        have cX3 := box_cell X.out 3 rfl
        have cX4 := box_cell X.out 4 rfl
        have cY0 := box_cell Y.out 0 rfl
        have cY1 := box_cell Y.out 1 rfl
        go_wp2_with fail
        refine (RB.out _).mono ?_
        rintro e w2 ⟨rfl, bb⟩
        clear cX0 cX1 cX2 cX3 cX4 cY0 cY1
        replace X := hide (Below.at bb X.out)
        replace Y := hide (Below.at bb Y.out)
        replace Z := hide (Below.at bb Z.out)
        replace B := hide (bthen B.out bb)
        clear bb
        have cX0 := box_cell X.out 0 rfl
        have cX1 := box_cell X.out 1 rfl
        have cX2 := box_cell X.out 2 rfl
        have cX3 := box_cell X.out 3 rfl
        have cX4 := box_cell X.out 4 rfl
        have cY0 := box_cell Y.out 0 rfl
        have cY1 := box_cell Y.out 1 rfl
        go_wp2_with fail
        refine (LS.out _).mono ?_
        rintro e w3 ⟨rfl, bb⟩
        clear cX0 cX1 cX2 cX3 cX4 cY0 cY1
        replace X := hide (Below.at bb X.out)
        replace Y := hide (Below.at bb Y.out)
        replace Z := hide (Below.at bb Z.out)
        replace B := hide (bthen B.out bb)
        clear bb
        have cX0 := box_cell X.out 0 rfl
        have fX0 := box_free X.out 0
        have cX1 := box_cell X.out 1 rfl
        have fX1 := box_free X.out 1
        have cX2 := box_cell X.out 2 rfl
        have fX2 := box_free X.out 2
        have cX3 := box_cell X.out 3 rfl
        have fX3 := box_free X.out 3
        have cX4 := box_cell X.out 4 rfl
        have fX4 := box_free X.out 4
        have cY0 := box_cell Y.out 0 rfl
        have fY0 := box_free Y.out 0
        have cY1 := box_cell Y.out 1 rfl
        have fY1 := box_free Y.out 1
        have cZ0 := box_cell Z.out 0 rfl
        have fZ0 := box_free Z.out 0
        have cZ1 := box_cell Z.out 1 rfl
        have fZ1 := box_free Z.out 1
        have cZ2 := box_cell Z.out 2 rfl
        have fZ2 := box_free Z.out 2
        have cZ3 := box_cell Z.out 3 rfl
        have fZ3 := box_free Z.out 3
        have cZ4 := box_cell Z.out 4 rfl
        have fZ4 := box_free Z.out 4
        go_wp2
        have K := box5 (set5_box (.int .i64 br) (.int .i64 bn) (.int .i64 tr) (.int .i64 tn) (.string v) (box_apart (box_apart Z.out (by omega : w.heap.size + 2 ≠ w.heap.size) 0 (.int .i64 br)) (by omega : w.heap.size + 2 ≠ w.heap.size) 1 (.int .i64 bn)))
        simp only [set5] at K
        obtain ⟨⟨k0, k1, k2, k3, k4⟩, _⟩ := K
        refine bodyPost_ret (v := .tuple #[.agg #[.int .i64 br, .int .i64 bn, .int .i64 tr, .int .i64 tn, .string v], .bool true]) (by simp [results, Try.results7, go_sem, k0, k1, k2, k3, k4]) rfl ⟨rfl, ?_⟩
        exact set5_below _ _ _ _ _ (below_set (below_set B.out _ _ _ (Nat.le_refl _)) _ _ _ (Nat.le_refl _)) (by omega)
set_option maxHeartbeats 4000000 in
set_option linter.unusedSimpArgs false in
theorem rtake_any (a : AC) (b : BL) (x : ByteArray) (hz : a.v.size ≤ 281474976710656) (hx : x.size ≤ 281474976710656) (w : World) : Calls Try.prog 9 #[a.d, b.v, .string x] w fun e w' => e = .returned (.tuple #[(a.take b x).d, .bool (a.takes b x)]) ∧ Below w.heap.size w w' := by
  have AR := hide (fun W => rrightA a hz W)
  have RB := hide (fun W => rright b W)
  have LS := hide (fun W => rless b a.p W)
  unfold AC.take
  unfold AC.takes
  unfold AC.listens
  generalize a.right = x1 at *
  generalize b.right = x2 at *
  generalize b.less a.p = x3 at *
  obtain ⟨⟨pr, pn⟩, ⟨tr, tn⟩, v⟩ := a
  obtain ⟨br, bn⟩ := b
  rw [same_beq]
  simp only [AC.d, BL.v] at *
  cases x1 with
  | false =>
    simp only [Bool.false_and, Bool.and_false, Bool.true_and, Bool.and_true, Bool.not_true, Bool.not_false, Bool.false_eq_true, if_true, if_false, beq_self_eq_true]
    go_enter Try.func9, Try.ntmps9
    go_wp2_with fail
    refine (AR.out _).mono ?_
    rintro e w1 ⟨rfl, bb⟩
    have X : Hid (w1.heap[w.heap.size]? = some (.cells #[.int .i64 pr, .int .i64 pn, .int .i64 tr, .int .i64 tn, .string v] 25)) := hide (Below.at bb (by have hnew := box_alloc (box_alloc (heap_alloc_new w (.cells #[.int .i64 pr, .int .i64 pn, .int .i64 tr, .int .i64 tn, .string v] 25)) (.cells #[.int .i64 br, .int .i64 bn] 23)) (.cells #[.int .i64 0, .int .i64 0, .int .i64 0, .int .i64 0, .string ⟨#[]⟩] 25); simpa using hnew))
    have Y : Hid (w1.heap[w.heap.size + 1]? = some (.cells #[.int .i64 br, .int .i64 bn] 23)) := hide (Below.at bb (by have hnew := box_alloc (heap_alloc_new (w.alloc (.cells #[.int .i64 pr, .int .i64 pn, .int .i64 tr, .int .i64 tn, .string v] 25)) (.cells #[.int .i64 br, .int .i64 bn] 23)) (.cells #[.int .i64 0, .int .i64 0, .int .i64 0, .int .i64 0, .string ⟨#[]⟩] 25); simpa using hnew))
    have Z : Hid (w1.heap[w.heap.size + 2]? = some (.cells #[.int .i64 0, .int .i64 0, .int .i64 0, .int .i64 0, .string ⟨#[]⟩] 25)) := hide (Below.at bb (by have hnew := heap_alloc_new ((w.alloc (.cells #[.int .i64 pr, .int .i64 pn, .int .i64 tr, .int .i64 tn, .string v] 25)).alloc (.cells #[.int .i64 br, .int .i64 bn] 23)) (.cells #[.int .i64 0, .int .i64 0, .int .i64 0, .int .i64 0, .string ⟨#[]⟩] 25); simpa using hnew))
    have B := hide (bthen (below_new (below_new (below_new (Below.refl _ w) (.cells #[.int .i64 pr, .int .i64 pn, .int .i64 tr, .int .i64 tn, .string v] 25)) (.cells #[.int .i64 br, .int .i64 bn] 23)) (.cells #[.int .i64 0, .int .i64 0, .int .i64 0, .int .i64 0, .string ⟨#[]⟩] 25)) bb)
    clear bb
    have cX0 := box_cell X.out 0 rfl
    have cX1 := box_cell X.out 1 rfl
    have cX2 := box_cell X.out 2 rfl
    have cX3 := box_cell X.out 3 rfl
    have cX4 := box_cell X.out 4 rfl
    have cY0 := box_cell Y.out 0 rfl
    have cY1 := box_cell Y.out 1 rfl
    go_wp2_with fail
    refine (RB.out _).mono ?_
    rintro e w2 ⟨rfl, bb⟩
    clear cX0 cX1 cX2 cX3 cX4 cY0 cY1
    replace X := hide (Below.at bb X.out)
    replace Y := hide (Below.at bb Y.out)
    replace Z := hide (Below.at bb Z.out)
    replace B := hide (bthen B.out bb)
    clear bb
    have cX0 := box_cell X.out 0 rfl
    have cX1 := box_cell X.out 1 rfl
    have cX2 := box_cell X.out 2 rfl
    have cX3 := box_cell X.out 3 rfl
    have cX4 := box_cell X.out 4 rfl
    have cY0 := box_cell Y.out 0 rfl
    have cY1 := box_cell Y.out 1 rfl
    go_wp2_with fail
    refine (LS.out _).mono ?_
    rintro e w3 ⟨rfl, bb⟩
    clear cX0 cX1 cX2 cX3 cX4 cY0 cY1
    replace X := hide (Below.at bb X.out)
    replace Y := hide (Below.at bb Y.out)
    replace Z := hide (Below.at bb Z.out)
    replace B := hide (bthen B.out bb)
    clear bb
    have cX0 := box_cell X.out 0 rfl
    have fX0 := box_free X.out 0
    have cX1 := box_cell X.out 1 rfl
    have fX1 := box_free X.out 1
    have cX2 := box_cell X.out 2 rfl
    have fX2 := box_free X.out 2
    have cX3 := box_cell X.out 3 rfl
    have fX3 := box_free X.out 3
    have cX4 := box_cell X.out 4 rfl
    have fX4 := box_free X.out 4
    have cY0 := box_cell Y.out 0 rfl
    have fY0 := box_free Y.out 0
    have cY1 := box_cell Y.out 1 rfl
    have fY1 := box_free Y.out 1
    have cZ0 := box_cell Z.out 0 rfl
    have fZ0 := box_free Z.out 0
    have cZ1 := box_cell Z.out 1 rfl
    have fZ1 := box_free Z.out 1
    have cZ2 := box_cell Z.out 2 rfl
    have fZ2 := box_free Z.out 2
    have cZ3 := box_cell Z.out 3 rfl
    have fZ3 := box_free Z.out 3
    have cZ4 := box_cell Z.out 4 rfl
    have fZ4 := box_free Z.out 4
    go_wp2
    have K := box5 (set5_box (.int .i64 pr) (.int .i64 pn) (.int .i64 tr) (.int .i64 tn) (.string v) Z.out)
    simp only [set5] at K
    obtain ⟨⟨k0, k1, k2, k3, k4⟩, _⟩ := K
    refine bodyPost_ret (v := .tuple #[.agg #[.int .i64 pr, .int .i64 pn, .int .i64 tr, .int .i64 tn, .string v], .bool false]) (by simp [results, Try.results9, go_sem, k0, k1, k2, k3, k4]) rfl ⟨rfl, ?_⟩
    exact set5_below _ _ _ _ _ B.out (by omega)
  | true =>
    cases x2 with
    | false =>
      simp only [Bool.false_and, Bool.and_false, Bool.true_and, Bool.and_true, Bool.not_true, Bool.not_false, Bool.false_eq_true, if_true, if_false, beq_self_eq_true]
      go_enter Try.func9, Try.ntmps9
      go_wp2_with fail
      refine (AR.out _).mono ?_
      rintro e w1 ⟨rfl, bb⟩
      have X : Hid (w1.heap[w.heap.size]? = some (.cells #[.int .i64 pr, .int .i64 pn, .int .i64 tr, .int .i64 tn, .string v] 25)) := hide (Below.at bb (by have hnew := box_alloc (box_alloc (heap_alloc_new w (.cells #[.int .i64 pr, .int .i64 pn, .int .i64 tr, .int .i64 tn, .string v] 25)) (.cells #[.int .i64 br, .int .i64 bn] 23)) (.cells #[.int .i64 0, .int .i64 0, .int .i64 0, .int .i64 0, .string ⟨#[]⟩] 25); simpa using hnew))
      have Y : Hid (w1.heap[w.heap.size + 1]? = some (.cells #[.int .i64 br, .int .i64 bn] 23)) := hide (Below.at bb (by have hnew := box_alloc (heap_alloc_new (w.alloc (.cells #[.int .i64 pr, .int .i64 pn, .int .i64 tr, .int .i64 tn, .string v] 25)) (.cells #[.int .i64 br, .int .i64 bn] 23)) (.cells #[.int .i64 0, .int .i64 0, .int .i64 0, .int .i64 0, .string ⟨#[]⟩] 25); simpa using hnew))
      have Z : Hid (w1.heap[w.heap.size + 2]? = some (.cells #[.int .i64 0, .int .i64 0, .int .i64 0, .int .i64 0, .string ⟨#[]⟩] 25)) := hide (Below.at bb (by have hnew := heap_alloc_new ((w.alloc (.cells #[.int .i64 pr, .int .i64 pn, .int .i64 tr, .int .i64 tn, .string v] 25)).alloc (.cells #[.int .i64 br, .int .i64 bn] 23)) (.cells #[.int .i64 0, .int .i64 0, .int .i64 0, .int .i64 0, .string ⟨#[]⟩] 25); simpa using hnew))
      have B := hide (bthen (below_new (below_new (below_new (Below.refl _ w) (.cells #[.int .i64 pr, .int .i64 pn, .int .i64 tr, .int .i64 tn, .string v] 25)) (.cells #[.int .i64 br, .int .i64 bn] 23)) (.cells #[.int .i64 0, .int .i64 0, .int .i64 0, .int .i64 0, .string ⟨#[]⟩] 25)) bb)
      clear bb
      have cX0 := box_cell X.out 0 rfl
      have cX1 := box_cell X.out 1 rfl
      have cX2 := box_cell X.out 2 rfl
      have cX3 := box_cell X.out 3 rfl
      have cX4 := box_cell X.out 4 rfl
      have cY0 := box_cell Y.out 0 rfl
      have cY1 := box_cell Y.out 1 rfl
      go_wp2_with fail
      refine (RB.out _).mono ?_
      rintro e w2 ⟨rfl, bb⟩
      clear cX0 cX1 cX2 cX3 cX4 cY0 cY1
      replace X := hide (Below.at bb X.out)
      replace Y := hide (Below.at bb Y.out)
      replace Z := hide (Below.at bb Z.out)
      replace B := hide (bthen B.out bb)
      clear bb
      have cX0 := box_cell X.out 0 rfl
      have cX1 := box_cell X.out 1 rfl
      have cX2 := box_cell X.out 2 rfl
      have cX3 := box_cell X.out 3 rfl
      have cX4 := box_cell X.out 4 rfl
      have cY0 := box_cell Y.out 0 rfl
      have cY1 := box_cell Y.out 1 rfl
      go_wp2_with fail
      refine (LS.out _).mono ?_
      rintro e w3 ⟨rfl, bb⟩
      clear cX0 cX1 cX2 cX3 cX4 cY0 cY1
      replace X := hide (Below.at bb X.out)
      replace Y := hide (Below.at bb Y.out)
      replace Z := hide (Below.at bb Z.out)
      replace B := hide (bthen B.out bb)
      clear bb
      have cX0 := box_cell X.out 0 rfl
      have fX0 := box_free X.out 0
      have cX1 := box_cell X.out 1 rfl
      have fX1 := box_free X.out 1
      have cX2 := box_cell X.out 2 rfl
      have fX2 := box_free X.out 2
      have cX3 := box_cell X.out 3 rfl
      have fX3 := box_free X.out 3
      have cX4 := box_cell X.out 4 rfl
      have fX4 := box_free X.out 4
      have cY0 := box_cell Y.out 0 rfl
      have fY0 := box_free Y.out 0
      have cY1 := box_cell Y.out 1 rfl
      have fY1 := box_free Y.out 1
      have cZ0 := box_cell Z.out 0 rfl
      have fZ0 := box_free Z.out 0
      have cZ1 := box_cell Z.out 1 rfl
      have fZ1 := box_free Z.out 1
      have cZ2 := box_cell Z.out 2 rfl
      have fZ2 := box_free Z.out 2
      have cZ3 := box_cell Z.out 3 rfl
      have fZ3 := box_free Z.out 3
      have cZ4 := box_cell Z.out 4 rfl
      have fZ4 := box_free Z.out 4
      go_wp2
      have K := box5 (set5_box (.int .i64 pr) (.int .i64 pn) (.int .i64 tr) (.int .i64 tn) (.string v) Z.out)
      simp only [set5] at K
      obtain ⟨⟨k0, k1, k2, k3, k4⟩, _⟩ := K
      refine bodyPost_ret (v := .tuple #[.agg #[.int .i64 pr, .int .i64 pn, .int .i64 tr, .int .i64 tn, .string v], .bool false]) (by simp [results, Try.results9, go_sem, k0, k1, k2, k3, k4]) rfl ⟨rfl, ?_⟩
      exact set5_below _ _ _ _ _ B.out (by omega)
    | true =>
      cases x3 with
      | true =>
        simp only [Bool.false_and, Bool.and_false, Bool.true_and, Bool.and_true, Bool.not_true, Bool.not_false, Bool.false_eq_true, if_true, if_false, beq_self_eq_true]
        go_enter Try.func9, Try.ntmps9
        go_wp2_with fail
        refine (AR.out _).mono ?_
        rintro e w1 ⟨rfl, bb⟩
        have X : Hid (w1.heap[w.heap.size]? = some (.cells #[.int .i64 pr, .int .i64 pn, .int .i64 tr, .int .i64 tn, .string v] 25)) := hide (Below.at bb (by have hnew := box_alloc (box_alloc (heap_alloc_new w (.cells #[.int .i64 pr, .int .i64 pn, .int .i64 tr, .int .i64 tn, .string v] 25)) (.cells #[.int .i64 br, .int .i64 bn] 23)) (.cells #[.int .i64 0, .int .i64 0, .int .i64 0, .int .i64 0, .string ⟨#[]⟩] 25); simpa using hnew))
        have Y : Hid (w1.heap[w.heap.size + 1]? = some (.cells #[.int .i64 br, .int .i64 bn] 23)) := hide (Below.at bb (by have hnew := box_alloc (heap_alloc_new (w.alloc (.cells #[.int .i64 pr, .int .i64 pn, .int .i64 tr, .int .i64 tn, .string v] 25)) (.cells #[.int .i64 br, .int .i64 bn] 23)) (.cells #[.int .i64 0, .int .i64 0, .int .i64 0, .int .i64 0, .string ⟨#[]⟩] 25); simpa using hnew))
        have Z : Hid (w1.heap[w.heap.size + 2]? = some (.cells #[.int .i64 0, .int .i64 0, .int .i64 0, .int .i64 0, .string ⟨#[]⟩] 25)) := hide (Below.at bb (by have hnew := heap_alloc_new ((w.alloc (.cells #[.int .i64 pr, .int .i64 pn, .int .i64 tr, .int .i64 tn, .string v] 25)).alloc (.cells #[.int .i64 br, .int .i64 bn] 23)) (.cells #[.int .i64 0, .int .i64 0, .int .i64 0, .int .i64 0, .string ⟨#[]⟩] 25); simpa using hnew))
        have B := hide (bthen (below_new (below_new (below_new (Below.refl _ w) (.cells #[.int .i64 pr, .int .i64 pn, .int .i64 tr, .int .i64 tn, .string v] 25)) (.cells #[.int .i64 br, .int .i64 bn] 23)) (.cells #[.int .i64 0, .int .i64 0, .int .i64 0, .int .i64 0, .string ⟨#[]⟩] 25)) bb)
        clear bb
        have cX0 := box_cell X.out 0 rfl
        have cX1 := box_cell X.out 1 rfl
        have cX2 := box_cell X.out 2 rfl
        have cX3 := box_cell X.out 3 rfl
        have cX4 := box_cell X.out 4 rfl
        have cY0 := box_cell Y.out 0 rfl
        have cY1 := box_cell Y.out 1 rfl
        go_wp2_with fail
        refine (RB.out _).mono ?_
        rintro e w2 ⟨rfl, bb⟩
        clear cX0 cX1 cX2 cX3 cX4 cY0 cY1
        replace X := hide (Below.at bb X.out)
        replace Y := hide (Below.at bb Y.out)
        replace Z := hide (Below.at bb Z.out)
        replace B := hide (bthen B.out bb)
        clear bb
        have cX0 := box_cell X.out 0 rfl
        have cX1 := box_cell X.out 1 rfl
        have cX2 := box_cell X.out 2 rfl
        have cX3 := box_cell X.out 3 rfl
        have cX4 := box_cell X.out 4 rfl
        have cY0 := box_cell Y.out 0 rfl
        have cY1 := box_cell Y.out 1 rfl
        go_wp2_with fail
        refine (LS.out _).mono ?_
        rintro e w3 ⟨rfl, bb⟩
        clear cX0 cX1 cX2 cX3 cX4 cY0 cY1
        replace X := hide (Below.at bb X.out)
        replace Y := hide (Below.at bb Y.out)
        replace Z := hide (Below.at bb Z.out)
        replace B := hide (bthen B.out bb)
        clear bb
        have cX0 := box_cell X.out 0 rfl
        have fX0 := box_free X.out 0
        have cX1 := box_cell X.out 1 rfl
        have fX1 := box_free X.out 1
        have cX2 := box_cell X.out 2 rfl
        have fX2 := box_free X.out 2
        have cX3 := box_cell X.out 3 rfl
        have fX3 := box_free X.out 3
        have cX4 := box_cell X.out 4 rfl
        have fX4 := box_free X.out 4
        have cY0 := box_cell Y.out 0 rfl
        have fY0 := box_free Y.out 0
        have cY1 := box_cell Y.out 1 rfl
        have fY1 := box_free Y.out 1
        have cZ0 := box_cell Z.out 0 rfl
        have fZ0 := box_free Z.out 0
        have cZ1 := box_cell Z.out 1 rfl
        have fZ1 := box_free Z.out 1
        have cZ2 := box_cell Z.out 2 rfl
        have fZ2 := box_free Z.out 2
        have cZ3 := box_cell Z.out 3 rfl
        have fZ3 := box_free Z.out 3
        have cZ4 := box_cell Z.out 4 rfl
        have fZ4 := box_free Z.out 4
        go_wp2
        have K := box5 (set5_box (.int .i64 pr) (.int .i64 pn) (.int .i64 tr) (.int .i64 tn) (.string v) Z.out)
        simp only [set5] at K
        obtain ⟨⟨k0, k1, k2, k3, k4⟩, _⟩ := K
        refine bodyPost_ret (v := .tuple #[.agg #[.int .i64 pr, .int .i64 pn, .int .i64 tr, .int .i64 tn, .string v], .bool false]) (by simp [results, Try.results9, go_sem, k0, k1, k2, k3, k4]) rfl ⟨rfl, ?_⟩
        exact set5_below _ _ _ _ _ B.out (by omega)
      | false =>
        by_cases s1 : x.size ≤ 100000
        · rw [decide_eq_true s1]
          have s1' : ¬ (x.size : Int) > 100000 := by omega
          by_cases h1 : br = tr
          · subst h1
            by_cases h2 : bn = tn
            · subst h2
              have s3 : (x.toList != v.toList) = !(x.toList == v.toList) := rfl
              cases s2 : x.toList == v.toList with
              | true =>
                rw [s2] at s3
                rw [s3]
                clear s1
                simp only [Bool.false_and, Bool.and_false, Bool.true_and, Bool.and_true, Bool.not_true, Bool.not_false, Bool.false_eq_true, if_true, if_false, beq_self_eq_true]
                go_enter Try.func9, Try.ntmps9
                go_wp2_with fail
                refine (AR.out _).mono ?_
                rintro e w1 ⟨rfl, bb⟩
                have X : Hid (w1.heap[w.heap.size]? = some (.cells #[.int .i64 pr, .int .i64 pn, .int .i64 br, .int .i64 bn, .string v] 25)) := hide (Below.at bb (by have hnew := box_alloc (box_alloc (heap_alloc_new w (.cells #[.int .i64 pr, .int .i64 pn, .int .i64 br, .int .i64 bn, .string v] 25)) (.cells #[.int .i64 br, .int .i64 bn] 23)) (.cells #[.int .i64 0, .int .i64 0, .int .i64 0, .int .i64 0, .string ⟨#[]⟩] 25); simpa using hnew))
                have Y : Hid (w1.heap[w.heap.size + 1]? = some (.cells #[.int .i64 br, .int .i64 bn] 23)) := hide (Below.at bb (by have hnew := box_alloc (heap_alloc_new (w.alloc (.cells #[.int .i64 pr, .int .i64 pn, .int .i64 br, .int .i64 bn, .string v] 25)) (.cells #[.int .i64 br, .int .i64 bn] 23)) (.cells #[.int .i64 0, .int .i64 0, .int .i64 0, .int .i64 0, .string ⟨#[]⟩] 25); simpa using hnew))
                have Z : Hid (w1.heap[w.heap.size + 2]? = some (.cells #[.int .i64 0, .int .i64 0, .int .i64 0, .int .i64 0, .string ⟨#[]⟩] 25)) := hide (Below.at bb (by have hnew := heap_alloc_new ((w.alloc (.cells #[.int .i64 pr, .int .i64 pn, .int .i64 br, .int .i64 bn, .string v] 25)).alloc (.cells #[.int .i64 br, .int .i64 bn] 23)) (.cells #[.int .i64 0, .int .i64 0, .int .i64 0, .int .i64 0, .string ⟨#[]⟩] 25); simpa using hnew))
                have B := hide (bthen (below_new (below_new (below_new (Below.refl _ w) (.cells #[.int .i64 pr, .int .i64 pn, .int .i64 br, .int .i64 bn, .string v] 25)) (.cells #[.int .i64 br, .int .i64 bn] 23)) (.cells #[.int .i64 0, .int .i64 0, .int .i64 0, .int .i64 0, .string ⟨#[]⟩] 25)) bb)
                clear bb
                have cX0 := box_cell X.out 0 rfl
                have cX1 := box_cell X.out 1 rfl
                have cX2 := box_cell X.out 2 rfl
                have cX3 := box_cell X.out 3 rfl
                have cX4 := box_cell X.out 4 rfl
                have cY0 := box_cell Y.out 0 rfl
                have cY1 := box_cell Y.out 1 rfl
                go_wp2_with fail
                refine (RB.out _).mono ?_
                rintro e w2 ⟨rfl, bb⟩
                clear cX0 cX1 cX2 cX3 cX4 cY0 cY1
                replace X := hide (Below.at bb X.out)
                replace Y := hide (Below.at bb Y.out)
                replace Z := hide (Below.at bb Z.out)
                replace B := hide (bthen B.out bb)
                clear bb
                have cX0 := box_cell X.out 0 rfl
                have cX1 := box_cell X.out 1 rfl
                have cX2 := box_cell X.out 2 rfl
                have cX3 := box_cell X.out 3 rfl
                have cX4 := box_cell X.out 4 rfl
                have cY0 := box_cell Y.out 0 rfl
                have cY1 := box_cell Y.out 1 rfl
                go_wp2_with fail
                refine (LS.out _).mono ?_
                rintro e w3 ⟨rfl, bb⟩
                clear cX0 cX1 cX2 cX3 cX4 cY0 cY1
                replace X := hide (Below.at bb X.out)
                replace Y := hide (Below.at bb Y.out)
                replace Z := hide (Below.at bb Z.out)
                replace B := hide (bthen B.out bb)
                clear bb
                have cX0 := box_cell X.out 0 rfl
                have fX0 := box_free X.out 0
                have cX1 := box_cell X.out 1 rfl
                have fX1 := box_free X.out 1
                have cX2 := box_cell X.out 2 rfl
                have fX2 := box_free X.out 2
                have cX3 := box_cell X.out 3 rfl
                have fX3 := box_free X.out 3
                have cX4 := box_cell X.out 4 rfl
                have fX4 := box_free X.out 4
                have cY0 := box_cell Y.out 0 rfl
                have fY0 := box_free Y.out 0
                have cY1 := box_cell Y.out 1 rfl
                have fY1 := box_free Y.out 1
                have cZ0 := box_cell Z.out 0 rfl
                have fZ0 := box_free Z.out 0
                have cZ1 := box_cell Z.out 1 rfl
                have fZ1 := box_free Z.out 1
                have cZ2 := box_cell Z.out 2 rfl
                have fZ2 := box_free Z.out 2
                have cZ3 := box_cell Z.out 3 rfl
                have fZ3 := box_free Z.out 3
                have cZ4 := box_cell Z.out 4 rfl
                have fZ4 := box_free Z.out 4
                go_wp2
                have K := box5 (set5_box (.int .i64 br) (.int .i64 bn) (.int .i64 br) (.int .i64 bn) (.string x) Z.out)
                simp only [set5] at K
                obtain ⟨⟨k0, k1, k2, k3, k4⟩, _⟩ := K
                refine bodyPost_ret (v := .tuple #[.agg #[.int .i64 br, .int .i64 bn, .int .i64 br, .int .i64 bn, .string x], .bool true]) (by simp [results, Try.results9, go_sem, k0, k1, k2, k3, k4]) rfl ⟨rfl, ?_⟩
                exact set5_below _ _ _ _ _ B.out (by omega)
              | false =>
                rw [s2] at s3
                rw [s3]
                clear s1
                simp only [Bool.false_and, Bool.and_false, Bool.true_and, Bool.and_true, Bool.not_true, Bool.not_false, Bool.false_eq_true, if_true, if_false, beq_self_eq_true]
                go_enter Try.func9, Try.ntmps9
                go_wp2_with fail
                refine (AR.out _).mono ?_
                rintro e w1 ⟨rfl, bb⟩
                have X : Hid (w1.heap[w.heap.size]? = some (.cells #[.int .i64 pr, .int .i64 pn, .int .i64 br, .int .i64 bn, .string v] 25)) := hide (Below.at bb (by have hnew := box_alloc (box_alloc (heap_alloc_new w (.cells #[.int .i64 pr, .int .i64 pn, .int .i64 br, .int .i64 bn, .string v] 25)) (.cells #[.int .i64 br, .int .i64 bn] 23)) (.cells #[.int .i64 0, .int .i64 0, .int .i64 0, .int .i64 0, .string ⟨#[]⟩] 25); simpa using hnew))
                have Y : Hid (w1.heap[w.heap.size + 1]? = some (.cells #[.int .i64 br, .int .i64 bn] 23)) := hide (Below.at bb (by have hnew := box_alloc (heap_alloc_new (w.alloc (.cells #[.int .i64 pr, .int .i64 pn, .int .i64 br, .int .i64 bn, .string v] 25)) (.cells #[.int .i64 br, .int .i64 bn] 23)) (.cells #[.int .i64 0, .int .i64 0, .int .i64 0, .int .i64 0, .string ⟨#[]⟩] 25); simpa using hnew))
                have Z : Hid (w1.heap[w.heap.size + 2]? = some (.cells #[.int .i64 0, .int .i64 0, .int .i64 0, .int .i64 0, .string ⟨#[]⟩] 25)) := hide (Below.at bb (by have hnew := heap_alloc_new ((w.alloc (.cells #[.int .i64 pr, .int .i64 pn, .int .i64 br, .int .i64 bn, .string v] 25)).alloc (.cells #[.int .i64 br, .int .i64 bn] 23)) (.cells #[.int .i64 0, .int .i64 0, .int .i64 0, .int .i64 0, .string ⟨#[]⟩] 25); simpa using hnew))
                have B := hide (bthen (below_new (below_new (below_new (Below.refl _ w) (.cells #[.int .i64 pr, .int .i64 pn, .int .i64 br, .int .i64 bn, .string v] 25)) (.cells #[.int .i64 br, .int .i64 bn] 23)) (.cells #[.int .i64 0, .int .i64 0, .int .i64 0, .int .i64 0, .string ⟨#[]⟩] 25)) bb)
                clear bb
                have cX0 := box_cell X.out 0 rfl
                have cX1 := box_cell X.out 1 rfl
                have cX2 := box_cell X.out 2 rfl
                have cX3 := box_cell X.out 3 rfl
                have cX4 := box_cell X.out 4 rfl
                have cY0 := box_cell Y.out 0 rfl
                have cY1 := box_cell Y.out 1 rfl
                go_wp2_with fail
                refine (RB.out _).mono ?_
                rintro e w2 ⟨rfl, bb⟩
                clear cX0 cX1 cX2 cX3 cX4 cY0 cY1
                replace X := hide (Below.at bb X.out)
                replace Y := hide (Below.at bb Y.out)
                replace Z := hide (Below.at bb Z.out)
                replace B := hide (bthen B.out bb)
                clear bb
                have cX0 := box_cell X.out 0 rfl
                have cX1 := box_cell X.out 1 rfl
                have cX2 := box_cell X.out 2 rfl
                have cX3 := box_cell X.out 3 rfl
                have cX4 := box_cell X.out 4 rfl
                have cY0 := box_cell Y.out 0 rfl
                have cY1 := box_cell Y.out 1 rfl
                go_wp2_with fail
                refine (LS.out _).mono ?_
                rintro e w3 ⟨rfl, bb⟩
                clear cX0 cX1 cX2 cX3 cX4 cY0 cY1
                replace X := hide (Below.at bb X.out)
                replace Y := hide (Below.at bb Y.out)
                replace Z := hide (Below.at bb Z.out)
                replace B := hide (bthen B.out bb)
                clear bb
                have cX0 := box_cell X.out 0 rfl
                have fX0 := box_free X.out 0
                have cX1 := box_cell X.out 1 rfl
                have fX1 := box_free X.out 1
                have cX2 := box_cell X.out 2 rfl
                have fX2 := box_free X.out 2
                have cX3 := box_cell X.out 3 rfl
                have fX3 := box_free X.out 3
                have cX4 := box_cell X.out 4 rfl
                have fX4 := box_free X.out 4
                have cY0 := box_cell Y.out 0 rfl
                have fY0 := box_free Y.out 0
                have cY1 := box_cell Y.out 1 rfl
                have fY1 := box_free Y.out 1
                have cZ0 := box_cell Z.out 0 rfl
                have fZ0 := box_free Z.out 0
                have cZ1 := box_cell Z.out 1 rfl
                have fZ1 := box_free Z.out 1
                have cZ2 := box_cell Z.out 2 rfl
                have fZ2 := box_free Z.out 2
                have cZ3 := box_cell Z.out 3 rfl
                have fZ3 := box_free Z.out 3
                have cZ4 := box_cell Z.out 4 rfl
                have fZ4 := box_free Z.out 4
                go_wp2
                have K := box5 (set5_box (.int .i64 pr) (.int .i64 pn) (.int .i64 br) (.int .i64 bn) (.string v) Z.out)
                simp only [set5] at K
                obtain ⟨⟨k0, k1, k2, k3, k4⟩, _⟩ := K
                refine bodyPost_ret (v := .tuple #[.agg #[.int .i64 pr, .int .i64 pn, .int .i64 br, .int .i64 bn, .string v], .bool false]) (by simp [results, Try.results9, go_sem, k0, k1, k2, k3, k4]) rfl ⟨rfl, ?_⟩
                exact set5_below _ _ _ _ _ B.out (by omega)
            · have g : (bn == tn) = false := by rw [beq_eq_false_iff_ne]; exact h2
              rw [g]
              simp only [Bool.false_and, Bool.and_false, Bool.true_and, Bool.and_true, Bool.not_true, Bool.not_false, Bool.false_eq_true, if_true, if_false, beq_self_eq_true]
              go_enter Try.func9, Try.ntmps9
              go_wp2_with fail
              refine (AR.out _).mono ?_
              rintro e w1 ⟨rfl, bb⟩
              have X : Hid (w1.heap[w.heap.size]? = some (.cells #[.int .i64 pr, .int .i64 pn, .int .i64 br, .int .i64 tn, .string v] 25)) := hide (Below.at bb (by have hnew := box_alloc (box_alloc (heap_alloc_new w (.cells #[.int .i64 pr, .int .i64 pn, .int .i64 br, .int .i64 tn, .string v] 25)) (.cells #[.int .i64 br, .int .i64 bn] 23)) (.cells #[.int .i64 0, .int .i64 0, .int .i64 0, .int .i64 0, .string ⟨#[]⟩] 25); simpa using hnew))
              have Y : Hid (w1.heap[w.heap.size + 1]? = some (.cells #[.int .i64 br, .int .i64 bn] 23)) := hide (Below.at bb (by have hnew := box_alloc (heap_alloc_new (w.alloc (.cells #[.int .i64 pr, .int .i64 pn, .int .i64 br, .int .i64 tn, .string v] 25)) (.cells #[.int .i64 br, .int .i64 bn] 23)) (.cells #[.int .i64 0, .int .i64 0, .int .i64 0, .int .i64 0, .string ⟨#[]⟩] 25); simpa using hnew))
              have Z : Hid (w1.heap[w.heap.size + 2]? = some (.cells #[.int .i64 0, .int .i64 0, .int .i64 0, .int .i64 0, .string ⟨#[]⟩] 25)) := hide (Below.at bb (by have hnew := heap_alloc_new ((w.alloc (.cells #[.int .i64 pr, .int .i64 pn, .int .i64 br, .int .i64 tn, .string v] 25)).alloc (.cells #[.int .i64 br, .int .i64 bn] 23)) (.cells #[.int .i64 0, .int .i64 0, .int .i64 0, .int .i64 0, .string ⟨#[]⟩] 25); simpa using hnew))
              have B := hide (bthen (below_new (below_new (below_new (Below.refl _ w) (.cells #[.int .i64 pr, .int .i64 pn, .int .i64 br, .int .i64 tn, .string v] 25)) (.cells #[.int .i64 br, .int .i64 bn] 23)) (.cells #[.int .i64 0, .int .i64 0, .int .i64 0, .int .i64 0, .string ⟨#[]⟩] 25)) bb)
              clear bb
              have cX0 := box_cell X.out 0 rfl
              have cX1 := box_cell X.out 1 rfl
              have cX2 := box_cell X.out 2 rfl
              have cX3 := box_cell X.out 3 rfl
              have cX4 := box_cell X.out 4 rfl
              have cY0 := box_cell Y.out 0 rfl
              have cY1 := box_cell Y.out 1 rfl
              go_wp2_with fail
              refine (RB.out _).mono ?_
              rintro e w2 ⟨rfl, bb⟩
              clear cX0 cX1 cX2 cX3 cX4 cY0 cY1
              replace X := hide (Below.at bb X.out)
              replace Y := hide (Below.at bb Y.out)
              replace Z := hide (Below.at bb Z.out)
              replace B := hide (bthen B.out bb)
              clear bb
              have cX0 := box_cell X.out 0 rfl
              have cX1 := box_cell X.out 1 rfl
              have cX2 := box_cell X.out 2 rfl
              have cX3 := box_cell X.out 3 rfl
              have cX4 := box_cell X.out 4 rfl
              have cY0 := box_cell Y.out 0 rfl
              have cY1 := box_cell Y.out 1 rfl
              go_wp2_with fail
              refine (LS.out _).mono ?_
              rintro e w3 ⟨rfl, bb⟩
              clear cX0 cX1 cX2 cX3 cX4 cY0 cY1
              replace X := hide (Below.at bb X.out)
              replace Y := hide (Below.at bb Y.out)
              replace Z := hide (Below.at bb Z.out)
              replace B := hide (bthen B.out bb)
              clear bb
              have cX0 := box_cell X.out 0 rfl
              have fX0 := box_free X.out 0
              have cX1 := box_cell X.out 1 rfl
              have fX1 := box_free X.out 1
              have cX2 := box_cell X.out 2 rfl
              have fX2 := box_free X.out 2
              have cX3 := box_cell X.out 3 rfl
              have fX3 := box_free X.out 3
              have cX4 := box_cell X.out 4 rfl
              have fX4 := box_free X.out 4
              have cY0 := box_cell Y.out 0 rfl
              have fY0 := box_free Y.out 0
              have cY1 := box_cell Y.out 1 rfl
              have fY1 := box_free Y.out 1
              have cZ0 := box_cell Z.out 0 rfl
              have fZ0 := box_free Z.out 0
              have cZ1 := box_cell Z.out 1 rfl
              have fZ1 := box_free Z.out 1
              have cZ2 := box_cell Z.out 2 rfl
              have fZ2 := box_free Z.out 2
              have cZ3 := box_cell Z.out 3 rfl
              have fZ3 := box_free Z.out 3
              have cZ4 := box_cell Z.out 4 rfl
              have fZ4 := box_free Z.out 4
              go_wp2
              have K := box5 (set5_box (.int .i64 br) (.int .i64 bn) (.int .i64 br) (.int .i64 bn) (.string x) Z.out)
              simp only [set5] at K
              obtain ⟨⟨k0, k1, k2, k3, k4⟩, _⟩ := K
              refine bodyPost_ret (v := .tuple #[.agg #[.int .i64 br, .int .i64 bn, .int .i64 br, .int .i64 bn, .string x], .bool true]) (by simp [results, Try.results9, go_sem, k0, k1, k2, k3, k4]) rfl ⟨rfl, ?_⟩
              exact set5_below _ _ _ _ _ B.out (by omega)
          · have g : (br == tr) = false := by rw [beq_eq_false_iff_ne]; exact h1
            rw [g]
            simp only [Bool.false_and, Bool.and_false, Bool.true_and, Bool.and_true, Bool.not_true, Bool.not_false, Bool.false_eq_true, if_true, if_false, beq_self_eq_true]
            go_enter Try.func9, Try.ntmps9
            go_wp2_with fail
            refine (AR.out _).mono ?_
            rintro e w1 ⟨rfl, bb⟩
            have X : Hid (w1.heap[w.heap.size]? = some (.cells #[.int .i64 pr, .int .i64 pn, .int .i64 tr, .int .i64 tn, .string v] 25)) := hide (Below.at bb (by have hnew := box_alloc (box_alloc (heap_alloc_new w (.cells #[.int .i64 pr, .int .i64 pn, .int .i64 tr, .int .i64 tn, .string v] 25)) (.cells #[.int .i64 br, .int .i64 bn] 23)) (.cells #[.int .i64 0, .int .i64 0, .int .i64 0, .int .i64 0, .string ⟨#[]⟩] 25); simpa using hnew))
            have Y : Hid (w1.heap[w.heap.size + 1]? = some (.cells #[.int .i64 br, .int .i64 bn] 23)) := hide (Below.at bb (by have hnew := box_alloc (heap_alloc_new (w.alloc (.cells #[.int .i64 pr, .int .i64 pn, .int .i64 tr, .int .i64 tn, .string v] 25)) (.cells #[.int .i64 br, .int .i64 bn] 23)) (.cells #[.int .i64 0, .int .i64 0, .int .i64 0, .int .i64 0, .string ⟨#[]⟩] 25); simpa using hnew))
            have Z : Hid (w1.heap[w.heap.size + 2]? = some (.cells #[.int .i64 0, .int .i64 0, .int .i64 0, .int .i64 0, .string ⟨#[]⟩] 25)) := hide (Below.at bb (by have hnew := heap_alloc_new ((w.alloc (.cells #[.int .i64 pr, .int .i64 pn, .int .i64 tr, .int .i64 tn, .string v] 25)).alloc (.cells #[.int .i64 br, .int .i64 bn] 23)) (.cells #[.int .i64 0, .int .i64 0, .int .i64 0, .int .i64 0, .string ⟨#[]⟩] 25); simpa using hnew))
            have B := hide (bthen (below_new (below_new (below_new (Below.refl _ w) (.cells #[.int .i64 pr, .int .i64 pn, .int .i64 tr, .int .i64 tn, .string v] 25)) (.cells #[.int .i64 br, .int .i64 bn] 23)) (.cells #[.int .i64 0, .int .i64 0, .int .i64 0, .int .i64 0, .string ⟨#[]⟩] 25)) bb)
            clear bb
            have cX0 := box_cell X.out 0 rfl
            have cX1 := box_cell X.out 1 rfl
            have cX2 := box_cell X.out 2 rfl
            have cX3 := box_cell X.out 3 rfl
            have cX4 := box_cell X.out 4 rfl
            have cY0 := box_cell Y.out 0 rfl
            have cY1 := box_cell Y.out 1 rfl
            go_wp2_with fail
            refine (RB.out _).mono ?_
            rintro e w2 ⟨rfl, bb⟩
            clear cX0 cX1 cX2 cX3 cX4 cY0 cY1
            replace X := hide (Below.at bb X.out)
            replace Y := hide (Below.at bb Y.out)
            replace Z := hide (Below.at bb Z.out)
            replace B := hide (bthen B.out bb)
            clear bb
            have cX0 := box_cell X.out 0 rfl
            have cX1 := box_cell X.out 1 rfl
            have cX2 := box_cell X.out 2 rfl
            have cX3 := box_cell X.out 3 rfl
            have cX4 := box_cell X.out 4 rfl
            have cY0 := box_cell Y.out 0 rfl
            have cY1 := box_cell Y.out 1 rfl
            go_wp2_with fail
            refine (LS.out _).mono ?_
            rintro e w3 ⟨rfl, bb⟩
            clear cX0 cX1 cX2 cX3 cX4 cY0 cY1
            replace X := hide (Below.at bb X.out)
            replace Y := hide (Below.at bb Y.out)
            replace Z := hide (Below.at bb Z.out)
            replace B := hide (bthen B.out bb)
            clear bb
            have cX0 := box_cell X.out 0 rfl
            have fX0 := box_free X.out 0
            have cX1 := box_cell X.out 1 rfl
            have fX1 := box_free X.out 1
            have cX2 := box_cell X.out 2 rfl
            have fX2 := box_free X.out 2
            have cX3 := box_cell X.out 3 rfl
            have fX3 := box_free X.out 3
            have cX4 := box_cell X.out 4 rfl
            have fX4 := box_free X.out 4
            have cY0 := box_cell Y.out 0 rfl
            have fY0 := box_free Y.out 0
            have cY1 := box_cell Y.out 1 rfl
            have fY1 := box_free Y.out 1
            have cZ0 := box_cell Z.out 0 rfl
            have fZ0 := box_free Z.out 0
            have cZ1 := box_cell Z.out 1 rfl
            have fZ1 := box_free Z.out 1
            have cZ2 := box_cell Z.out 2 rfl
            have fZ2 := box_free Z.out 2
            have cZ3 := box_cell Z.out 3 rfl
            have fZ3 := box_free Z.out 3
            have cZ4 := box_cell Z.out 4 rfl
            have fZ4 := box_free Z.out 4
            go_wp2
            have K := box5 (set5_box (.int .i64 br) (.int .i64 bn) (.int .i64 br) (.int .i64 bn) (.string x) Z.out)
            simp only [set5] at K
            obtain ⟨⟨k0, k1, k2, k3, k4⟩, _⟩ := K
            refine bodyPost_ret (v := .tuple #[.agg #[.int .i64 br, .int .i64 bn, .int .i64 br, .int .i64 bn, .string x], .bool true]) (by simp [results, Try.results9, go_sem, k0, k1, k2, k3, k4]) rfl ⟨rfl, ?_⟩
            exact set5_below _ _ _ _ _ B.out (by omega)
        · rw [decide_eq_false s1]
          have s1' : (x.size : Int) > 100000 := by omega
          simp only [Bool.false_and, Bool.and_false, Bool.true_and, Bool.and_true, Bool.not_true, Bool.not_false, Bool.false_eq_true, if_true, if_false, beq_self_eq_true]
          go_enter Try.func9, Try.ntmps9
          go_wp2_with fail
          refine (AR.out _).mono ?_
          rintro e w1 ⟨rfl, bb⟩
          have X : Hid (w1.heap[w.heap.size]? = some (.cells #[.int .i64 pr, .int .i64 pn, .int .i64 tr, .int .i64 tn, .string v] 25)) := hide (Below.at bb (by have hnew := box_alloc (box_alloc (heap_alloc_new w (.cells #[.int .i64 pr, .int .i64 pn, .int .i64 tr, .int .i64 tn, .string v] 25)) (.cells #[.int .i64 br, .int .i64 bn] 23)) (.cells #[.int .i64 0, .int .i64 0, .int .i64 0, .int .i64 0, .string ⟨#[]⟩] 25); simpa using hnew))
          have Y : Hid (w1.heap[w.heap.size + 1]? = some (.cells #[.int .i64 br, .int .i64 bn] 23)) := hide (Below.at bb (by have hnew := box_alloc (heap_alloc_new (w.alloc (.cells #[.int .i64 pr, .int .i64 pn, .int .i64 tr, .int .i64 tn, .string v] 25)) (.cells #[.int .i64 br, .int .i64 bn] 23)) (.cells #[.int .i64 0, .int .i64 0, .int .i64 0, .int .i64 0, .string ⟨#[]⟩] 25); simpa using hnew))
          have Z : Hid (w1.heap[w.heap.size + 2]? = some (.cells #[.int .i64 0, .int .i64 0, .int .i64 0, .int .i64 0, .string ⟨#[]⟩] 25)) := hide (Below.at bb (by have hnew := heap_alloc_new ((w.alloc (.cells #[.int .i64 pr, .int .i64 pn, .int .i64 tr, .int .i64 tn, .string v] 25)).alloc (.cells #[.int .i64 br, .int .i64 bn] 23)) (.cells #[.int .i64 0, .int .i64 0, .int .i64 0, .int .i64 0, .string ⟨#[]⟩] 25); simpa using hnew))
          have B := hide (bthen (below_new (below_new (below_new (Below.refl _ w) (.cells #[.int .i64 pr, .int .i64 pn, .int .i64 tr, .int .i64 tn, .string v] 25)) (.cells #[.int .i64 br, .int .i64 bn] 23)) (.cells #[.int .i64 0, .int .i64 0, .int .i64 0, .int .i64 0, .string ⟨#[]⟩] 25)) bb)
          clear bb
          have cX0 := box_cell X.out 0 rfl
          have cX1 := box_cell X.out 1 rfl
          have cX2 := box_cell X.out 2 rfl
          have cX3 := box_cell X.out 3 rfl
          have cX4 := box_cell X.out 4 rfl
          have cY0 := box_cell Y.out 0 rfl
          have cY1 := box_cell Y.out 1 rfl
          go_wp2_with fail
          refine (RB.out _).mono ?_
          rintro e w2 ⟨rfl, bb⟩
          clear cX0 cX1 cX2 cX3 cX4 cY0 cY1
          replace X := hide (Below.at bb X.out)
          replace Y := hide (Below.at bb Y.out)
          replace Z := hide (Below.at bb Z.out)
          replace B := hide (bthen B.out bb)
          clear bb
          have cX0 := box_cell X.out 0 rfl
          have cX1 := box_cell X.out 1 rfl
          have cX2 := box_cell X.out 2 rfl
          have cX3 := box_cell X.out 3 rfl
          have cX4 := box_cell X.out 4 rfl
          have cY0 := box_cell Y.out 0 rfl
          have cY1 := box_cell Y.out 1 rfl
          go_wp2_with fail
          refine (LS.out _).mono ?_
          rintro e w3 ⟨rfl, bb⟩
          clear cX0 cX1 cX2 cX3 cX4 cY0 cY1
          replace X := hide (Below.at bb X.out)
          replace Y := hide (Below.at bb Y.out)
          replace Z := hide (Below.at bb Z.out)
          replace B := hide (bthen B.out bb)
          clear bb
          have cX0 := box_cell X.out 0 rfl
          have fX0 := box_free X.out 0
          have cX1 := box_cell X.out 1 rfl
          have fX1 := box_free X.out 1
          have cX2 := box_cell X.out 2 rfl
          have fX2 := box_free X.out 2
          have cX3 := box_cell X.out 3 rfl
          have fX3 := box_free X.out 3
          have cX4 := box_cell X.out 4 rfl
          have fX4 := box_free X.out 4
          have cY0 := box_cell Y.out 0 rfl
          have fY0 := box_free Y.out 0
          have cY1 := box_cell Y.out 1 rfl
          have fY1 := box_free Y.out 1
          have cZ0 := box_cell Z.out 0 rfl
          have fZ0 := box_free Z.out 0
          have cZ1 := box_cell Z.out 1 rfl
          have fZ1 := box_free Z.out 1
          have cZ2 := box_cell Z.out 2 rfl
          have fZ2 := box_free Z.out 2
          have cZ3 := box_cell Z.out 3 rfl
          have fZ3 := box_free Z.out 3
          have cZ4 := box_cell Z.out 4 rfl
          have fZ4 := box_free Z.out 4
          go_wp2
          have K := box5 (set5_box (.int .i64 pr) (.int .i64 pn) (.int .i64 tr) (.int .i64 tn) (.string v) Z.out)
          simp only [set5] at K
          obtain ⟨⟨k0, k1, k2, k3, k4⟩, _⟩ := K
          refine bodyPost_ret (v := .tuple #[.agg #[.int .i64 pr, .int .i64 pn, .int .i64 tr, .int .i64 tn, .string v], .bool false]) (by simp [results, Try.results9, go_sem, k0, k1, k2, k3, k4]) rfl ⟨rfl, ?_⟩
          exact set5_below _ _ _ _ _ B.out (by omega)

end Go.Proofs.Ytmhkaopbajbmkaa
