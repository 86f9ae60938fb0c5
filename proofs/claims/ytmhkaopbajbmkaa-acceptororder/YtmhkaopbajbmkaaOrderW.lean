/-
  AcceptorOrder, as it runs (mka3.py).
-/
import Derived.Test.YtmhkaopbajbmkaaA3
namespace Go.Proofs.Ytmhkaopbajbmkaa
open Go.RowKit

theorem less_irr (a : BL) : a.less a = false := less_self a
theorem less_total (a b : BL) (h : a ≠ b) : a.less b = !(b.less a) := by
  obtain ⟨r, n⟩ := a
  obtain ⟨q, m⟩ := b
  have h : ¬ (r = q ∧ n = m) := fun ⟨e, f⟩ => h (by rw [e, f])
  unfold BL.less
  simp only
  by_cases k : q < r ∨ q = r ∧ m < n
  · rw [decide_eq_true k, decide_eq_false (by omega)]; rfl
  · rw [decide_eq_false k, decide_eq_true (by omega)]; rfl
theorem less_trans (a b c : BL) (h : a.less b = true) (k : b.less c = true) : a.less c = true := by
  have h := of_decide_eq_true h
  have k := of_decide_eq_true k
  exact decide_eq_true (by omega)
set_option maxHeartbeats 4000000 in
theorem order_walk (a b c : BL) (w : World) : Calls Try.prog 4 #[a.v, b.v, c.v] w fun e w' => e = .returned (.bool true) ∧ Below w.heap.size w w' := by
  have LS : Hid (∀ (r n q m : Int) W, Calls Try.prog 12 #[.agg #[.int .i64 r, .int .i64 n], .agg #[.int .i64 q, .int .i64 m]] W fun e w' => e = .returned (.bool (BL.less ⟨r, n⟩ ⟨q, m⟩)) ∧ Below W.heap.size W w') := fun r n q m W => less_any ⟨r, n⟩ ⟨q, m⟩ W
  have TR := hide (less_trans a b c)
  have TO := hide (less_total a b)
  obtain ⟨r, n⟩ := a
  obtain ⟨q, m⟩ := b
  obtain ⟨s, k⟩ := c
  simp only [BL.v] at *
  by_cases e1 : r = q
  · subst e1
    by_cases e2 : n = m
    · subst e2
      clear TO TR
      have h1 := less_irr ⟨r, n⟩
      go_enter Try.func4, Try.ntmps4
      go_wp2_with fail
      refine (examples_any _).mono ?_
      rintro e w1 ⟨rfl, bb⟩
      have X : Hid (w1.heap[w.heap.size]? = some (.cells #[.int .i64 r, .int .i64 n] 23)) := hide (Below.at bb (by have hnew := box_alloc (box_alloc (heap_alloc_new w (.cells #[.int .i64 r, .int .i64 n] 23)) (.cells #[.int .i64 r, .int .i64 n] 23)) (.cells #[.int .i64 s, .int .i64 k] 23); simpa using hnew))
      have Y : Hid (w1.heap[w.heap.size + 1]? = some (.cells #[.int .i64 r, .int .i64 n] 23)) := hide (Below.at bb (by have hnew := box_alloc (heap_alloc_new (w.alloc (.cells #[.int .i64 r, .int .i64 n] 23)) (.cells #[.int .i64 r, .int .i64 n] 23)) (.cells #[.int .i64 s, .int .i64 k] 23); simpa using hnew))
      have Z : Hid (w1.heap[w.heap.size + 2]? = some (.cells #[.int .i64 s, .int .i64 k] 23)) := hide (Below.at bb (by have hnew := heap_alloc_new ((w.alloc (.cells #[.int .i64 r, .int .i64 n] 23)).alloc (.cells #[.int .i64 r, .int .i64 n] 23)) (.cells #[.int .i64 s, .int .i64 k] 23); simpa using hnew))
      have B := hide (bthen (below_new (below_new (below_new (Below.refl _ w) (.cells #[.int .i64 r, .int .i64 n] 23)) (.cells #[.int .i64 r, .int .i64 n] 23)) (.cells #[.int .i64 s, .int .i64 k] 23)) bb)
      clear bb
      have cX0 := box_cell X.out 0 rfl
      have cX1 := box_cell X.out 1 rfl
      have cY0 := box_cell Y.out 0 rfl
      have cY1 := box_cell Y.out 1 rfl
      have cZ0 := box_cell Z.out 0 rfl
      have cZ1 := box_cell Z.out 1 rfl
      go_wp2_with fail
      refine (LS.out _ _ _ _ _).mono ?_
      rintro e w2 ⟨rfl, bb⟩
      clear cX0 cX1 cY0 cY1 cZ0 cZ1
      replace X := hide (Below.at bb X.out)
      replace Y := hide (Below.at bb Y.out)
      replace Z := hide (Below.at bb Z.out)
      replace B := hide (bthen B.out bb)
      clear bb
      have cX0 := box_cell X.out 0 rfl
      have cX1 := box_cell X.out 1 rfl
      have cY0 := box_cell Y.out 0 rfl
      have cY1 := box_cell Y.out 1 rfl
      have cZ0 := box_cell Z.out 0 rfl
      have cZ1 := box_cell Z.out 1 rfl
      go_wp2_with fail
      refine (LS.out _ _ _ _ _).mono ?_
      rintro e w3 ⟨rfl, bb⟩
      clear cX0 cX1 cY0 cY1 cZ0 cZ1
      replace X := hide (Below.at bb X.out)
      replace Y := hide (Below.at bb Y.out)
      replace Z := hide (Below.at bb Z.out)
      replace B := hide (bthen B.out bb)
      clear bb
      have cX0 := box_cell X.out 0 rfl
      have cX1 := box_cell X.out 1 rfl
      have cY0 := box_cell Y.out 0 rfl
      have cY1 := box_cell Y.out 1 rfl
      have cZ0 := box_cell Z.out 0 rfl
      have cZ1 := box_cell Z.out 1 rfl
      go_wp2
      go_ret
      exact ⟨rfl, B.out⟩
    · have t := TO.out (fun e => e2 (by injection e))
      have g1 : (n == m) = false := by rw [beq_eq_false_iff_ne]; exact e2
      clear TO e2
      cases h1 : BL.less ⟨r, n⟩ ⟨r, m⟩ with
      | true =>
        have h2 : BL.less ⟨r, m⟩ ⟨r, n⟩ = false := by rw [h1] at t; simpa using t.symm
        clear t
        go_enter Try.func4, Try.ntmps4
        go_wp2_with fail
        refine (examples_any _).mono ?_
        rintro e w1 ⟨rfl, bb⟩
        have X : Hid (w1.heap[w.heap.size]? = some (.cells #[.int .i64 r, .int .i64 n] 23)) := hide (Below.at bb (by have hnew := box_alloc (box_alloc (heap_alloc_new w (.cells #[.int .i64 r, .int .i64 n] 23)) (.cells #[.int .i64 r, .int .i64 m] 23)) (.cells #[.int .i64 s, .int .i64 k] 23); simpa using hnew))
        have Y : Hid (w1.heap[w.heap.size + 1]? = some (.cells #[.int .i64 r, .int .i64 m] 23)) := hide (Below.at bb (by have hnew := box_alloc (heap_alloc_new (w.alloc (.cells #[.int .i64 r, .int .i64 n] 23)) (.cells #[.int .i64 r, .int .i64 m] 23)) (.cells #[.int .i64 s, .int .i64 k] 23); simpa using hnew))
        have Z : Hid (w1.heap[w.heap.size + 2]? = some (.cells #[.int .i64 s, .int .i64 k] 23)) := hide (Below.at bb (by have hnew := heap_alloc_new ((w.alloc (.cells #[.int .i64 r, .int .i64 n] 23)).alloc (.cells #[.int .i64 r, .int .i64 m] 23)) (.cells #[.int .i64 s, .int .i64 k] 23); simpa using hnew))
        have B := hide (bthen (below_new (below_new (below_new (Below.refl _ w) (.cells #[.int .i64 r, .int .i64 n] 23)) (.cells #[.int .i64 r, .int .i64 m] 23)) (.cells #[.int .i64 s, .int .i64 k] 23)) bb)
        clear bb
        have cX0 := box_cell X.out 0 rfl
        have cX1 := box_cell X.out 1 rfl
        have cY0 := box_cell Y.out 0 rfl
        have cY1 := box_cell Y.out 1 rfl
        have cZ0 := box_cell Z.out 0 rfl
        have cZ1 := box_cell Z.out 1 rfl
        go_wp2_with fail
        refine (LS.out _ _ _ _ _).mono ?_
        rintro e w2 ⟨rfl, bb⟩
        clear cX0 cX1 cY0 cY1 cZ0 cZ1
        replace X := hide (Below.at bb X.out)
        replace Y := hide (Below.at bb Y.out)
        replace Z := hide (Below.at bb Z.out)
        replace B := hide (bthen B.out bb)
        clear bb
        have cX0 := box_cell X.out 0 rfl
        have cX1 := box_cell X.out 1 rfl
        have cY0 := box_cell Y.out 0 rfl
        have cY1 := box_cell Y.out 1 rfl
        have cZ0 := box_cell Z.out 0 rfl
        have cZ1 := box_cell Z.out 1 rfl
        go_wp2_with fail
        refine (LS.out _ _ _ _ _).mono ?_
        rintro e w3 ⟨rfl, bb⟩
        clear cX0 cX1 cY0 cY1 cZ0 cZ1
        replace X := hide (Below.at bb X.out)
        replace Y := hide (Below.at bb Y.out)
        replace Z := hide (Below.at bb Z.out)
        replace B := hide (bthen B.out bb)
        clear bb
        have cX0 := box_cell X.out 0 rfl
        have cX1 := box_cell X.out 1 rfl
        have cY0 := box_cell Y.out 0 rfl
        have cY1 := box_cell Y.out 1 rfl
        have cZ0 := box_cell Z.out 0 rfl
        have cZ1 := box_cell Z.out 1 rfl
        go_wp2_with fail
        refine (LS.out _ _ _ _ _).mono ?_
        rintro e w4 ⟨rfl, bb⟩
        clear cX0 cX1 cY0 cY1 cZ0 cZ1
        replace X := hide (Below.at bb X.out)
        replace Y := hide (Below.at bb Y.out)
        replace Z := hide (Below.at bb Z.out)
        replace B := hide (bthen B.out bb)
        clear bb
        cases h3 : BL.less ⟨r, m⟩ ⟨s, k⟩ with
        | false =>
          have cX0 := box_cell X.out 0 rfl
          have cX1 := box_cell X.out 1 rfl
          have cY0 := box_cell Y.out 0 rfl
          have cY1 := box_cell Y.out 1 rfl
          have cZ0 := box_cell Z.out 0 rfl
          have cZ1 := box_cell Z.out 1 rfl
          go_wp2
          go_ret
          exact ⟨rfl, B.out⟩
        | true =>
          have h4 := TR.out h1 h3
          have cX0 := box_cell X.out 0 rfl
          have cX1 := box_cell X.out 1 rfl
          have cY0 := box_cell Y.out 0 rfl
          have cY1 := box_cell Y.out 1 rfl
          have cZ0 := box_cell Z.out 0 rfl
          have cZ1 := box_cell Z.out 1 rfl
          go_wp2_with fail
          refine (LS.out _ _ _ _ _).mono ?_
          rintro e w5 ⟨rfl, bb⟩
          clear cX0 cX1 cY0 cY1 cZ0 cZ1
          replace X := hide (Below.at bb X.out)
          replace Y := hide (Below.at bb Y.out)
          replace Z := hide (Below.at bb Z.out)
          replace B := hide (bthen B.out bb)
          clear bb
          have cX0 := box_cell X.out 0 rfl
          have cX1 := box_cell X.out 1 rfl
          have cY0 := box_cell Y.out 0 rfl
          have cY1 := box_cell Y.out 1 rfl
          have cZ0 := box_cell Z.out 0 rfl
          have cZ1 := box_cell Z.out 1 rfl
          go_wp2
          go_ret
          exact ⟨rfl, B.out⟩
      | false =>
        have h2 : BL.less ⟨r, m⟩ ⟨r, n⟩ = true := by rw [h1] at t; simpa using t.symm
        clear t
        go_enter Try.func4, Try.ntmps4
        go_wp2_with fail
        refine (examples_any _).mono ?_
        rintro e w1 ⟨rfl, bb⟩
        have X : Hid (w1.heap[w.heap.size]? = some (.cells #[.int .i64 r, .int .i64 n] 23)) := hide (Below.at bb (by have hnew := box_alloc (box_alloc (heap_alloc_new w (.cells #[.int .i64 r, .int .i64 n] 23)) (.cells #[.int .i64 r, .int .i64 m] 23)) (.cells #[.int .i64 s, .int .i64 k] 23); simpa using hnew))
        have Y : Hid (w1.heap[w.heap.size + 1]? = some (.cells #[.int .i64 r, .int .i64 m] 23)) := hide (Below.at bb (by have hnew := box_alloc (heap_alloc_new (w.alloc (.cells #[.int .i64 r, .int .i64 n] 23)) (.cells #[.int .i64 r, .int .i64 m] 23)) (.cells #[.int .i64 s, .int .i64 k] 23); simpa using hnew))
        have Z : Hid (w1.heap[w.heap.size + 2]? = some (.cells #[.int .i64 s, .int .i64 k] 23)) := hide (Below.at bb (by have hnew := heap_alloc_new ((w.alloc (.cells #[.int .i64 r, .int .i64 n] 23)).alloc (.cells #[.int .i64 r, .int .i64 m] 23)) (.cells #[.int .i64 s, .int .i64 k] 23); simpa using hnew))
        have B := hide (bthen (below_new (below_new (below_new (Below.refl _ w) (.cells #[.int .i64 r, .int .i64 n] 23)) (.cells #[.int .i64 r, .int .i64 m] 23)) (.cells #[.int .i64 s, .int .i64 k] 23)) bb)
        clear bb
        have cX0 := box_cell X.out 0 rfl
        have cX1 := box_cell X.out 1 rfl
        have cY0 := box_cell Y.out 0 rfl
        have cY1 := box_cell Y.out 1 rfl
        have cZ0 := box_cell Z.out 0 rfl
        have cZ1 := box_cell Z.out 1 rfl
        go_wp2_with fail
        refine (LS.out _ _ _ _ _).mono ?_
        rintro e w2 ⟨rfl, bb⟩
        clear cX0 cX1 cY0 cY1 cZ0 cZ1
        replace X := hide (Below.at bb X.out)
        replace Y := hide (Below.at bb Y.out)
        replace Z := hide (Below.at bb Z.out)
        replace B := hide (bthen B.out bb)
        clear bb
        have cX0 := box_cell X.out 0 rfl
        have cX1 := box_cell X.out 1 rfl
        have cY0 := box_cell Y.out 0 rfl
        have cY1 := box_cell Y.out 1 rfl
        have cZ0 := box_cell Z.out 0 rfl
        have cZ1 := box_cell Z.out 1 rfl
        go_wp2_with fail
        refine (LS.out _ _ _ _ _).mono ?_
        rintro e w3 ⟨rfl, bb⟩
        clear cX0 cX1 cY0 cY1 cZ0 cZ1
        replace X := hide (Below.at bb X.out)
        replace Y := hide (Below.at bb Y.out)
        replace Z := hide (Below.at bb Z.out)
        replace B := hide (bthen B.out bb)
        clear bb
        have cX0 := box_cell X.out 0 rfl
        have cX1 := box_cell X.out 1 rfl
        have cY0 := box_cell Y.out 0 rfl
        have cY1 := box_cell Y.out 1 rfl
        have cZ0 := box_cell Z.out 0 rfl
        have cZ1 := box_cell Z.out 1 rfl
        go_wp2
        go_ret
        exact ⟨rfl, B.out⟩
  · have t := TO.out (fun e => e1 (by injection e))
    have g1 : (r == q) = false := by rw [beq_eq_false_iff_ne]; exact e1
    clear TO e1
    cases h1 : BL.less ⟨r, n⟩ ⟨q, m⟩ with
    | true =>
      have h2 : BL.less ⟨q, m⟩ ⟨r, n⟩ = false := by rw [h1] at t; simpa using t.symm
      clear t
      go_enter Try.func4, Try.ntmps4
      go_wp2_with fail
      refine (examples_any _).mono ?_
      rintro e w1 ⟨rfl, bb⟩
      have X : Hid (w1.heap[w.heap.size]? = some (.cells #[.int .i64 r, .int .i64 n] 23)) := hide (Below.at bb (by have hnew := box_alloc (box_alloc (heap_alloc_new w (.cells #[.int .i64 r, .int .i64 n] 23)) (.cells #[.int .i64 q, .int .i64 m] 23)) (.cells #[.int .i64 s, .int .i64 k] 23); simpa using hnew))
      have Y : Hid (w1.heap[w.heap.size + 1]? = some (.cells #[.int .i64 q, .int .i64 m] 23)) := hide (Below.at bb (by have hnew := box_alloc (heap_alloc_new (w.alloc (.cells #[.int .i64 r, .int .i64 n] 23)) (.cells #[.int .i64 q, .int .i64 m] 23)) (.cells #[.int .i64 s, .int .i64 k] 23); simpa using hnew))
      have Z : Hid (w1.heap[w.heap.size + 2]? = some (.cells #[.int .i64 s, .int .i64 k] 23)) := hide (Below.at bb (by have hnew := heap_alloc_new ((w.alloc (.cells #[.int .i64 r, .int .i64 n] 23)).alloc (.cells #[.int .i64 q, .int .i64 m] 23)) (.cells #[.int .i64 s, .int .i64 k] 23); simpa using hnew))
      have B := hide (bthen (below_new (below_new (below_new (Below.refl _ w) (.cells #[.int .i64 r, .int .i64 n] 23)) (.cells #[.int .i64 q, .int .i64 m] 23)) (.cells #[.int .i64 s, .int .i64 k] 23)) bb)
      clear bb
      have cX0 := box_cell X.out 0 rfl
      have cX1 := box_cell X.out 1 rfl
      have cY0 := box_cell Y.out 0 rfl
      have cY1 := box_cell Y.out 1 rfl
      have cZ0 := box_cell Z.out 0 rfl
      have cZ1 := box_cell Z.out 1 rfl
      go_wp2_with fail
      refine (LS.out _ _ _ _ _).mono ?_
      rintro e w2 ⟨rfl, bb⟩
      clear cX0 cX1 cY0 cY1 cZ0 cZ1
      replace X := hide (Below.at bb X.out)
      replace Y := hide (Below.at bb Y.out)
      replace Z := hide (Below.at bb Z.out)
      replace B := hide (bthen B.out bb)
      clear bb
      have cX0 := box_cell X.out 0 rfl
      have cX1 := box_cell X.out 1 rfl
      have cY0 := box_cell Y.out 0 rfl
      have cY1 := box_cell Y.out 1 rfl
      have cZ0 := box_cell Z.out 0 rfl
      have cZ1 := box_cell Z.out 1 rfl
      go_wp2_with fail
      refine (LS.out _ _ _ _ _).mono ?_
      rintro e w3 ⟨rfl, bb⟩
      clear cX0 cX1 cY0 cY1 cZ0 cZ1
      replace X := hide (Below.at bb X.out)
      replace Y := hide (Below.at bb Y.out)
      replace Z := hide (Below.at bb Z.out)
      replace B := hide (bthen B.out bb)
      clear bb
      have cX0 := box_cell X.out 0 rfl
      have cX1 := box_cell X.out 1 rfl
      have cY0 := box_cell Y.out 0 rfl
      have cY1 := box_cell Y.out 1 rfl
      have cZ0 := box_cell Z.out 0 rfl
      have cZ1 := box_cell Z.out 1 rfl
      go_wp2_with fail
      refine (LS.out _ _ _ _ _).mono ?_
      rintro e w4 ⟨rfl, bb⟩
      clear cX0 cX1 cY0 cY1 cZ0 cZ1
      replace X := hide (Below.at bb X.out)
      replace Y := hide (Below.at bb Y.out)
      replace Z := hide (Below.at bb Z.out)
      replace B := hide (bthen B.out bb)
      clear bb
      cases h3 : BL.less ⟨q, m⟩ ⟨s, k⟩ with
      | false =>
        have cX0 := box_cell X.out 0 rfl
        have cX1 := box_cell X.out 1 rfl
        have cY0 := box_cell Y.out 0 rfl
        have cY1 := box_cell Y.out 1 rfl
        have cZ0 := box_cell Z.out 0 rfl
        have cZ1 := box_cell Z.out 1 rfl
        go_wp2
        go_ret
        exact ⟨rfl, B.out⟩
      | true =>
        have h4 := TR.out h1 h3
        have cX0 := box_cell X.out 0 rfl
        have cX1 := box_cell X.out 1 rfl
        have cY0 := box_cell Y.out 0 rfl
        have cY1 := box_cell Y.out 1 rfl
        have cZ0 := box_cell Z.out 0 rfl
        have cZ1 := box_cell Z.out 1 rfl
        go_wp2_with fail
        refine (LS.out _ _ _ _ _).mono ?_
        rintro e w5 ⟨rfl, bb⟩
        clear cX0 cX1 cY0 cY1 cZ0 cZ1
        replace X := hide (Below.at bb X.out)
        replace Y := hide (Below.at bb Y.out)
        replace Z := hide (Below.at bb Z.out)
        replace B := hide (bthen B.out bb)
        clear bb
        have cX0 := box_cell X.out 0 rfl
        have cX1 := box_cell X.out 1 rfl
        have cY0 := box_cell Y.out 0 rfl
        have cY1 := box_cell Y.out 1 rfl
        have cZ0 := box_cell Z.out 0 rfl
        have cZ1 := box_cell Z.out 1 rfl
        go_wp2
        go_ret
        exact ⟨rfl, B.out⟩
    | false =>
      have h2 : BL.less ⟨q, m⟩ ⟨r, n⟩ = true := by rw [h1] at t; simpa using t.symm
      clear t
      go_enter Try.func4, Try.ntmps4
      go_wp2_with fail
      refine (examples_any _).mono ?_
      rintro e w1 ⟨rfl, bb⟩
      have X : Hid (w1.heap[w.heap.size]? = some (.cells #[.int .i64 r, .int .i64 n] 23)) := hide (Below.at bb (by have hnew := box_alloc (box_alloc (heap_alloc_new w (.cells #[.int .i64 r, .int .i64 n] 23)) (.cells #[.int .i64 q, .int .i64 m] 23)) (.cells #[.int .i64 s, .int .i64 k] 23); simpa using hnew))
      have Y : Hid (w1.heap[w.heap.size + 1]? = some (.cells #[.int .i64 q, .int .i64 m] 23)) := hide (Below.at bb (by have hnew := box_alloc (heap_alloc_new (w.alloc (.cells #[.int .i64 r, .int .i64 n] 23)) (.cells #[.int .i64 q, .int .i64 m] 23)) (.cells #[.int .i64 s, .int .i64 k] 23); simpa using hnew))
      have Z : Hid (w1.heap[w.heap.size + 2]? = some (.cells #[.int .i64 s, .int .i64 k] 23)) := hide (Below.at bb (by have hnew := heap_alloc_new ((w.alloc (.cells #[.int .i64 r, .int .i64 n] 23)).alloc (.cells #[.int .i64 q, .int .i64 m] 23)) (.cells #[.int .i64 s, .int .i64 k] 23); simpa using hnew))
      have B := hide (bthen (below_new (below_new (below_new (Below.refl _ w) (.cells #[.int .i64 r, .int .i64 n] 23)) (.cells #[.int .i64 q, .int .i64 m] 23)) (.cells #[.int .i64 s, .int .i64 k] 23)) bb)
      clear bb
      have cX0 := box_cell X.out 0 rfl
      have cX1 := box_cell X.out 1 rfl
      have cY0 := box_cell Y.out 0 rfl
      have cY1 := box_cell Y.out 1 rfl
      have cZ0 := box_cell Z.out 0 rfl
      have cZ1 := box_cell Z.out 1 rfl
      go_wp2_with fail
      refine (LS.out _ _ _ _ _).mono ?_
      rintro e w2 ⟨rfl, bb⟩
      clear cX0 cX1 cY0 cY1 cZ0 cZ1
      replace X := hide (Below.at bb X.out)
      replace Y := hide (Below.at bb Y.out)
      replace Z := hide (Below.at bb Z.out)
      replace B := hide (bthen B.out bb)
      clear bb
      have cX0 := box_cell X.out 0 rfl
      have cX1 := box_cell X.out 1 rfl
      have cY0 := box_cell Y.out 0 rfl
      have cY1 := box_cell Y.out 1 rfl
      have cZ0 := box_cell Z.out 0 rfl
      have cZ1 := box_cell Z.out 1 rfl
      go_wp2_with fail
      refine (LS.out _ _ _ _ _).mono ?_
      rintro e w3 ⟨rfl, bb⟩
      clear cX0 cX1 cY0 cY1 cZ0 cZ1
      replace X := hide (Below.at bb X.out)
      replace Y := hide (Below.at bb Y.out)
      replace Z := hide (Below.at bb Z.out)
      replace B := hide (bthen B.out bb)
      clear bb
      have cX0 := box_cell X.out 0 rfl
      have cX1 := box_cell X.out 1 rfl
      have cY0 := box_cell Y.out 0 rfl
      have cY1 := box_cell Y.out 1 rfl
      have cZ0 := box_cell Z.out 0 rfl
      have cZ1 := box_cell Z.out 1 rfl
      go_wp2
      go_ret
      exact ⟨rfl, B.out⟩

end Go.Proofs.Ytmhkaopbajbmkaa
