/-
  The document's own Right, Less, may, RightAcceptor, as they run (mkr1.py).
-/
import Derived.Test.YtpopamechapmmaaZA2
namespace Go.Proofs.Ytpopamechapmmaa
open Go.RowKit

set_option maxHeartbeats 1000000 in
theorem rright (b : BL) (w : World) : Calls Try.prog 51 #[b.v] w fun e w' => e = .returned (.bool b.right) ∧ Below w.heap.size w w' := by
  obtain ⟨r, n⟩ := b
  simp only [BL.v]
  have HB := hide (below_new (Below.refl w.heap.size w) (.cells #[.int .i64 r, .int .i64 n] 23))
  by_cases h0 : r ≥ 1
  · skip
    by_cases h1 : r ≤ 9007199254740991
    · skip
      by_cases h2 : n ≥ 0
      · skip
        by_cases h3 : n < 7
        · skip
          have e : BL.right ⟨r, n⟩ = true := by unfold BL.right; simp only; exact decide_eq_true (by omega)
          go_enter Try.func51, Try.ntmps51
          rw [e]
          clear e
          go_wp2
          go_ret
          exact ⟨rfl, HB.out⟩
        · skip
          have e : BL.right ⟨r, n⟩ = false := by unfold BL.right; simp only; exact decide_eq_false (by omega)
          go_enter Try.func51, Try.ntmps51
          rw [e]
          clear e
          go_wp2
          go_ret
          exact ⟨rfl, HB.out⟩
      · skip
        have e : BL.right ⟨r, n⟩ = false := by unfold BL.right; simp only; exact decide_eq_false (by omega)
        go_enter Try.func51, Try.ntmps51
        rw [e]
        clear e
        go_wp2
        go_ret
        exact ⟨rfl, HB.out⟩
    · skip
      have e : BL.right ⟨r, n⟩ = false := by unfold BL.right; simp only; exact decide_eq_false (by omega)
      go_enter Try.func51, Try.ntmps51
      rw [e]
      clear e
      go_wp2
      go_ret
      exact ⟨rfl, HB.out⟩
  · skip
    have e : BL.right ⟨r, n⟩ = false := by unfold BL.right; simp only; exact decide_eq_false (by omega)
    go_enter Try.func51, Try.ntmps51
    rw [e]
    clear e
    go_wp2
    go_ret
    exact ⟨rfl, HB.out⟩

set_option maxHeartbeats 1000000 in
theorem rless (a b : BL) (w : World) : Calls Try.prog 36 #[a.v, b.v] w fun e w' => e = .returned (.bool (a.less b)) ∧ Below w.heap.size w w' := by
  obtain ⟨r, n⟩ := a
  obtain ⟨q, m⟩ := b
  simp only [BL.v]
  have HB := hide (below_new (below_new (Below.refl w.heap.size w) (.cells #[.int .i64 r, .int .i64 n] 23)) (.cells #[.int .i64 q, .int .i64 m] 23))
  by_cases h1 : r < q
  · have e : BL.less ⟨r, n⟩ ⟨q, m⟩ = true := decide_eq_true (.inl h1)
    go_enter Try.func36, Try.ntmps36
    rw [e]
    clear e
    go_wp2
    go_ret
    exact ⟨rfl, HB.out⟩
  · by_cases h2 : r = q
    · subst h2
      rw [less_two]
      go_enter Try.func36, Try.ntmps36
      go_wp2
      go_ret
      exact ⟨rfl, HB.out⟩
    · have e : BL.less ⟨r, n⟩ ⟨q, m⟩ = false := by rw [less_ne h2]; exact decide_eq_false h1
      have g : (r == q) = false := by rw [beq_eq_false_iff_ne]; exact h2
      rw [e]
      clear e
      go_enter Try.func36, Try.ntmps36
      go_wp2
      go_ret
      exact ⟨rfl, HB.out⟩
set_option maxHeartbeats 1000000 in
theorem rmay (a : BL) (w : World) : Calls Try.prog 35 #[a.v] w fun e w' => e = .returned (.bool a.may) ∧ Below w.heap.size w w' := by
  have RR := hide (fun W => rright a W)
  unfold BL.may
  generalize a.right = c at *
  obtain ⟨r, n⟩ := a
  rw [none_beq]
  simp only [BL.v] at *
  cases c with
  | true =>
    go_enter Try.func35, Try.ntmps35
    go_wp2_with fail
    refine (RR.out _).mono ?_
    rintro e w1 ⟨rfl, bb⟩
    have X : Hid (w1.heap[w.heap.size]? = some (.cells #[.int .i64 r, .int .i64 n] 23)) := hide (Below.at bb (heap_alloc_new w (.cells #[.int .i64 r, .int .i64 n] 23)))
    have B := hide (bthen (below_new (Below.refl _ w) (.cells #[.int .i64 r, .int .i64 n] 23)) bb)
    clear bb
    have cX0 := box_cell X.out 0 rfl
    have cX1 := box_cell X.out 1 rfl
    go_wp2
    go_ret
    exact ⟨rfl, B.out⟩
  | false =>
    by_cases h1 : r = 0
    · subst h1
      by_cases h2 : n = 0
      · subst h2
        go_enter Try.func35, Try.ntmps35
        go_wp2_with fail
        refine (RR.out _).mono ?_
        rintro e w1 ⟨rfl, bb⟩
        have X : Hid (w1.heap[w.heap.size]? = some (.cells #[.int .i64 0, .int .i64 0] 23)) := hide (Below.at bb (heap_alloc_new w (.cells #[.int .i64 0, .int .i64 0] 23)))
        have B := hide (bthen (below_new (Below.refl _ w) (.cells #[.int .i64 0, .int .i64 0] 23)) bb)
        clear bb
        have cX0 := box_cell X.out 0 rfl
        have cX1 := box_cell X.out 1 rfl
        go_wp2
        go_ret
        exact ⟨rfl, B.out⟩
      · have g : (n == 0) = false := by rw [beq_eq_false_iff_ne]; exact h2
        rw [g]
        go_enter Try.func35, Try.ntmps35
        go_wp2_with fail
        refine (RR.out _).mono ?_
        rintro e w1 ⟨rfl, bb⟩
        have X : Hid (w1.heap[w.heap.size]? = some (.cells #[.int .i64 0, .int .i64 n] 23)) := hide (Below.at bb (heap_alloc_new w (.cells #[.int .i64 0, .int .i64 n] 23)))
        have B := hide (bthen (below_new (Below.refl _ w) (.cells #[.int .i64 0, .int .i64 n] 23)) bb)
        clear bb
        have cX0 := box_cell X.out 0 rfl
        have cX1 := box_cell X.out 1 rfl
        go_wp2
        go_ret
        exact ⟨rfl, B.out⟩
    · have g : (r == 0) = false := by rw [beq_eq_false_iff_ne]; exact h1
      rw [g]
      go_enter Try.func35, Try.ntmps35
      go_wp2_with fail
      refine (RR.out _).mono ?_
      rintro e w1 ⟨rfl, bb⟩
      have X : Hid (w1.heap[w.heap.size]? = some (.cells #[.int .i64 r, .int .i64 n] 23)) := hide (Below.at bb (heap_alloc_new w (.cells #[.int .i64 r, .int .i64 n] 23)))
      have B := hide (bthen (below_new (Below.refl _ w) (.cells #[.int .i64 r, .int .i64 n] 23)) bb)
      clear bb
      have cX0 := box_cell X.out 0 rfl
      have cX1 := box_cell X.out 1 rfl
      go_wp2
      go_ret
      exact ⟨rfl, B.out⟩
set_option maxHeartbeats 8000000 in
set_option linter.unusedSimpArgs false in
theorem rrightA (a : AC) (hz : a.v.size ≤ 281474976710656) (w : World) : Calls Try.prog 18 #[a.d] w fun e w' => e = .returned (.bool a.right) ∧ Below w.heap.size w w' := by
  have MM : Hid (∀ (r n : Int) W, Calls Try.prog 35 #[.agg #[.int .i64 r, .int .i64 n]] W fun e w' => e = .returned (.bool (BL.may ⟨r, n⟩)) ∧ Below W.heap.size W w') := fun r n W => rmay ⟨r, n⟩ W
  have LS := hide (fun W => rless a.p a.t W)
  unfold AC.right
  unfold AC.nothing
  generalize a.p.less a.t = x3 at *
  obtain ⟨⟨pr, pn⟩, ⟨tr, tn⟩, v⟩ := a
  simp only [AC.d, BL.v] at *
  rw [none_beq]
  cases x1 : BL.may ⟨pr, pn⟩ with
  | false =>
    simp only [Bool.false_and, Bool.and_false, Bool.true_and, Bool.and_true, Bool.not_true, Bool.not_false, Bool.true_or, Bool.false_or, Bool.or_true, Bool.or_false, beq_self_eq_true]
    go_enter Try.func18, Try.ntmps18
    go_wp2_with fail
    refine (MM.out _ _ _).mono ?_
    rintro e w1 ⟨rfl, bb⟩
    have X : Hid (w1.heap[w.heap.size]? = some (.cells #[.int .i64 pr, .int .i64 pn, .int .i64 tr, .int .i64 tn, .string v] 25)) := hide (Below.at bb (heap_alloc_new w (.cells #[.int .i64 pr, .int .i64 pn, .int .i64 tr, .int .i64 tn, .string v] 25)))
    have B := hide (bthen (below_new (Below.refl _ w) (.cells #[.int .i64 pr, .int .i64 pn, .int .i64 tr, .int .i64 tn, .string v] 25)) bb)
    clear bb
    have cX0 := box_cell X.out 0 rfl
    have cX1 := box_cell X.out 1 rfl
    have cX2 := box_cell X.out 2 rfl
    have cX3 := box_cell X.out 3 rfl
    have cX4 := box_cell X.out 4 rfl
    go_wp2_with fail
    refine (MM.out _ _ _).mono ?_
    rintro e w2 ⟨rfl, bb⟩
    clear cX0 cX1 cX2 cX3 cX4
    replace X := hide (Below.at bb X.out)
    replace B := hide (bthen B.out bb)
    clear bb
    have cX0 := box_cell X.out 0 rfl
    have cX1 := box_cell X.out 1 rfl
    have cX2 := box_cell X.out 2 rfl
    have cX3 := box_cell X.out 3 rfl
    have cX4 := box_cell X.out 4 rfl
    go_wp2_with fail
    refine (LS.out _).mono ?_
    rintro e w3 ⟨rfl, bb⟩
    clear cX0 cX1 cX2 cX3 cX4
    replace X := hide (Below.at bb X.out)
    replace B := hide (bthen B.out bb)
    clear bb
    have cX0 := box_cell X.out 0 rfl
    have cX1 := box_cell X.out 1 rfl
    have cX2 := box_cell X.out 2 rfl
    have cX3 := box_cell X.out 3 rfl
    have cX4 := box_cell X.out 4 rfl
    go_wp2
    go_ret
    exact ⟨rfl, B.out⟩
  | true =>
    cases x2 : BL.may ⟨tr, tn⟩ with
    | false =>
      simp only [Bool.false_and, Bool.and_false, Bool.true_and, Bool.and_true, Bool.not_true, Bool.not_false, Bool.true_or, Bool.false_or, Bool.or_true, Bool.or_false, beq_self_eq_true]
      go_enter Try.func18, Try.ntmps18
      go_wp2_with fail
      refine (MM.out _ _ _).mono ?_
      rintro e w1 ⟨rfl, bb⟩
      have X : Hid (w1.heap[w.heap.size]? = some (.cells #[.int .i64 pr, .int .i64 pn, .int .i64 tr, .int .i64 tn, .string v] 25)) := hide (Below.at bb (heap_alloc_new w (.cells #[.int .i64 pr, .int .i64 pn, .int .i64 tr, .int .i64 tn, .string v] 25)))
      have B := hide (bthen (below_new (Below.refl _ w) (.cells #[.int .i64 pr, .int .i64 pn, .int .i64 tr, .int .i64 tn, .string v] 25)) bb)
      clear bb
      have cX0 := box_cell X.out 0 rfl
      have cX1 := box_cell X.out 1 rfl
      have cX2 := box_cell X.out 2 rfl
      have cX3 := box_cell X.out 3 rfl
      have cX4 := box_cell X.out 4 rfl
      go_wp2_with fail
      refine (MM.out _ _ _).mono ?_
      rintro e w2 ⟨rfl, bb⟩
      clear cX0 cX1 cX2 cX3 cX4
      replace X := hide (Below.at bb X.out)
      replace B := hide (bthen B.out bb)
      clear bb
      have cX0 := box_cell X.out 0 rfl
      have cX1 := box_cell X.out 1 rfl
      have cX2 := box_cell X.out 2 rfl
      have cX3 := box_cell X.out 3 rfl
      have cX4 := box_cell X.out 4 rfl
      go_wp2_with fail
      refine (LS.out _).mono ?_
      rintro e w3 ⟨rfl, bb⟩
      clear cX0 cX1 cX2 cX3 cX4
      replace X := hide (Below.at bb X.out)
      replace B := hide (bthen B.out bb)
      clear bb
      have cX0 := box_cell X.out 0 rfl
      have cX1 := box_cell X.out 1 rfl
      have cX2 := box_cell X.out 2 rfl
      have cX3 := box_cell X.out 3 rfl
      have cX4 := box_cell X.out 4 rfl
      go_wp2
      go_ret
      exact ⟨rfl, B.out⟩
    | true =>
      cases x3 with
      | false =>
        by_cases s1 : v.size ≤ 100000
        · rw [decide_eq_true s1]
          have s1' : (v.size : Int) ≤ 100000 := by omega
          by_cases h1 : tr = 0
          · subst h1
            by_cases h2 : tn = 0
            · subst h2
              cases s2 : v.toList.isEmpty with
              | true =>
                simp only [Bool.false_and, Bool.and_false, Bool.true_and, Bool.and_true, Bool.not_true, Bool.not_false, Bool.true_or, Bool.false_or, Bool.or_true, Bool.or_false, beq_self_eq_true]
                go_enter Try.func18, Try.ntmps18
                go_wp2_with fail
                refine (MM.out _ _ _).mono ?_
                rintro e w1 ⟨rfl, bb⟩
                have X : Hid (w1.heap[w.heap.size]? = some (.cells #[.int .i64 pr, .int .i64 pn, .int .i64 0, .int .i64 0, .string v] 25)) := hide (Below.at bb (heap_alloc_new w (.cells #[.int .i64 pr, .int .i64 pn, .int .i64 0, .int .i64 0, .string v] 25)))
                have B := hide (bthen (below_new (Below.refl _ w) (.cells #[.int .i64 pr, .int .i64 pn, .int .i64 0, .int .i64 0, .string v] 25)) bb)
                clear bb
                have cX0 := box_cell X.out 0 rfl
                have cX1 := box_cell X.out 1 rfl
                have cX2 := box_cell X.out 2 rfl
                have cX3 := box_cell X.out 3 rfl
                have cX4 := box_cell X.out 4 rfl
                go_wp2_with fail
                refine (MM.out _ _ _).mono ?_
                rintro e w2 ⟨rfl, bb⟩
                clear cX0 cX1 cX2 cX3 cX4
                replace X := hide (Below.at bb X.out)
                replace B := hide (bthen B.out bb)
                clear bb
                have cX0 := box_cell X.out 0 rfl
                have cX1 := box_cell X.out 1 rfl
                have cX2 := box_cell X.out 2 rfl
                have cX3 := box_cell X.out 3 rfl
                have cX4 := box_cell X.out 4 rfl
                go_wp2_with fail
                refine (LS.out _).mono ?_
                rintro e w3 ⟨rfl, bb⟩
                clear cX0 cX1 cX2 cX3 cX4
                replace X := hide (Below.at bb X.out)
                replace B := hide (bthen B.out bb)
                clear bb
                have cX0 := box_cell X.out 0 rfl
                have cX1 := box_cell X.out 1 rfl
                have cX2 := box_cell X.out 2 rfl
                have cX3 := box_cell X.out 3 rfl
                have cX4 := box_cell X.out 4 rfl
                go_wp2
                go_ret
                exact ⟨rfl, B.out⟩
              | false =>
                simp only [Bool.false_and, Bool.and_false, Bool.true_and, Bool.and_true, Bool.not_true, Bool.not_false, Bool.true_or, Bool.false_or, Bool.or_true, Bool.or_false, beq_self_eq_true]
                go_enter Try.func18, Try.ntmps18
                go_wp2_with fail
                refine (MM.out _ _ _).mono ?_
                rintro e w1 ⟨rfl, bb⟩
                have X : Hid (w1.heap[w.heap.size]? = some (.cells #[.int .i64 pr, .int .i64 pn, .int .i64 0, .int .i64 0, .string v] 25)) := hide (Below.at bb (heap_alloc_new w (.cells #[.int .i64 pr, .int .i64 pn, .int .i64 0, .int .i64 0, .string v] 25)))
                have B := hide (bthen (below_new (Below.refl _ w) (.cells #[.int .i64 pr, .int .i64 pn, .int .i64 0, .int .i64 0, .string v] 25)) bb)
                clear bb
                have cX0 := box_cell X.out 0 rfl
                have cX1 := box_cell X.out 1 rfl
                have cX2 := box_cell X.out 2 rfl
                have cX3 := box_cell X.out 3 rfl
                have cX4 := box_cell X.out 4 rfl
                go_wp2_with fail
                refine (MM.out _ _ _).mono ?_
                rintro e w2 ⟨rfl, bb⟩
                clear cX0 cX1 cX2 cX3 cX4
                replace X := hide (Below.at bb X.out)
                replace B := hide (bthen B.out bb)
                clear bb
                have cX0 := box_cell X.out 0 rfl
                have cX1 := box_cell X.out 1 rfl
                have cX2 := box_cell X.out 2 rfl
                have cX3 := box_cell X.out 3 rfl
                have cX4 := box_cell X.out 4 rfl
                go_wp2_with fail
                refine (LS.out _).mono ?_
                rintro e w3 ⟨rfl, bb⟩
                clear cX0 cX1 cX2 cX3 cX4
                replace X := hide (Below.at bb X.out)
                replace B := hide (bthen B.out bb)
                clear bb
                have cX0 := box_cell X.out 0 rfl
                have cX1 := box_cell X.out 1 rfl
                have cX2 := box_cell X.out 2 rfl
                have cX3 := box_cell X.out 3 rfl
                have cX4 := box_cell X.out 4 rfl
                go_wp2
                go_ret
                exact ⟨rfl, B.out⟩
            · have g : (tn == 0) = false := by rw [beq_eq_false_iff_ne]; exact h2
              rw [g]
              simp only [Bool.false_and, Bool.and_false, Bool.true_and, Bool.and_true, Bool.not_true, Bool.not_false, Bool.true_or, Bool.false_or, Bool.or_true, Bool.or_false, beq_self_eq_true]
              go_enter Try.func18, Try.ntmps18
              go_wp2_with fail
              refine (MM.out _ _ _).mono ?_
              rintro e w1 ⟨rfl, bb⟩
              have X : Hid (w1.heap[w.heap.size]? = some (.cells #[.int .i64 pr, .int .i64 pn, .int .i64 0, .int .i64 tn, .string v] 25)) := hide (Below.at bb (heap_alloc_new w (.cells #[.int .i64 pr, .int .i64 pn, .int .i64 0, .int .i64 tn, .string v] 25)))
              have B := hide (bthen (below_new (Below.refl _ w) (.cells #[.int .i64 pr, .int .i64 pn, .int .i64 0, .int .i64 tn, .string v] 25)) bb)
              clear bb
              have cX0 := box_cell X.out 0 rfl
              have cX1 := box_cell X.out 1 rfl
              have cX2 := box_cell X.out 2 rfl
              have cX3 := box_cell X.out 3 rfl
              have cX4 := box_cell X.out 4 rfl
              go_wp2_with fail
              refine (MM.out _ _ _).mono ?_
              rintro e w2 ⟨rfl, bb⟩
              clear cX0 cX1 cX2 cX3 cX4
              replace X := hide (Below.at bb X.out)
              replace B := hide (bthen B.out bb)
              clear bb
              have cX0 := box_cell X.out 0 rfl
              have cX1 := box_cell X.out 1 rfl
              have cX2 := box_cell X.out 2 rfl
              have cX3 := box_cell X.out 3 rfl
              have cX4 := box_cell X.out 4 rfl
              go_wp2_with fail
              refine (LS.out _).mono ?_
              rintro e w3 ⟨rfl, bb⟩
              clear cX0 cX1 cX2 cX3 cX4
              replace X := hide (Below.at bb X.out)
              replace B := hide (bthen B.out bb)
              clear bb
              have cX0 := box_cell X.out 0 rfl
              have cX1 := box_cell X.out 1 rfl
              have cX2 := box_cell X.out 2 rfl
              have cX3 := box_cell X.out 3 rfl
              have cX4 := box_cell X.out 4 rfl
              go_wp2
              go_ret
              exact ⟨rfl, B.out⟩
          · have g : (tr == 0) = false := by rw [beq_eq_false_iff_ne]; exact h1
            rw [g]
            simp only [Bool.false_and, Bool.and_false, Bool.true_and, Bool.and_true, Bool.not_true, Bool.not_false, Bool.true_or, Bool.false_or, Bool.or_true, Bool.or_false, beq_self_eq_true]
            go_enter Try.func18, Try.ntmps18
            go_wp2_with fail
            refine (MM.out _ _ _).mono ?_
            rintro e w1 ⟨rfl, bb⟩
            have X : Hid (w1.heap[w.heap.size]? = some (.cells #[.int .i64 pr, .int .i64 pn, .int .i64 tr, .int .i64 tn, .string v] 25)) := hide (Below.at bb (heap_alloc_new w (.cells #[.int .i64 pr, .int .i64 pn, .int .i64 tr, .int .i64 tn, .string v] 25)))
            have B := hide (bthen (below_new (Below.refl _ w) (.cells #[.int .i64 pr, .int .i64 pn, .int .i64 tr, .int .i64 tn, .string v] 25)) bb)
            clear bb
            have cX0 := box_cell X.out 0 rfl
            have cX1 := box_cell X.out 1 rfl
            have cX2 := box_cell X.out 2 rfl
            have cX3 := box_cell X.out 3 rfl
            have cX4 := box_cell X.out 4 rfl
            go_wp2_with fail
            refine (MM.out _ _ _).mono ?_
            rintro e w2 ⟨rfl, bb⟩
            clear cX0 cX1 cX2 cX3 cX4
            replace X := hide (Below.at bb X.out)
            replace B := hide (bthen B.out bb)
            clear bb
            have cX0 := box_cell X.out 0 rfl
            have cX1 := box_cell X.out 1 rfl
            have cX2 := box_cell X.out 2 rfl
            have cX3 := box_cell X.out 3 rfl
            have cX4 := box_cell X.out 4 rfl
            go_wp2_with fail
            refine (LS.out _).mono ?_
            rintro e w3 ⟨rfl, bb⟩
            clear cX0 cX1 cX2 cX3 cX4
            replace X := hide (Below.at bb X.out)
            replace B := hide (bthen B.out bb)
            clear bb
            have cX0 := box_cell X.out 0 rfl
            have cX1 := box_cell X.out 1 rfl
            have cX2 := box_cell X.out 2 rfl
            have cX3 := box_cell X.out 3 rfl
            have cX4 := box_cell X.out 4 rfl
            go_wp2
            go_ret
            exact ⟨rfl, B.out⟩
        · rw [decide_eq_false s1]
          have s1' : ¬ (v.size : Int) ≤ 100000 := by omega
          simp only [Bool.false_and, Bool.and_false, Bool.true_and, Bool.and_true, Bool.not_true, Bool.not_false, Bool.true_or, Bool.false_or, Bool.or_true, Bool.or_false, beq_self_eq_true]
          go_enter Try.func18, Try.ntmps18
          go_wp2_with fail
          refine (MM.out _ _ _).mono ?_
          rintro e w1 ⟨rfl, bb⟩
          have X : Hid (w1.heap[w.heap.size]? = some (.cells #[.int .i64 pr, .int .i64 pn, .int .i64 tr, .int .i64 tn, .string v] 25)) := hide (Below.at bb (heap_alloc_new w (.cells #[.int .i64 pr, .int .i64 pn, .int .i64 tr, .int .i64 tn, .string v] 25)))
          have B := hide (bthen (below_new (Below.refl _ w) (.cells #[.int .i64 pr, .int .i64 pn, .int .i64 tr, .int .i64 tn, .string v] 25)) bb)
          clear bb
          have cX0 := box_cell X.out 0 rfl
          have cX1 := box_cell X.out 1 rfl
          have cX2 := box_cell X.out 2 rfl
          have cX3 := box_cell X.out 3 rfl
          have cX4 := box_cell X.out 4 rfl
          go_wp2_with fail
          refine (MM.out _ _ _).mono ?_
          rintro e w2 ⟨rfl, bb⟩
          clear cX0 cX1 cX2 cX3 cX4
          replace X := hide (Below.at bb X.out)
          replace B := hide (bthen B.out bb)
          clear bb
          have cX0 := box_cell X.out 0 rfl
          have cX1 := box_cell X.out 1 rfl
          have cX2 := box_cell X.out 2 rfl
          have cX3 := box_cell X.out 3 rfl
          have cX4 := box_cell X.out 4 rfl
          go_wp2_with fail
          refine (LS.out _).mono ?_
          rintro e w3 ⟨rfl, bb⟩
          clear cX0 cX1 cX2 cX3 cX4
          replace X := hide (Below.at bb X.out)
          replace B := hide (bthen B.out bb)
          clear bb
          have cX0 := box_cell X.out 0 rfl
          have cX1 := box_cell X.out 1 rfl
          have cX2 := box_cell X.out 2 rfl
          have cX3 := box_cell X.out 3 rfl
          have cX4 := box_cell X.out 4 rfl
          go_wp2
          go_ret
          exact ⟨rfl, B.out⟩
      | true =>
        simp only [Bool.false_and, Bool.and_false, Bool.true_and, Bool.and_true, Bool.not_true, Bool.not_false, Bool.true_or, Bool.false_or, Bool.or_true, Bool.or_false, beq_self_eq_true]
        go_enter Try.func18, Try.ntmps18
        go_wp2_with fail
        refine (MM.out _ _ _).mono ?_
        rintro e w1 ⟨rfl, bb⟩
        have X : Hid (w1.heap[w.heap.size]? = some (.cells #[.int .i64 pr, .int .i64 pn, .int .i64 tr, .int .i64 tn, .string v] 25)) := hide (Below.at bb (heap_alloc_new w (.cells #[.int .i64 pr, .int .i64 pn, .int .i64 tr, .int .i64 tn, .string v] 25)))
        have B := hide (bthen (below_new (Below.refl _ w) (.cells #[.int .i64 pr, .int .i64 pn, .int .i64 tr, .int .i64 tn, .string v] 25)) bb)
        clear bb
        have cX0 := box_cell X.out 0 rfl
        have cX1 := box_cell X.out 1 rfl
        have cX2 := box_cell X.out 2 rfl
        have cX3 := box_cell X.out 3 rfl
        have cX4 := box_cell X.out 4 rfl
        go_wp2_with fail
        refine (MM.out _ _ _).mono ?_
        rintro e w2 ⟨rfl, bb⟩
        clear cX0 cX1 cX2 cX3 cX4
        replace X := hide (Below.at bb X.out)
        replace B := hide (bthen B.out bb)
        clear bb
        have cX0 := box_cell X.out 0 rfl
        have cX1 := box_cell X.out 1 rfl
        have cX2 := box_cell X.out 2 rfl
        have cX3 := box_cell X.out 3 rfl
        have cX4 := box_cell X.out 4 rfl
        go_wp2_with fail
        refine (LS.out _).mono ?_
        rintro e w3 ⟨rfl, bb⟩
        clear cX0 cX1 cX2 cX3 cX4
        replace X := hide (Below.at bb X.out)
        replace B := hide (bthen B.out bb)
        clear bb
        have cX0 := box_cell X.out 0 rfl
        have cX1 := box_cell X.out 1 rfl
        have cX2 := box_cell X.out 2 rfl
        have cX3 := box_cell X.out 3 rfl
        have cX4 := box_cell X.out 4 rfl
        go_wp2
        go_ret
        exact ⟨rfl, B.out⟩

end Go.Proofs.Ytpopamechapmmaa
