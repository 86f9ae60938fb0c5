/-
  isRight, listens, apart, Prepare, Take as they run (mka2.py).
-/
import Derived.Test.YtpopamechapmmaaZA1
import Derived.Test.YtpopamechapmmaaZCl
namespace Go.Proofs.Ytpopamechapmmaa
open Go.RowKit

structure AC where
  p : BL
  t : BL
  v : ByteArray
def AC.d (a : AC) : Value := .agg #[.int .i64 a.p.r, .int .i64 a.p.n, .int .i64 a.t.r, .int .i64 a.t.n, .string a.v]
def AC.nothing (a : AC) : Bool := a.v.toList.isEmpty
def AC.right (a : AC) : Bool := (a.p.may && a.t.may && !(a.p.less a.t)) && (decide (a.v.size ≤ 100000) && (a.nothing || !a.t.none))
def AC.listens (a : AC) (b : BL) : Bool := a.right && b.right && !(b.less a.p)
def AC.prep (a : AC) (b : BL) : AC := if a.listens b then ⟨b, a.t, a.v⟩ else a
def AC.takes (a : AC) (b : BL) (x : ByteArray) : Bool := a.listens b && decide (x.size ≤ 100000) && !(b.same a.t && x.toList != a.v.toList)
def AC.take (a : AC) (b : BL) (x : ByteArray) : AC := if a.takes b x then ⟨b, b, x⟩ else a
theorem box5 {W : World} {b : Nat} {t : TypeId} {v0 v1 v2 v3 v4 : Value} (h : W.heap[b]? = some (.cells #[v0, v1, v2, v3, v4] t (0, 0))) :
    (W.cell? ⟨b, 0, none⟩ = some v0 ∧ W.cell? ⟨b, 1, none⟩ = some v1 ∧ W.cell? ⟨b, 2, none⟩ = some v2 ∧ W.cell? ⟨b, 3, none⟩ = some v3 ∧ W.cell? ⟨b, 4, none⟩ = some v4) ∧
    (W.frozen? ⟨b, 0, none⟩ = false ∧ W.frozen? ⟨b, 1, none⟩ = false ∧ W.frozen? ⟨b, 2, none⟩ = false ∧ W.frozen? ⟨b, 3, none⟩ = false ∧ W.frozen? ⟨b, 4, none⟩ = false) :=
  ⟨⟨box_cell h 0 rfl, box_cell h 1 rfl, box_cell h 2 rfl, box_cell h 3 rfl, box_cell h 4 rfl⟩, box_free h 0, box_free h 1, box_free h 2, box_free h 3, box_free h 4⟩
theorem box2 {W : World} {b : Nat} {t : TypeId} {v0 v1 : Value} (h : W.heap[b]? = some (.cells #[v0, v1] t (0, 0))) :
    (W.cell? ⟨b, 0, none⟩ = some v0 ∧ W.cell? ⟨b, 1, none⟩ = some v1) ∧ (W.frozen? ⟨b, 0, none⟩ = false ∧ W.frozen? ⟨b, 1, none⟩ = false) :=
  ⟨⟨box_cell h 0 rfl, box_cell h 1 rfl⟩, box_free h 0, box_free h 1⟩

set_option maxHeartbeats 4000000 in
set_option linter.unusedSimpArgs false in
theorem aright (a : AC) (hz : a.v.size ≤ 281474976710656) (w : World) : Calls Try.prog 15 #[a.d] w fun e w' => e = .returned (.bool a.right) ∧ Below w.heap.size w w' := by
  have MM : Hid (∀ (r n : Int) W, Calls Try.prog 28 #[.agg #[.int .i64 r, .int .i64 n]] W fun e w' => e = .returned (.bool (BL.may ⟨r, n⟩)) ∧ Below W.heap.size W w') := fun r n W => may_any ⟨r, n⟩ W
  have LS : Hid (∀ W, Calls Try.prog 13 #[.agg #[.int .i64 a.p.r, .int .i64 a.p.n], .agg #[.int .i64 a.t.r, .int .i64 a.t.n]] W fun e w' => e = .returned (.bool (BL.less a.p a.t)) ∧ Below W.heap.size W w') := fun W => less_any _ _ W
  have NO : Hid (∀ W, Calls Try.prog 29 #[.agg #[.int .i64 a.t.r, .int .i64 a.t.n]] W fun e w' => e = .returned (.bool (BL.none a.t)) ∧ Below W.heap.size W w') := fun W => isNone_any _ W
  unfold AC.right
  unfold AC.nothing
  have X := hide (heap_alloc_new w (.cells #[.int .i64 a.p.r, .int .i64 a.p.n, .int .i64 a.t.r, .int .i64 a.t.n, .string a.v] 25))
  have B := hide (below_new (Below.refl _ w) (.cells #[.int .i64 a.p.r, .int .i64 a.p.n, .int .i64 a.t.r, .int .i64 a.t.n, .string a.v] 25))
  generalize a.p.less a.t = x3 at *
  generalize a.t.none = x4 at *
  obtain ⟨⟨pr, pn⟩, ⟨tr, tn⟩, v⟩ := a
  simp only [AC.d, BL.v] at *
  cases x1 : BL.may ⟨pr, pn⟩ with
  | false =>
    by_cases s1 : v.size ≤ 100000
    · rw [decide_eq_true s1]
      have s1' : (v.size : Int) ≤ 100000 := by omega
      cases s2 : v.toList.isEmpty with
      | true =>
        simp only [Bool.false_and, Bool.and_false, Bool.true_and, Bool.and_true, Bool.not_true, Bool.not_false, Bool.true_or, Bool.false_or]
        go_enter Try.func15, Try.ntmps15
        go_wp2_with (first | (go_at_call 28; first | (refine (MM.out _ _ _).mono ?_; rintro e wn ⟨rfl, bb⟩; replace X := hide (Below.at bb X.out); replace B := hide (bthen B.out bb); obtain ⟨⟨c0, c1, c2, c3, c4⟩, _⟩ := box5 X.out; clear bb)) | (go_at_call 13; first | (refine (LS.out _).mono ?_; rintro e wn ⟨rfl, bb⟩; replace X := hide (Below.at bb X.out); replace B := hide (bthen B.out bb); obtain ⟨⟨c0, c1, c2, c3, c4⟩, _⟩ := box5 X.out; clear bb)) | (go_at_call 29; first | (refine (NO.out _).mono ?_; rintro e wn ⟨rfl, bb⟩; replace X := hide (Below.at bb X.out); replace B := hide (bthen B.out bb); obtain ⟨⟨c0, c1, c2, c3, c4⟩, _⟩ := box5 X.out; clear bb)))
        go_ret
        exact ⟨rfl, B.out⟩
      | false =>
        simp only [Bool.false_and, Bool.and_false, Bool.true_and, Bool.and_true, Bool.not_true, Bool.not_false, Bool.true_or, Bool.false_or]
        go_enter Try.func15, Try.ntmps15
        go_wp2_with (first | (go_at_call 28; first | (refine (MM.out _ _ _).mono ?_; rintro e wn ⟨rfl, bb⟩; replace X := hide (Below.at bb X.out); replace B := hide (bthen B.out bb); obtain ⟨⟨c0, c1, c2, c3, c4⟩, _⟩ := box5 X.out; clear bb)) | (go_at_call 13; first | (refine (LS.out _).mono ?_; rintro e wn ⟨rfl, bb⟩; replace X := hide (Below.at bb X.out); replace B := hide (bthen B.out bb); obtain ⟨⟨c0, c1, c2, c3, c4⟩, _⟩ := box5 X.out; clear bb)) | (go_at_call 29; first | (refine (NO.out _).mono ?_; rintro e wn ⟨rfl, bb⟩; replace X := hide (Below.at bb X.out); replace B := hide (bthen B.out bb); obtain ⟨⟨c0, c1, c2, c3, c4⟩, _⟩ := box5 X.out; clear bb)))
        go_ret
        exact ⟨rfl, B.out⟩
    · rw [decide_eq_false s1]
      have s1' : ¬ (v.size : Int) ≤ 100000 := by omega
      simp only [Bool.false_and, Bool.and_false, Bool.true_and, Bool.and_true, Bool.not_true, Bool.not_false, Bool.true_or, Bool.false_or]
      go_enter Try.func15, Try.ntmps15
      go_wp2_with (first | (go_at_call 28; first | (refine (MM.out _ _ _).mono ?_; rintro e wn ⟨rfl, bb⟩; replace X := hide (Below.at bb X.out); replace B := hide (bthen B.out bb); obtain ⟨⟨c0, c1, c2, c3, c4⟩, _⟩ := box5 X.out; clear bb)) | (go_at_call 13; first | (refine (LS.out _).mono ?_; rintro e wn ⟨rfl, bb⟩; replace X := hide (Below.at bb X.out); replace B := hide (bthen B.out bb); obtain ⟨⟨c0, c1, c2, c3, c4⟩, _⟩ := box5 X.out; clear bb)) | (go_at_call 29; first | (refine (NO.out _).mono ?_; rintro e wn ⟨rfl, bb⟩; replace X := hide (Below.at bb X.out); replace B := hide (bthen B.out bb); obtain ⟨⟨c0, c1, c2, c3, c4⟩, _⟩ := box5 X.out; clear bb)))
      go_ret
      exact ⟨rfl, B.out⟩
  | true =>
    cases x2 : BL.may ⟨tr, tn⟩ with
    | false =>
      by_cases s1 : v.size ≤ 100000
      · rw [decide_eq_true s1]
        have s1' : (v.size : Int) ≤ 100000 := by omega
        cases s2 : v.toList.isEmpty with
        | true =>
          simp only [Bool.false_and, Bool.and_false, Bool.true_and, Bool.and_true, Bool.not_true, Bool.not_false, Bool.true_or, Bool.false_or]
          go_enter Try.func15, Try.ntmps15
          go_wp2_with (first | (go_at_call 28; first | (refine (MM.out _ _ _).mono ?_; rintro e wn ⟨rfl, bb⟩; replace X := hide (Below.at bb X.out); replace B := hide (bthen B.out bb); obtain ⟨⟨c0, c1, c2, c3, c4⟩, _⟩ := box5 X.out; clear bb)) | (go_at_call 13; first | (refine (LS.out _).mono ?_; rintro e wn ⟨rfl, bb⟩; replace X := hide (Below.at bb X.out); replace B := hide (bthen B.out bb); obtain ⟨⟨c0, c1, c2, c3, c4⟩, _⟩ := box5 X.out; clear bb)) | (go_at_call 29; first | (refine (NO.out _).mono ?_; rintro e wn ⟨rfl, bb⟩; replace X := hide (Below.at bb X.out); replace B := hide (bthen B.out bb); obtain ⟨⟨c0, c1, c2, c3, c4⟩, _⟩ := box5 X.out; clear bb)))
          go_ret
          exact ⟨rfl, B.out⟩
        | false =>
          simp only [Bool.false_and, Bool.and_false, Bool.true_and, Bool.and_true, Bool.not_true, Bool.not_false, Bool.true_or, Bool.false_or]
          go_enter Try.func15, Try.ntmps15
          go_wp2_with (first | (go_at_call 28; first | (refine (MM.out _ _ _).mono ?_; rintro e wn ⟨rfl, bb⟩; replace X := hide (Below.at bb X.out); replace B := hide (bthen B.out bb); obtain ⟨⟨c0, c1, c2, c3, c4⟩, _⟩ := box5 X.out; clear bb)) | (go_at_call 13; first | (refine (LS.out _).mono ?_; rintro e wn ⟨rfl, bb⟩; replace X := hide (Below.at bb X.out); replace B := hide (bthen B.out bb); obtain ⟨⟨c0, c1, c2, c3, c4⟩, _⟩ := box5 X.out; clear bb)) | (go_at_call 29; first | (refine (NO.out _).mono ?_; rintro e wn ⟨rfl, bb⟩; replace X := hide (Below.at bb X.out); replace B := hide (bthen B.out bb); obtain ⟨⟨c0, c1, c2, c3, c4⟩, _⟩ := box5 X.out; clear bb)))
          go_ret
          exact ⟨rfl, B.out⟩
      · rw [decide_eq_false s1]
        have s1' : ¬ (v.size : Int) ≤ 100000 := by omega
        simp only [Bool.false_and, Bool.and_false, Bool.true_and, Bool.and_true, Bool.not_true, Bool.not_false, Bool.true_or, Bool.false_or]
        go_enter Try.func15, Try.ntmps15
        go_wp2_with (first | (go_at_call 28; first | (refine (MM.out _ _ _).mono ?_; rintro e wn ⟨rfl, bb⟩; replace X := hide (Below.at bb X.out); replace B := hide (bthen B.out bb); obtain ⟨⟨c0, c1, c2, c3, c4⟩, _⟩ := box5 X.out; clear bb)) | (go_at_call 13; first | (refine (LS.out _).mono ?_; rintro e wn ⟨rfl, bb⟩; replace X := hide (Below.at bb X.out); replace B := hide (bthen B.out bb); obtain ⟨⟨c0, c1, c2, c3, c4⟩, _⟩ := box5 X.out; clear bb)) | (go_at_call 29; first | (refine (NO.out _).mono ?_; rintro e wn ⟨rfl, bb⟩; replace X := hide (Below.at bb X.out); replace B := hide (bthen B.out bb); obtain ⟨⟨c0, c1, c2, c3, c4⟩, _⟩ := box5 X.out; clear bb)))
        go_ret
        exact ⟨rfl, B.out⟩
    | true =>
      cases x3 with
      | false =>
        by_cases s1 : v.size ≤ 100000
        · rw [decide_eq_true s1]
          have s1' : (v.size : Int) ≤ 100000 := by omega
          cases s2 : v.toList.isEmpty with
          | true =>
            simp only [Bool.false_and, Bool.and_false, Bool.true_and, Bool.and_true, Bool.not_true, Bool.not_false, Bool.true_or, Bool.false_or]
            go_enter Try.func15, Try.ntmps15
            go_wp2_with (first | (go_at_call 28; first | (refine (MM.out _ _ _).mono ?_; rintro e wn ⟨rfl, bb⟩; replace X := hide (Below.at bb X.out); replace B := hide (bthen B.out bb); obtain ⟨⟨c0, c1, c2, c3, c4⟩, _⟩ := box5 X.out; clear bb)) | (go_at_call 13; first | (refine (LS.out _).mono ?_; rintro e wn ⟨rfl, bb⟩; replace X := hide (Below.at bb X.out); replace B := hide (bthen B.out bb); obtain ⟨⟨c0, c1, c2, c3, c4⟩, _⟩ := box5 X.out; clear bb)) | (go_at_call 29; first | (refine (NO.out _).mono ?_; rintro e wn ⟨rfl, bb⟩; replace X := hide (Below.at bb X.out); replace B := hide (bthen B.out bb); obtain ⟨⟨c0, c1, c2, c3, c4⟩, _⟩ := box5 X.out; clear bb)))
            go_ret
            exact ⟨rfl, B.out⟩
          | false =>
            simp only [Bool.false_and, Bool.and_false, Bool.true_and, Bool.and_true, Bool.not_true, Bool.not_false, Bool.true_or, Bool.false_or]
            go_enter Try.func15, Try.ntmps15
            go_wp2_with (first | (go_at_call 28; first | (refine (MM.out _ _ _).mono ?_; rintro e wn ⟨rfl, bb⟩; replace X := hide (Below.at bb X.out); replace B := hide (bthen B.out bb); obtain ⟨⟨c0, c1, c2, c3, c4⟩, _⟩ := box5 X.out; clear bb)) | (go_at_call 13; first | (refine (LS.out _).mono ?_; rintro e wn ⟨rfl, bb⟩; replace X := hide (Below.at bb X.out); replace B := hide (bthen B.out bb); obtain ⟨⟨c0, c1, c2, c3, c4⟩, _⟩ := box5 X.out; clear bb)) | (go_at_call 29; first | (refine (NO.out _).mono ?_; rintro e wn ⟨rfl, bb⟩; replace X := hide (Below.at bb X.out); replace B := hide (bthen B.out bb); obtain ⟨⟨c0, c1, c2, c3, c4⟩, _⟩ := box5 X.out; clear bb)))
            go_ret
            exact ⟨rfl, B.out⟩
        · rw [decide_eq_false s1]
          have s1' : ¬ (v.size : Int) ≤ 100000 := by omega
          simp only [Bool.false_and, Bool.and_false, Bool.true_and, Bool.and_true, Bool.not_true, Bool.not_false, Bool.true_or, Bool.false_or]
          go_enter Try.func15, Try.ntmps15
          go_wp2_with (first | (go_at_call 28; first | (refine (MM.out _ _ _).mono ?_; rintro e wn ⟨rfl, bb⟩; replace X := hide (Below.at bb X.out); replace B := hide (bthen B.out bb); obtain ⟨⟨c0, c1, c2, c3, c4⟩, _⟩ := box5 X.out; clear bb)) | (go_at_call 13; first | (refine (LS.out _).mono ?_; rintro e wn ⟨rfl, bb⟩; replace X := hide (Below.at bb X.out); replace B := hide (bthen B.out bb); obtain ⟨⟨c0, c1, c2, c3, c4⟩, _⟩ := box5 X.out; clear bb)) | (go_at_call 29; first | (refine (NO.out _).mono ?_; rintro e wn ⟨rfl, bb⟩; replace X := hide (Below.at bb X.out); replace B := hide (bthen B.out bb); obtain ⟨⟨c0, c1, c2, c3, c4⟩, _⟩ := box5 X.out; clear bb)))
          go_ret
          exact ⟨rfl, B.out⟩
      | true =>
        by_cases s1 : v.size ≤ 100000
        · rw [decide_eq_true s1]
          have s1' : (v.size : Int) ≤ 100000 := by omega
          cases s2 : v.toList.isEmpty with
          | true =>
            simp only [Bool.false_and, Bool.and_false, Bool.true_and, Bool.and_true, Bool.not_true, Bool.not_false, Bool.true_or, Bool.false_or]
            go_enter Try.func15, Try.ntmps15
            go_wp2_with (first | (go_at_call 28; first | (refine (MM.out _ _ _).mono ?_; rintro e wn ⟨rfl, bb⟩; replace X := hide (Below.at bb X.out); replace B := hide (bthen B.out bb); obtain ⟨⟨c0, c1, c2, c3, c4⟩, _⟩ := box5 X.out; clear bb)) | (go_at_call 13; first | (refine (LS.out _).mono ?_; rintro e wn ⟨rfl, bb⟩; replace X := hide (Below.at bb X.out); replace B := hide (bthen B.out bb); obtain ⟨⟨c0, c1, c2, c3, c4⟩, _⟩ := box5 X.out; clear bb)) | (go_at_call 29; first | (refine (NO.out _).mono ?_; rintro e wn ⟨rfl, bb⟩; replace X := hide (Below.at bb X.out); replace B := hide (bthen B.out bb); obtain ⟨⟨c0, c1, c2, c3, c4⟩, _⟩ := box5 X.out; clear bb)))
            go_ret
            exact ⟨rfl, B.out⟩
          | false =>
            simp only [Bool.false_and, Bool.and_false, Bool.true_and, Bool.and_true, Bool.not_true, Bool.not_false, Bool.true_or, Bool.false_or]
            go_enter Try.func15, Try.ntmps15
            go_wp2_with (first | (go_at_call 28; first | (refine (MM.out _ _ _).mono ?_; rintro e wn ⟨rfl, bb⟩; replace X := hide (Below.at bb X.out); replace B := hide (bthen B.out bb); obtain ⟨⟨c0, c1, c2, c3, c4⟩, _⟩ := box5 X.out; clear bb)) | (go_at_call 13; first | (refine (LS.out _).mono ?_; rintro e wn ⟨rfl, bb⟩; replace X := hide (Below.at bb X.out); replace B := hide (bthen B.out bb); obtain ⟨⟨c0, c1, c2, c3, c4⟩, _⟩ := box5 X.out; clear bb)) | (go_at_call 29; first | (refine (NO.out _).mono ?_; rintro e wn ⟨rfl, bb⟩; replace X := hide (Below.at bb X.out); replace B := hide (bthen B.out bb); obtain ⟨⟨c0, c1, c2, c3, c4⟩, _⟩ := box5 X.out; clear bb)))
            go_ret
            exact ⟨rfl, B.out⟩
        · rw [decide_eq_false s1]
          have s1' : ¬ (v.size : Int) ≤ 100000 := by omega
          simp only [Bool.false_and, Bool.and_false, Bool.true_and, Bool.and_true, Bool.not_true, Bool.not_false, Bool.true_or, Bool.false_or]
          go_enter Try.func15, Try.ntmps15
          go_wp2_with (first | (go_at_call 28; first | (refine (MM.out _ _ _).mono ?_; rintro e wn ⟨rfl, bb⟩; replace X := hide (Below.at bb X.out); replace B := hide (bthen B.out bb); obtain ⟨⟨c0, c1, c2, c3, c4⟩, _⟩ := box5 X.out; clear bb)) | (go_at_call 13; first | (refine (LS.out _).mono ?_; rintro e wn ⟨rfl, bb⟩; replace X := hide (Below.at bb X.out); replace B := hide (bthen B.out bb); obtain ⟨⟨c0, c1, c2, c3, c4⟩, _⟩ := box5 X.out; clear bb)) | (go_at_call 29; first | (refine (NO.out _).mono ?_; rintro e wn ⟨rfl, bb⟩; replace X := hide (Below.at bb X.out); replace B := hide (bthen B.out bb); obtain ⟨⟨c0, c1, c2, c3, c4⟩, _⟩ := box5 X.out; clear bb)))
          go_ret
          exact ⟨rfl, B.out⟩

def set5 (W : World) (b : Nat) (x0 x1 x2 x3 x4 : Value) : World := ((((W.setCell ⟨b, 0, none⟩ x0).setCell ⟨b, 1, none⟩ x1).setCell ⟨b, 2, none⟩ x2).setCell ⟨b, 3, none⟩ x3).setCell ⟨b, 4, none⟩ x4
theorem set5_box {W : World} {b : Nat} {t : TypeId} {v0 v1 v2 v3 v4 : Value} (x0 x1 x2 x3 x4 : Value) (h : W.heap[b]? = some (.cells #[v0, v1, v2, v3, v4] t (0, 0))) : (set5 W b x0 x1 x2 x3 x4).heap[b]? = some (.cells #[x0, x1, x2, x3, x4] t (0, 0)) := by
  simp [set5, World.setCell, Array.getElem?_modify, h]
theorem set5_apart {W : World} {b c : Nat} {x : Obj} (x0 x1 x2 x3 x4 : Value) (h : W.heap[c]? = some x) (hc : c ≠ b) : (set5 W b x0 x1 x2 x3 x4).heap[c]? = some x :=
  box_apart (box_apart (box_apart (box_apart (box_apart h hc _ _) hc _ _) hc _ _) hc _ _) hc _ _
theorem set5_below {B : Nat} {w W : World} {b : Nat} (x0 x1 x2 x3 x4 : Value) (h : Below B w W) (hb : B ≤ b) : Below B w (set5 W b x0 x1 x2 x3 x4) :=
  ((((h.setCell hb _).setCell hb _).setCell hb _).setCell hb _).setCell hb _

set_option maxHeartbeats 4000000 in
set_option linter.unusedSimpArgs false in
theorem listens_any (a : AC) (b : BL) (hz : a.v.size ≤ 281474976710656) (w : World) : Calls Try.prog 24 #[a.d, b.v] w fun e w' => e = .returned (.bool (a.listens b)) ∧ Below w.heap.size w w' := by
  have AR := hide (fun W => aright a hz W)
  have RB := hide (fun W => pright b W)
  have LS : Hid (∀ W, Calls Try.prog 13 #[b.v, a.p.v] W fun e w' => e = .returned (.bool (b.less a.p)) ∧ Below W.heap.size W w') := fun W => less_any _ _ W
  unfold AC.listens
  generalize a.right = x1 at *
  generalize b.right = x2 at *
  generalize b.less a.p = x3 at *
  obtain ⟨⟨pr, pn⟩, ⟨tr, tn⟩, v⟩ := a
  obtain ⟨br, bn⟩ := b
  simp only [AC.d, BL.v] at *
  clear hz
  have X := hide (box_alloc (heap_alloc_new w (.cells #[.int .i64 pr, .int .i64 pn, .int .i64 tr, .int .i64 tn, .string v] 25)) (.cells #[.int .i64 br, .int .i64 bn] 23))
  have Y : Hid (((w.alloc (.cells #[.int .i64 pr, .int .i64 pn, .int .i64 tr, .int .i64 tn, .string v] 25)).alloc (.cells #[.int .i64 br, .int .i64 bn] 23)).heap[w.heap.size + 1]? = some (.cells #[.int .i64 br, .int .i64 bn] 23)) := hide (by have := heap_alloc_new (w.alloc (.cells #[.int .i64 pr, .int .i64 pn, .int .i64 tr, .int .i64 tn, .string v] 25)) (.cells #[.int .i64 br, .int .i64 bn] 23); simpa using this)
  have B := hide (below_new (below_new (Below.refl _ w) (.cells #[.int .i64 pr, .int .i64 pn, .int .i64 tr, .int .i64 tn, .string v] 25)) (.cells #[.int .i64 br, .int .i64 bn] 23))
  cases x1 with
  | false =>
    simp only [Bool.false_and, Bool.and_false, Bool.true_and, Bool.and_true, Bool.not_true, Bool.not_false, Bool.true_or, Bool.false_or]
    go_enter Try.func24, Try.ntmps24
    go_wp2_with (first | (go_at_call 15; first | (refine (AR.out _).mono ?_; rintro e wn ⟨rfl, bb⟩; replace X := hide (Below.at bb X.out); replace Y := hide (Below.at bb Y.out); replace B := hide (bthen B.out bb); obtain ⟨⟨c0, c1, c2, c3, c4⟩, _⟩ := box5 X.out; obtain ⟨⟨d0, d1⟩, _⟩ := box2 Y.out; clear bb)) | (go_at_call 14; first | (refine (RB.out _).mono ?_; rintro e wn ⟨rfl, bb⟩; replace X := hide (Below.at bb X.out); replace Y := hide (Below.at bb Y.out); replace B := hide (bthen B.out bb); obtain ⟨⟨c0, c1, c2, c3, c4⟩, _⟩ := box5 X.out; obtain ⟨⟨d0, d1⟩, _⟩ := box2 Y.out; clear bb)) | (go_at_call 13; first | (refine (LS.out _).mono ?_; rintro e wn ⟨rfl, bb⟩; replace X := hide (Below.at bb X.out); replace Y := hide (Below.at bb Y.out); replace B := hide (bthen B.out bb); obtain ⟨⟨c0, c1, c2, c3, c4⟩, _⟩ := box5 X.out; obtain ⟨⟨d0, d1⟩, _⟩ := box2 Y.out; clear bb)))
    go_ret
    exact ⟨rfl, B.out⟩
  | true =>
    cases x2 with
    | false =>
      simp only [Bool.false_and, Bool.and_false, Bool.true_and, Bool.and_true, Bool.not_true, Bool.not_false, Bool.true_or, Bool.false_or]
      go_enter Try.func24, Try.ntmps24
      go_wp2_with (first | (go_at_call 15; first | (refine (AR.out _).mono ?_; rintro e wn ⟨rfl, bb⟩; replace X := hide (Below.at bb X.out); replace Y := hide (Below.at bb Y.out); replace B := hide (bthen B.out bb); obtain ⟨⟨c0, c1, c2, c3, c4⟩, _⟩ := box5 X.out; obtain ⟨⟨d0, d1⟩, _⟩ := box2 Y.out; clear bb)) | (go_at_call 14; first | (refine (RB.out _).mono ?_; rintro e wn ⟨rfl, bb⟩; replace X := hide (Below.at bb X.out); replace Y := hide (Below.at bb Y.out); replace B := hide (bthen B.out bb); obtain ⟨⟨c0, c1, c2, c3, c4⟩, _⟩ := box5 X.out; obtain ⟨⟨d0, d1⟩, _⟩ := box2 Y.out; clear bb)) | (go_at_call 13; first | (refine (LS.out _).mono ?_; rintro e wn ⟨rfl, bb⟩; replace X := hide (Below.at bb X.out); replace Y := hide (Below.at bb Y.out); replace B := hide (bthen B.out bb); obtain ⟨⟨c0, c1, c2, c3, c4⟩, _⟩ := box5 X.out; obtain ⟨⟨d0, d1⟩, _⟩ := box2 Y.out; clear bb)))
      go_ret
      exact ⟨rfl, B.out⟩
    | true =>
      simp only [Bool.false_and, Bool.and_false, Bool.true_and, Bool.and_true, Bool.not_true, Bool.not_false, Bool.true_or, Bool.false_or]
      go_enter Try.func24, Try.ntmps24
      go_wp2_with (first | (go_at_call 15; first | (refine (AR.out _).mono ?_; rintro e wn ⟨rfl, bb⟩; replace X := hide (Below.at bb X.out); replace Y := hide (Below.at bb Y.out); replace B := hide (bthen B.out bb); obtain ⟨⟨c0, c1, c2, c3, c4⟩, _⟩ := box5 X.out; obtain ⟨⟨d0, d1⟩, _⟩ := box2 Y.out; clear bb)) | (go_at_call 14; first | (refine (RB.out _).mono ?_; rintro e wn ⟨rfl, bb⟩; replace X := hide (Below.at bb X.out); replace Y := hide (Below.at bb Y.out); replace B := hide (bthen B.out bb); obtain ⟨⟨c0, c1, c2, c3, c4⟩, _⟩ := box5 X.out; obtain ⟨⟨d0, d1⟩, _⟩ := box2 Y.out; clear bb)) | (go_at_call 13; first | (refine (LS.out _).mono ?_; rintro e wn ⟨rfl, bb⟩; replace X := hide (Below.at bb X.out); replace Y := hide (Below.at bb Y.out); replace B := hide (bthen B.out bb); obtain ⟨⟨c0, c1, c2, c3, c4⟩, _⟩ := box5 X.out; obtain ⟨⟨d0, d1⟩, _⟩ := box2 Y.out; clear bb)))
      go_ret
      exact ⟨rfl, B.out⟩

set_option maxHeartbeats 4000000 in
set_option linter.unusedSimpArgs false in
theorem apart_any (a : AC) (hz : a.v.size ≤ 281474976710656) (w : World) : Calls Try.prog 23 #[a.d] w fun e w' => e = .returned a.d ∧ Below w.heap.size w w' := by
  have CL := hide (fun W => clone_any a.v W hz)
  obtain ⟨⟨pr, pn⟩, ⟨tr, tn⟩, v⟩ := a
  simp only [AC.d] at *
  clear hz
  have X := hide (box_alloc (heap_alloc_new w (.cells #[.int .i64 pr, .int .i64 pn, .int .i64 tr, .int .i64 tn, .string v] 25)) (.cells #[.int .i64 0, .int .i64 0, .int .i64 0, .int .i64 0, .string ⟨#[]⟩] 25))
  have Y : Hid (((w.alloc (.cells #[.int .i64 pr, .int .i64 pn, .int .i64 tr, .int .i64 tn, .string v] 25)).alloc (.cells #[.int .i64 0, .int .i64 0, .int .i64 0, .int .i64 0, .string ⟨#[]⟩] 25)).heap[w.heap.size + 1]? = some (.cells #[.int .i64 0, .int .i64 0, .int .i64 0, .int .i64 0, .string ⟨#[]⟩] 25)) := hide (by have := heap_alloc_new (w.alloc (.cells #[.int .i64 pr, .int .i64 pn, .int .i64 tr, .int .i64 tn, .string v] 25)) (.cells #[.int .i64 0, .int .i64 0, .int .i64 0, .int .i64 0, .string ⟨#[]⟩] 25); simpa using this)
  have B := hide (below_new (below_new (Below.refl _ w) (.cells #[.int .i64 pr, .int .i64 pn, .int .i64 tr, .int .i64 tn, .string v] 25)) (.cells #[.int .i64 0, .int .i64 0, .int .i64 0, .int .i64 0, .string ⟨#[]⟩] 25))
  go_enter Try.func23, Try.ntmps23
  go_wp2_with fail
  refine (CL.out _).mono ?_
  rintro e w1 ⟨rfl, bb⟩
  replace X := hide (Below.at bb X.out)
  replace Y := hide (Below.at bb Y.out)
  replace B := hide (bthen B.out bb)
  clear bb
  obtain ⟨⟨c0, c1, c2, c3, c4⟩, f0, f1, f2, f3, f4⟩ := box5 X.out
  obtain ⟨⟨d0, d1, d2, d3, d4⟩, g0, g1, g2, g3, g4⟩ := box5 Y.out
  go_wp2
  have K := box5 (set5_box (.int .i64 pr) (.int .i64 pn) (.int .i64 tr) (.int .i64 tn) (.string v) (box_apart Y.out (Nat.succ_ne_self _) 4 (.string v)))
  simp only [set5] at K
  obtain ⟨⟨k0, k1, k2, k3, k4⟩, _⟩ := K
  refine bodyPost_ret (v := .agg #[.int .i64 pr, .int .i64 pn, .int .i64 tr, .int .i64 tn, .string v]) (by simp [results, Try.results23, go_sem, k0, k1, k2, k3, k4]) rfl ⟨rfl, ?_⟩
  exact set5_below _ _ _ _ _ (below_set B.out _ _ _ (Nat.le_refl _)) (Nat.le_succ _)

set_option maxHeartbeats 4000000 in
set_option linter.unusedSimpArgs false in
theorem prepare_any (a : AC) (b : BL) (hz : a.v.size ≤ 281474976710656) (w : World) : Calls Try.prog 11 #[a.d, b.v] w fun e w' => e = .returned (.tuple #[(a.prep b).d, .bool (a.listens b)]) ∧ Below w.heap.size w w' := by
  have AP := hide (fun W => apart_any a hz W)
  have LI := hide (fun W => listens_any a b hz W)
  unfold AC.prep
  generalize a.listens b = x1 at *
  obtain ⟨⟨pr, pn⟩, ⟨tr, tn⟩, v⟩ := a
  obtain ⟨br, bn⟩ := b
  simp only [BL.v] at *
  have e1 : AC.d (if x1 = true then ⟨⟨br, bn⟩, ⟨tr, tn⟩, v⟩ else ⟨⟨pr, pn⟩, ⟨tr, tn⟩, v⟩) = bif x1 then .agg #[.int .i64 br, .int .i64 bn, .int .i64 tr, .int .i64 tn, .string v] else .agg #[.int .i64 pr, .int .i64 pn, .int .i64 tr, .int .i64 tn, .string v] := by cases x1 <;> rfl
  rw [e1]
  simp only [AC.d] at *
  clear hz e1
  have X := hide (box_alloc (box_alloc (heap_alloc_new w (.cells #[.int .i64 pr, .int .i64 pn, .int .i64 tr, .int .i64 tn, .string v] 25)) (.cells #[.int .i64 br, .int .i64 bn] 23)) (.cells #[.int .i64 0, .int .i64 0, .int .i64 0, .int .i64 0, .string ⟨#[]⟩] 25))
  have Y : Hid ((((w.alloc (.cells #[.int .i64 pr, .int .i64 pn, .int .i64 tr, .int .i64 tn, .string v] 25)).alloc (.cells #[.int .i64 br, .int .i64 bn] 23)).alloc (.cells #[.int .i64 0, .int .i64 0, .int .i64 0, .int .i64 0, .string ⟨#[]⟩] 25)).heap[w.heap.size + 1]? = some (.cells #[.int .i64 br, .int .i64 bn] 23)) := hide (by have := box_alloc (heap_alloc_new (w.alloc (.cells #[.int .i64 pr, .int .i64 pn, .int .i64 tr, .int .i64 tn, .string v] 25)) (.cells #[.int .i64 br, .int .i64 bn] 23)) (.cells #[.int .i64 0, .int .i64 0, .int .i64 0, .int .i64 0, .string ⟨#[]⟩] 25); simpa using this)
  have Z : Hid ((((w.alloc (.cells #[.int .i64 pr, .int .i64 pn, .int .i64 tr, .int .i64 tn, .string v] 25)).alloc (.cells #[.int .i64 br, .int .i64 bn] 23)).alloc (.cells #[.int .i64 0, .int .i64 0, .int .i64 0, .int .i64 0, .string ⟨#[]⟩] 25)).heap[w.heap.size + 2]? = some (.cells #[.int .i64 0, .int .i64 0, .int .i64 0, .int .i64 0, .string ⟨#[]⟩] 25)) := hide (by have := heap_alloc_new ((w.alloc (.cells #[.int .i64 pr, .int .i64 pn, .int .i64 tr, .int .i64 tn, .string v] 25)).alloc (.cells #[.int .i64 br, .int .i64 bn] 23)) (.cells #[.int .i64 0, .int .i64 0, .int .i64 0, .int .i64 0, .string ⟨#[]⟩] 25); simpa using this)
  have B := hide (below_new (below_new (below_new (Below.refl _ w) (.cells #[.int .i64 pr, .int .i64 pn, .int .i64 tr, .int .i64 tn, .string v] 25)) (.cells #[.int .i64 br, .int .i64 bn] 23)) (.cells #[.int .i64 0, .int .i64 0, .int .i64 0, .int .i64 0, .string ⟨#[]⟩] 25))
  cases x1 with
  | true =>
    go_enter Try.func11, Try.ntmps11
    go_wp2_with fail
    refine (AP.out _).mono ?_
    rintro e w1 ⟨rfl, bb⟩
    replace X := hide (Below.at bb X.out)
    replace Y := hide (Below.at bb Y.out)
    replace Z := hide (Below.at bb Z.out)
    replace B := hide (bthen B.out bb)
    clear bb
    obtain ⟨⟨c0, c1, c2, c3, c4⟩, f0, f1, f2, f3, f4⟩ := box5 X.out
    obtain ⟨⟨d0, d1⟩, _⟩ := box2 Y.out
    go_wp2_with fail
    refine (LI.out _).mono ?_
    rintro e w2 ⟨rfl, bb⟩
    replace X := hide (Below.at bb (set5_box _ _ _ _ _ X.out))
    replace Y := hide (Below.at bb (set5_apart _ _ _ _ _ Y.out (Nat.succ_ne_self _)))
    replace Z := hide (Below.at bb (set5_apart _ _ _ _ _ Z.out (by omega)))
    replace B := hide (bthen (set5_below _ _ _ _ _ B.out (Nat.le_refl _)) bb)
    clear bb c0 c1 c2 c3 c4 f0 f1 f2 f3 f4 d0 d1
    obtain ⟨⟨c0, c1, c2, c3, c4⟩, f0, f1, f2, f3, f4⟩ := box5 X.out
    obtain ⟨⟨d0, d1⟩, _⟩ := box2 Y.out
    obtain ⟨⟨e0, e1, e2, e3, e4⟩, g0, g1, g2, g3, g4⟩ := box5 Z.out
    go_wp2
    have K := box5 (set5_box (.int .i64 br) (.int .i64 bn) (.int .i64 tr) (.int .i64 tn) (.string v) (box_apart (box_apart Z.out (by omega : w.heap.size + 2 ≠ w.heap.size) 0 (.int .i64 br)) (by omega : w.heap.size + 2 ≠ w.heap.size) 1 (.int .i64 bn)))
    simp only [set5] at K
    obtain ⟨⟨k0, k1, k2, k3, k4⟩, _⟩ := K
    refine bodyPost_ret (v := .tuple #[.agg #[.int .i64 br, .int .i64 bn, .int .i64 tr, .int .i64 tn, .string v], .bool true]) (by simp [results, Try.results11, go_sem, k0, k1, k2, k3, k4]) rfl ⟨rfl, ?_⟩
    exact set5_below _ _ _ _ _ (below_set (below_set B.out _ _ _ (Nat.le_refl _)) _ _ _ (Nat.le_refl _)) (by omega)
  | false =>
    go_enter Try.func11, Try.ntmps11
    go_wp2_with fail
    refine (AP.out _).mono ?_
    rintro e w1 ⟨rfl, bb⟩
    replace X := hide (Below.at bb X.out)
    replace Y := hide (Below.at bb Y.out)
    replace Z := hide (Below.at bb Z.out)
    replace B := hide (bthen B.out bb)
    clear bb
    obtain ⟨⟨c0, c1, c2, c3, c4⟩, f0, f1, f2, f3, f4⟩ := box5 X.out
    obtain ⟨⟨d0, d1⟩, _⟩ := box2 Y.out
    go_wp2_with fail
    refine (LI.out _).mono ?_
    rintro e w2 ⟨rfl, bb⟩
    replace X := hide (Below.at bb (set5_box _ _ _ _ _ X.out))
    replace Y := hide (Below.at bb (set5_apart _ _ _ _ _ Y.out (Nat.succ_ne_self _)))
    replace Z := hide (Below.at bb (set5_apart _ _ _ _ _ Z.out (by omega)))
    replace B := hide (bthen (set5_below _ _ _ _ _ B.out (Nat.le_refl _)) bb)
    clear bb c0 c1 c2 c3 c4 f0 f1 f2 f3 f4 d0 d1
    obtain ⟨⟨c0, c1, c2, c3, c4⟩, f0, f1, f2, f3, f4⟩ := box5 X.out
    obtain ⟨⟨d0, d1⟩, _⟩ := box2 Y.out
    obtain ⟨⟨e0, e1, e2, e3, e4⟩, g0, g1, g2, g3, g4⟩ := box5 Z.out
    go_wp2
    have K := box5 (set5_box (.int .i64 pr) (.int .i64 pn) (.int .i64 tr) (.int .i64 tn) (.string v) Z.out)
    simp only [set5] at K
    obtain ⟨⟨k0, k1, k2, k3, k4⟩, _⟩ := K
    refine bodyPost_ret (v := .tuple #[.agg #[.int .i64 pr, .int .i64 pn, .int .i64 tr, .int .i64 tn, .string v], .bool false]) (by simp [results, Try.results11, go_sem, k0, k1, k2, k3, k4]) rfl ⟨rfl, ?_⟩
    exact set5_below _ _ _ _ _ B.out (by omega)

set_option maxHeartbeats 4000000 in
set_option linter.unusedSimpArgs false in
theorem take_any (a : AC) (b : BL) (x : ByteArray) (hz : a.v.size ≤ 281474976710656) (hx : x.size ≤ 281474976710656) (w : World) : Calls Try.prog 12 #[a.d, b.v, .string x] w fun e w' => e = .returned (.tuple #[(a.take b x).d, .bool (a.takes b x)]) ∧ Below w.heap.size w w' := by
  have AP : Hid (∀ (r n q m : Int) (s : ByteArray) W, s.size ≤ 281474976710656 → Calls Try.prog 23 #[.agg #[.int .i64 r, .int .i64 n, .int .i64 q, .int .i64 m, .string s]] W fun e w' => e = .returned (.agg #[.int .i64 r, .int .i64 n, .int .i64 q, .int .i64 m, .string s]) ∧ Below W.heap.size W w') := fun r n q m s W h => apart_any ⟨⟨r, n⟩, ⟨q, m⟩, s⟩ h W
  have LI := hide (fun W => listens_any a b hz W)
  have SA := hide (fun W => same_any b a.t W)
  unfold AC.take
  unfold AC.takes
  generalize a.listens b = x1 at *
  generalize b.same a.t = x2 at *
  have HZ := hide hz
  have HX := hide hx
  obtain ⟨⟨pr, pn⟩, ⟨tr, tn⟩, v⟩ := a
  obtain ⟨br, bn⟩ := b
  simp only [BL.v, AC.d] at *
  have X := hide (box_alloc (box_alloc (heap_alloc_new w (.cells #[.int .i64 pr, .int .i64 pn, .int .i64 tr, .int .i64 tn, .string v] 25)) (.cells #[.int .i64 br, .int .i64 bn] 23)) (.cells #[.int .i64 0, .int .i64 0, .int .i64 0, .int .i64 0, .string ⟨#[]⟩] 25))
  have Y : Hid ((((w.alloc (.cells #[.int .i64 pr, .int .i64 pn, .int .i64 tr, .int .i64 tn, .string v] 25)).alloc (.cells #[.int .i64 br, .int .i64 bn] 23)).alloc (.cells #[.int .i64 0, .int .i64 0, .int .i64 0, .int .i64 0, .string ⟨#[]⟩] 25)).heap[w.heap.size + 1]? = some (.cells #[.int .i64 br, .int .i64 bn] 23)) := hide (by have := box_alloc (heap_alloc_new (w.alloc (.cells #[.int .i64 pr, .int .i64 pn, .int .i64 tr, .int .i64 tn, .string v] 25)) (.cells #[.int .i64 br, .int .i64 bn] 23)) (.cells #[.int .i64 0, .int .i64 0, .int .i64 0, .int .i64 0, .string ⟨#[]⟩] 25); simpa using this)
  have Z : Hid ((((w.alloc (.cells #[.int .i64 pr, .int .i64 pn, .int .i64 tr, .int .i64 tn, .string v] 25)).alloc (.cells #[.int .i64 br, .int .i64 bn] 23)).alloc (.cells #[.int .i64 0, .int .i64 0, .int .i64 0, .int .i64 0, .string ⟨#[]⟩] 25)).heap[w.heap.size + 2]? = some (.cells #[.int .i64 0, .int .i64 0, .int .i64 0, .int .i64 0, .string ⟨#[]⟩] 25)) := hide (by have := heap_alloc_new ((w.alloc (.cells #[.int .i64 pr, .int .i64 pn, .int .i64 tr, .int .i64 tn, .string v] 25)).alloc (.cells #[.int .i64 br, .int .i64 bn] 23)) (.cells #[.int .i64 0, .int .i64 0, .int .i64 0, .int .i64 0, .string ⟨#[]⟩] 25); simpa using this)
  have B := hide (below_new (below_new (below_new (Below.refl _ w) (.cells #[.int .i64 pr, .int .i64 pn, .int .i64 tr, .int .i64 tn, .string v] 25)) (.cells #[.int .i64 br, .int .i64 bn] 23)) (.cells #[.int .i64 0, .int .i64 0, .int .i64 0, .int .i64 0, .string ⟨#[]⟩] 25))
  cases x1 with
  | false =>
    simp only [Bool.false_and, Bool.and_false, Bool.true_and, Bool.and_true, Bool.not_true, Bool.not_false, Bool.false_eq_true, if_true, if_false]
    go_enter Try.func12, Try.ntmps12
    go_wp2_with fail
    refine (LI.out _).mono ?_
    rintro e w1 ⟨rfl, bb⟩
    replace X := hide (Below.at bb X.out)
    replace Y := hide (Below.at bb Y.out)
    replace Z := hide (Below.at bb Z.out)
    replace B := hide (bthen B.out bb)
    clear bb
    obtain ⟨⟨c0, c1, c2, c3, c4⟩, f0, f1, f2, f3, f4⟩ := box5 X.out
    obtain ⟨⟨d0, d1⟩, _⟩ := box2 Y.out
    obtain ⟨⟨e0, e1, e2, e3, e4⟩, g0, g1, g2, g3, g4⟩ := box5 Z.out
    go_wp2_with fail
    refine (AP.out _ _ _ _ _ _ HZ.out).mono ?_
    rintro e w3 ⟨rfl, bb⟩
    clear c0 c1 c2 c3 c4 f0 f1 f2 f3 f4 d0 d1 e0 e1 e2 e3 e4 g0 g1 g2 g3 g4
    replace X := hide (Below.at bb X.out)
    replace Y := hide (Below.at bb Y.out)
    replace Z := hide (Below.at bb Z.out)
    replace B := hide (bthen B.out bb)
    clear bb
    obtain ⟨⟨c0, c1, c2, c3, c4⟩, f0, f1, f2, f3, f4⟩ := box5 X.out
    obtain ⟨⟨d0, d1⟩, _⟩ := box2 Y.out
    obtain ⟨⟨e0, e1, e2, e3, e4⟩, g0, g1, g2, g3, g4⟩ := box5 Z.out
    go_wp2
    have K := box5 (set5_box (.int .i64 pr) (.int .i64 pn) (.int .i64 tr) (.int .i64 tn) (.string v) Z.out)
    simp only [set5] at K
    obtain ⟨⟨k0, k1, k2, k3, k4⟩, _⟩ := K
    refine bodyPost_ret (v := .tuple #[.agg #[.int .i64 pr, .int .i64 pn, .int .i64 tr, .int .i64 tn, .string v], .bool false]) (by simp [results, Try.results12, go_sem, k0, k1, k2, k3, k4]) rfl ⟨rfl, ?_⟩
    exact set5_below _ _ _ _ _ B.out (by omega)
  | true =>
    by_cases s1 : x.size ≤ 100000
    · rw [decide_eq_true s1]
      have s1' : ¬ (x.size : Int) > 100000 := by omega
      cases x2 with
      | false =>
        simp only [Bool.false_and, Bool.and_false, Bool.true_and, Bool.and_true, Bool.not_true, Bool.not_false, Bool.false_eq_true, if_true, if_false]
        go_enter Try.func12, Try.ntmps12
        go_wp2_with fail
        refine (LI.out _).mono ?_
        rintro e w1 ⟨rfl, bb⟩
        replace X := hide (Below.at bb X.out)
        replace Y := hide (Below.at bb Y.out)
        replace Z := hide (Below.at bb Z.out)
        replace B := hide (bthen B.out bb)
        clear bb
        obtain ⟨⟨c0, c1, c2, c3, c4⟩, f0, f1, f2, f3, f4⟩ := box5 X.out
        obtain ⟨⟨d0, d1⟩, _⟩ := box2 Y.out
        obtain ⟨⟨e0, e1, e2, e3, e4⟩, g0, g1, g2, g3, g4⟩ := box5 Z.out
        go_wp2_with fail
        refine (SA.out _).mono ?_
        rintro e w2 ⟨rfl, bb⟩
        clear c0 c1 c2 c3 c4 f0 f1 f2 f3 f4 d0 d1 e0 e1 e2 e3 e4 g0 g1 g2 g3 g4
        replace X := hide (Below.at bb X.out)
        replace Y := hide (Below.at bb Y.out)
        replace Z := hide (Below.at bb Z.out)
        replace B := hide (bthen B.out bb)
        clear bb
        obtain ⟨⟨c0, c1, c2, c3, c4⟩, f0, f1, f2, f3, f4⟩ := box5 X.out
        obtain ⟨⟨d0, d1⟩, _⟩ := box2 Y.out
        obtain ⟨⟨e0, e1, e2, e3, e4⟩, g0, g1, g2, g3, g4⟩ := box5 Z.out
        go_wp2_with fail
        refine (AP.out _ _ _ _ _ _ HX.out).mono ?_
        rintro e w3 ⟨rfl, bb⟩
        clear c0 c1 c2 c3 c4 f0 f1 f2 f3 f4 d0 d1 e0 e1 e2 e3 e4 g0 g1 g2 g3 g4
        replace X := hide (Below.at bb X.out)
        replace Y := hide (Below.at bb Y.out)
        replace Z := hide (Below.at bb Z.out)
        replace B := hide (bthen B.out bb)
        clear bb
        obtain ⟨⟨c0, c1, c2, c3, c4⟩, f0, f1, f2, f3, f4⟩ := box5 X.out
        obtain ⟨⟨d0, d1⟩, _⟩ := box2 Y.out
        obtain ⟨⟨e0, e1, e2, e3, e4⟩, g0, g1, g2, g3, g4⟩ := box5 Z.out
        go_wp2
        have K := box5 (set5_box (.int .i64 br) (.int .i64 bn) (.int .i64 br) (.int .i64 bn) (.string x) Z.out)
        simp only [set5] at K
        obtain ⟨⟨k0, k1, k2, k3, k4⟩, _⟩ := K
        refine bodyPost_ret (v := .tuple #[.agg #[.int .i64 br, .int .i64 bn, .int .i64 br, .int .i64 bn, .string x], .bool true]) (by simp [results, Try.results12, go_sem, k0, k1, k2, k3, k4]) rfl ⟨rfl, ?_⟩
        exact set5_below _ _ _ _ _ B.out (by omega)
      | true =>
        have s3 : (x.toList != v.toList) = !(x.toList == v.toList) := rfl
        cases s2 : x.toList == v.toList with
        | true =>
          rw [s2] at s3
          rw [s3]
          clear s1
          simp only [Bool.false_and, Bool.and_false, Bool.true_and, Bool.and_true, Bool.not_true, Bool.not_false, Bool.false_eq_true, if_true, if_false]
          go_enter Try.func12, Try.ntmps12
          go_wp2_with fail
          refine (LI.out _).mono ?_
          rintro e w1 ⟨rfl, bb⟩
          replace X := hide (Below.at bb X.out)
          replace Y := hide (Below.at bb Y.out)
          replace Z := hide (Below.at bb Z.out)
          replace B := hide (bthen B.out bb)
          clear bb
          obtain ⟨⟨c0, c1, c2, c3, c4⟩, f0, f1, f2, f3, f4⟩ := box5 X.out
          obtain ⟨⟨d0, d1⟩, _⟩ := box2 Y.out
          obtain ⟨⟨e0, e1, e2, e3, e4⟩, g0, g1, g2, g3, g4⟩ := box5 Z.out
          go_wp2_with fail
          refine (SA.out _).mono ?_
          rintro e w2 ⟨rfl, bb⟩
          clear c0 c1 c2 c3 c4 f0 f1 f2 f3 f4 d0 d1 e0 e1 e2 e3 e4 g0 g1 g2 g3 g4
          replace X := hide (Below.at bb X.out)
          replace Y := hide (Below.at bb Y.out)
          replace Z := hide (Below.at bb Z.out)
          replace B := hide (bthen B.out bb)
          clear bb
          obtain ⟨⟨c0, c1, c2, c3, c4⟩, f0, f1, f2, f3, f4⟩ := box5 X.out
          obtain ⟨⟨d0, d1⟩, _⟩ := box2 Y.out
          obtain ⟨⟨e0, e1, e2, e3, e4⟩, g0, g1, g2, g3, g4⟩ := box5 Z.out
          go_wp2_with fail
          refine (AP.out _ _ _ _ _ _ HX.out).mono ?_
          rintro e w3 ⟨rfl, bb⟩
          clear c0 c1 c2 c3 c4 f0 f1 f2 f3 f4 d0 d1 e0 e1 e2 e3 e4 g0 g1 g2 g3 g4
          replace X := hide (Below.at bb X.out)
          replace Y := hide (Below.at bb Y.out)
          replace Z := hide (Below.at bb Z.out)
          replace B := hide (bthen B.out bb)
          clear bb
          obtain ⟨⟨c0, c1, c2, c3, c4⟩, f0, f1, f2, f3, f4⟩ := box5 X.out
          obtain ⟨⟨d0, d1⟩, _⟩ := box2 Y.out
          obtain ⟨⟨e0, e1, e2, e3, e4⟩, g0, g1, g2, g3, g4⟩ := box5 Z.out
          go_wp2
          have K := box5 (set5_box (.int .i64 br) (.int .i64 bn) (.int .i64 br) (.int .i64 bn) (.string x) Z.out)
          simp only [set5] at K
          obtain ⟨⟨k0, k1, k2, k3, k4⟩, _⟩ := K
          refine bodyPost_ret (v := .tuple #[.agg #[.int .i64 br, .int .i64 bn, .int .i64 br, .int .i64 bn, .string x], .bool true]) (by simp [results, Try.results12, go_sem, k0, k1, k2, k3, k4]) rfl ⟨rfl, ?_⟩
          exact set5_below _ _ _ _ _ B.out (by omega)
        | false =>
          rw [s2] at s3
          rw [s3]
          clear s1
          simp only [Bool.false_and, Bool.and_false, Bool.true_and, Bool.and_true, Bool.not_true, Bool.not_false, Bool.false_eq_true, if_true, if_false]
          go_enter Try.func12, Try.ntmps12
          go_wp2_with fail
          refine (LI.out _).mono ?_
          rintro e w1 ⟨rfl, bb⟩
          replace X := hide (Below.at bb X.out)
          replace Y := hide (Below.at bb Y.out)
          replace Z := hide (Below.at bb Z.out)
          replace B := hide (bthen B.out bb)
          clear bb
          obtain ⟨⟨c0, c1, c2, c3, c4⟩, f0, f1, f2, f3, f4⟩ := box5 X.out
          obtain ⟨⟨d0, d1⟩, _⟩ := box2 Y.out
          obtain ⟨⟨e0, e1, e2, e3, e4⟩, g0, g1, g2, g3, g4⟩ := box5 Z.out
          go_wp2_with fail
          refine (SA.out _).mono ?_
          rintro e w2 ⟨rfl, bb⟩
          clear c0 c1 c2 c3 c4 f0 f1 f2 f3 f4 d0 d1 e0 e1 e2 e3 e4 g0 g1 g2 g3 g4
          replace X := hide (Below.at bb X.out)
          replace Y := hide (Below.at bb Y.out)
          replace Z := hide (Below.at bb Z.out)
          replace B := hide (bthen B.out bb)
          clear bb
          obtain ⟨⟨c0, c1, c2, c3, c4⟩, f0, f1, f2, f3, f4⟩ := box5 X.out
          obtain ⟨⟨d0, d1⟩, _⟩ := box2 Y.out
          obtain ⟨⟨e0, e1, e2, e3, e4⟩, g0, g1, g2, g3, g4⟩ := box5 Z.out
          go_wp2_with fail
          refine (AP.out _ _ _ _ _ _ HZ.out).mono ?_
          rintro e w3 ⟨rfl, bb⟩
          clear c0 c1 c2 c3 c4 f0 f1 f2 f3 f4 d0 d1 e0 e1 e2 e3 e4 g0 g1 g2 g3 g4
          replace X := hide (Below.at bb X.out)
          replace Y := hide (Below.at bb Y.out)
          replace Z := hide (Below.at bb Z.out)
          replace B := hide (bthen B.out bb)
          clear bb
          obtain ⟨⟨c0, c1, c2, c3, c4⟩, f0, f1, f2, f3, f4⟩ := box5 X.out
          obtain ⟨⟨d0, d1⟩, _⟩ := box2 Y.out
          obtain ⟨⟨e0, e1, e2, e3, e4⟩, g0, g1, g2, g3, g4⟩ := box5 Z.out
          go_wp2
          have K := box5 (set5_box (.int .i64 pr) (.int .i64 pn) (.int .i64 tr) (.int .i64 tn) (.string v) Z.out)
          simp only [set5] at K
          obtain ⟨⟨k0, k1, k2, k3, k4⟩, _⟩ := K
          refine bodyPost_ret (v := .tuple #[.agg #[.int .i64 pr, .int .i64 pn, .int .i64 tr, .int .i64 tn, .string v], .bool false]) (by simp [results, Try.results12, go_sem, k0, k1, k2, k3, k4]) rfl ⟨rfl, ?_⟩
          exact set5_below _ _ _ _ _ B.out (by omega)
    · rw [decide_eq_false s1]
      have s1' : (x.size : Int) > 100000 := by omega
      simp only [Bool.false_and, Bool.and_false, Bool.true_and, Bool.and_true, Bool.not_true, Bool.not_false, Bool.false_eq_true, if_true, if_false]
      go_enter Try.func12, Try.ntmps12
      go_wp2_with fail
      refine (LI.out _).mono ?_
      rintro e w1 ⟨rfl, bb⟩
      replace X := hide (Below.at bb X.out)
      replace Y := hide (Below.at bb Y.out)
      replace Z := hide (Below.at bb Z.out)
      replace B := hide (bthen B.out bb)
      clear bb
      obtain ⟨⟨c0, c1, c2, c3, c4⟩, f0, f1, f2, f3, f4⟩ := box5 X.out
      obtain ⟨⟨d0, d1⟩, _⟩ := box2 Y.out
      obtain ⟨⟨e0, e1, e2, e3, e4⟩, g0, g1, g2, g3, g4⟩ := box5 Z.out
      go_wp2_with fail
      refine (AP.out _ _ _ _ _ _ HZ.out).mono ?_
      rintro e w3 ⟨rfl, bb⟩
      clear c0 c1 c2 c3 c4 f0 f1 f2 f3 f4 d0 d1 e0 e1 e2 e3 e4 g0 g1 g2 g3 g4
      replace X := hide (Below.at bb X.out)
      replace Y := hide (Below.at bb Y.out)
      replace Z := hide (Below.at bb Z.out)
      replace B := hide (bthen B.out bb)
      clear bb
      obtain ⟨⟨c0, c1, c2, c3, c4⟩, f0, f1, f2, f3, f4⟩ := box5 X.out
      obtain ⟨⟨d0, d1⟩, _⟩ := box2 Y.out
      obtain ⟨⟨e0, e1, e2, e3, e4⟩, g0, g1, g2, g3, g4⟩ := box5 Z.out
      go_wp2
      have K := box5 (set5_box (.int .i64 pr) (.int .i64 pn) (.int .i64 tr) (.int .i64 tn) (.string v) Z.out)
      simp only [set5] at K
      obtain ⟨⟨k0, k1, k2, k3, k4⟩, _⟩ := K
      refine bodyPost_ret (v := .tuple #[.agg #[.int .i64 pr, .int .i64 pn, .int .i64 tr, .int .i64 tn, .string v], .bool false]) (by simp [results, Try.results12, go_sem, k0, k1, k2, k3, k4]) rfl ⟨rfl, ?_⟩
      exact set5_below _ _ _ _ _ B.out (by omega)

end Go.Proofs.Ytpopamechapmmaa
