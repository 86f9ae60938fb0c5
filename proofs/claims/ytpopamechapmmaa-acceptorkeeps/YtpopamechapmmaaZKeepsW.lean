/-
  AcceptorKeeps, as it runs (mkkeeps.py).
-/
import Derived.Test.YtpopamechapmmaaZBackW
import Derived.Test.YtpopamechapmmaaZAK
import Derived.LoopTactic
namespace Go.Proofs.Ytpopamechapmmaa
open Go.RowKit

theorem zero_right : AC.zero.right = true := by
  simp [AC.zero, AC.right, AC.nothing, BL.may, BL.right, BL.none, BL.less, tl, ByteArray.size]
theorem listens_parts {a : AC} {b : BL} (h : a.listens b = true) : a.right = true ∧ b.right = true ∧ b.less a.p = false := by
  unfold AC.listens at h
  simp only [Bool.and_eq_true, Bool.not_eq_true'] at h
  exact ⟨h.1.1, h.1.2, h.2⟩
theorem right_parts {a : AC} (h : a.right = true) : a.p.may = true ∧ a.t.may = true ∧ a.p.less a.t = false ∧ a.v.size ≤ 100000 ∧ (a.nothing || !a.t.none) = true := by
  unfold AC.right at h
  simp only [Bool.and_eq_true, Bool.not_eq_true'] at h
  exact ⟨h.1.1.1, h.1.1.2, h.1.2, of_decide_eq_true h.2.1, h.2.2⟩
theorem less_up {b p t : BL} (h1 : b.less p = false) (h2 : p.less t = false) : b.less t = false := by
  have h1 := of_decide_eq_false h1
  have h2 := of_decide_eq_false h2
  exact decide_eq_false (by omega)
theorem prep_right {a : AC} {b : BL} (h : a.listens b = true) : AC.right ⟨b, a.t, a.v⟩ = true ∧ b.less a.t = false := by
  obtain ⟨h1, h2, h3⟩ := listens_parts h
  obtain ⟨_, k2, k3, k4, k5⟩ := right_parts h1
  have hm := less_up h3 k3
  refine ⟨?_, hm⟩
  unfold AC.right AC.nothing at *
  simp only at *
  rw [k2, hm, k5, decide_eq_true k4]
  unfold BL.may
  rw [h2]
  rfl
theorem take_right {a : AC} {b : BL} {x : ByteArray} (h : a.takes b x = true) : a.listens b = true ∧ AC.right ⟨b, b, x⟩ = true ∧ (b.same a.t = true → x.toList = a.v.toList) := by
  unfold AC.takes at h
  simp only [Bool.and_eq_true, Bool.not_eq_true'] at h
  obtain ⟨⟨h1, h2⟩, h3⟩ := h
  obtain ⟨_, g2, _⟩ := listens_parts h1
  have hn : b.none = false := by
    have := of_decide_eq_true g2
    exact decide_eq_false (by omega)
  refine ⟨h1, ?_, fun hs => ?_⟩
  · unfold AC.right AC.nothing
    simp only
    rw [less_self, hn, h2]
    unfold BL.may
    rw [g2]
    simp
  · rw [hs] at h3
    simpa using h3
set_option maxHeartbeats 16000000 in
set_option maxRecDepth 100000 in
set_option linter.unusedSimpArgs false in
theorem keeps_walk (ao : Option Addr) (cp : Nat) (l : List AK) (w : World) (hcm : AKs w ao l) :
    Calls Try.prog 4 #[.slice ao l.length cp] w fun e w' => e = .returned (.bool true) ∧ Below w.heap.size w w' := by
  have HCM := hide hcm
  have hlen := hcm.len
  clear hcm
  have LS : Hid (∀ (r n q m : Int) W, Calls Try.prog 13 #[.agg #[.int .i64 r, .int .i64 n], .agg #[.int .i64 q, .int .i64 m]] W fun e w' => e = .returned (.bool (BL.less ⟨r, n⟩ ⟨q, m⟩)) ∧ Below W.heap.size W w') := fun r n q m W => less_any ⟨r, n⟩ ⟨q, m⟩ W
  go_enter Try.func4, Try.ntmps4
  go_wp2_with fail
  refine (examples_any _).mono ?_
  rintro e w0 ⟨rfl, b0⟩
  have A : Hid ((w0.alloc (.cells #[.int .i64 0, .int .i64 0, .int .i64 0, .int .i64 0, .string ⟨#[]⟩] 25)).heap[w0.heap.size]? = some (.cells #[.int .i64 0, .int .i64 0, .int .i64 0, .int .i64 0, .string ⟨#[]⟩] 25)) := heap_alloc_new w0 (.cells #[.int .i64 0, .int .i64 0, .int .i64 0, .int .i64 0, .string ⟨#[]⟩] 25)
  have B := hide (below_new b0 (.cells #[.int .i64 0, .int .i64 0, .int .i64 0, .int .i64 0, .string ⟨#[]⟩] 25))
  have hwA := b0.size
  clear b0
  go_wp2
  generalize w0.alloc (.cells #[.int .i64 0, .int .i64 0, .int .i64 0, .int .i64 0, .string ⟨#[]⟩] 25) = w1 at *
  generalize w0.heap.size = bA at *
  go_loopw [5] (fun iv wv => ∃ (i : Nat) (a : AC), iv = .int .i64 i ∧ i ≤ 100 ∧ Hid (a.right = true) ∧ Hid (wv.heap[bA]? = some (.cells #[.int .i64 a.p.r, .int .i64 a.p.n, .int .i64 a.t.r, .int .i64 a.t.n, .string a.v] 25)) ∧ Hid (Below w.heap.size w wv)) (fun iv _ => 100 - (intOf iv).toNat)
  case atStart => exact ⟨0, AC.zero, rfl, Nat.zero_le _, zero_right, A, B⟩
  case round =>
    clear A B
    obtain ⟨i, a, rfl, hi, HR, A, B⟩ := hrel
    by_cases hlt : i < l.length ∧ i < 100
    · obtain ⟨hl1, hl2⟩ := hlt
      have hdd := HCM.out.all.below B.out i hl1
      have hok := HCM.out.ok l[i] (List.getElem_mem hl1)
      obtain ⟨kb, off, rfl, hkb, d0, d1, d2, d3⟩ := hdd
      have hi0 : (0 : Int) ≤ (i : Int) := by omega
      have hi1 : (i : Int) < (l.length : Int) := by omega
      have hi2 : (i : Int) < 100 := by omega
      have hz : a.v.size ≤ 281474976710656 := by obtain ⟨_, _, _, h, _⟩ := right_parts HR.out; omega
      have hx : l[i].val.size ≤ 281474976710656 := by have h : l[i].val.size ≤ 140737488351232 := hok; omega
      generalize l[i] = u at *
      obtain ⟨b, tk, x⟩ := u
      simp only at d0 d1 d2 d3 hx
      have P1 := hide (fun W => prepare_any a b hz W)
      have T1 := hide (fun W => take_any a b x hz hx W)
      have PR := hide (@prep_right a b)
      have TR := hide (@take_right a b x)
      have LP := hide (@listens_parts a b)
      have RP := hide (right_parts HR.out).2.2.1
      unfold AC.prep at P1
      unfold AC.take at T1
      cases h1 : a.listens b with
      | false =>
        have h2 : a.takes b x = false := by unfold AC.takes; rw [h1]; rfl
        rw [h1] at P1
        rw [h2] at T1
        simp only [Bool.false_eq_true, if_false] at P1 T1
        have NR := HR
        have y1 := less_self a.p
        have y2 := less_self a.t
        have y3 := RP.out
        clear PR TR LP HR RP h1 h2 hz hx hok hi hl1 hl2
        obtain ⟨⟨pr, pn⟩, ⟨tr, tn⟩, v⟩ := a
        obtain ⟨br, bn⟩ := b
        simp only [AC.d, BL.v] at *
        cases tk with
        | false =>
          have cA0 := fun o0 => box_cell (box_alloc A.out o0) 0 rfl
          have cA1 := fun o0 => box_cell (box_alloc A.out o0) 1 rfl
          have cA2 := fun o0 => box_cell (box_alloc A.out o0) 2 rfl
          have cA3 := fun o0 => box_cell (box_alloc A.out o0) 3 rfl
          have cA4 := fun o0 => box_cell (box_alloc A.out o0) 4 rfl
          go_wp2_with fail
          refine (P1.out _).mono ?_
          rintro e w1 ⟨rfl, bb⟩
          clear cA0 cA1 cA2 cA3 cA4
          have hlAX := heap_lt A.out
          have hwX := B.out.size
          replace A := hide (Below.at bb (box_alloc A.out (.cells #[.int .i64 br, .int .i64 bn, .bool false, .string x] 39)))
          have X : Hid (w1.heap[wr.heap.size]? = some (.cells #[.int .i64 br, .int .i64 bn, .bool false, .string x] 39)) := hide (Below.at bb (heap_alloc_new wr (.cells #[.int .i64 br, .int .i64 bn, .bool false, .string x] 39)))
          replace B := hide (bthen (below_new B.out (.cells #[.int .i64 br, .int .i64 bn, .bool false, .string x] 39)) bb)
          clear bb
          generalize wr.heap.size = bX at *
          have cA0 := fun o0 => box_cell (box_alloc A.out o0) 0 rfl
          have cA1 := fun o0 => box_cell (box_alloc A.out o0) 1 rfl
          have cA2 := fun o0 => box_cell (box_alloc A.out o0) 2 rfl
          have cA3 := fun o0 => box_cell (box_alloc A.out o0) 3 rfl
          have cA4 := fun o0 => box_cell (box_alloc A.out o0) 4 rfl
          have cX0 := fun o0 => box_cell (box_alloc X.out o0) 0 rfl
          have cX1 := fun o0 => box_cell (box_alloc X.out o0) 1 rfl
          have cX2 := fun o0 => box_cell (box_alloc X.out o0) 2 rfl
          have cX3 := fun o0 => box_cell (box_alloc X.out o0) 3 rfl
          go_wp2_with fail
          refine (LS.out _ _ _ _ _).mono ?_
          rintro e w2 ⟨rfl, bb⟩
          clear cA0 cA1 cA2 cA3 cA4 cX0 cX1 cX2 cX3
          have hlAP := heap_lt A.out
          have hlXP := heap_lt X.out
          have hwP := B.out.size
          replace A := hide (Below.at bb (box_alloc A.out (.cells #[.int .i64 pr, .int .i64 pn, .int .i64 tr, .int .i64 tn, .string v] 25)))
          replace X := hide (Below.at bb (box_alloc X.out (.cells #[.int .i64 pr, .int .i64 pn, .int .i64 tr, .int .i64 tn, .string v] 25)))
          have P : Hid (w2.heap[w1.heap.size]? = some (.cells #[.int .i64 pr, .int .i64 pn, .int .i64 tr, .int .i64 tn, .string v] 25)) := hide (Below.at bb (heap_alloc_new w1 (.cells #[.int .i64 pr, .int .i64 pn, .int .i64 tr, .int .i64 tn, .string v] 25)))
          replace B := hide (bthen (below_new B.out (.cells #[.int .i64 pr, .int .i64 pn, .int .i64 tr, .int .i64 tn, .string v] 25)) bb)
          clear bb
          generalize w1.heap.size = bP at *
          have cA0 := box_cell A.out 0 rfl
          have cA1 := box_cell A.out 1 rfl
          have cA2 := box_cell A.out 2 rfl
          have cA3 := box_cell A.out 3 rfl
          have cA4 := box_cell A.out 4 rfl
          have cX0 := box_cell X.out 0 rfl
          have cX1 := box_cell X.out 1 rfl
          have cX2 := box_cell X.out 2 rfl
          have cX3 := box_cell X.out 3 rfl
          have cP0 := box_cell P.out 0 rfl
          have cP1 := box_cell P.out 1 rfl
          have cP2 := box_cell P.out 2 rfl
          have cP3 := box_cell P.out 3 rfl
          have cP4 := box_cell P.out 4 rfl
          go_wp2_with fail
          refine (LS.out _ _ _ _ _).mono ?_
          rintro e w3 ⟨rfl, bb⟩
          clear cA0 cA1 cA2 cA3 cA4 cX0 cX1 cX2 cX3 cP0 cP1 cP2 cP3 cP4
          replace A := hide (Below.at bb A.out)
          replace X := hide (Below.at bb X.out)
          replace P := hide (Below.at bb P.out)
          replace B := hide (bthen B.out bb)
          clear bb
          have cA0 := box_cell A.out 0 rfl
          have cA1 := box_cell A.out 1 rfl
          have cA2 := box_cell A.out 2 rfl
          have cA3 := box_cell A.out 3 rfl
          have cA4 := box_cell A.out 4 rfl
          have cX0 := box_cell X.out 0 rfl
          have cX1 := box_cell X.out 1 rfl
          have cX2 := box_cell X.out 2 rfl
          have cX3 := box_cell X.out 3 rfl
          have cP0 := box_cell P.out 0 rfl
          have cP1 := box_cell P.out 1 rfl
          have cP2 := box_cell P.out 2 rfl
          have cP3 := box_cell P.out 3 rfl
          have cP4 := box_cell P.out 4 rfl
          go_wp2_with fail
          refine (LS.out _ _ _ _ _).mono ?_
          rintro e w4 ⟨rfl, bb⟩
          clear cA0 cA1 cA2 cA3 cA4 cX0 cX1 cX2 cX3 cP0 cP1 cP2 cP3 cP4
          replace A := hide (Below.at bb A.out)
          replace X := hide (Below.at bb X.out)
          replace P := hide (Below.at bb P.out)
          replace B := hide (bthen B.out bb)
          clear bb
          have cA0 := box_cell A.out 0 rfl
          have fA0 := box_free A.out 0
          have cA1 := box_cell A.out 1 rfl
          have fA1 := box_free A.out 1
          have cA2 := box_cell A.out 2 rfl
          have fA2 := box_free A.out 2
          have cA3 := box_cell A.out 3 rfl
          have fA3 := box_free A.out 3
          have cA4 := box_cell A.out 4 rfl
          have fA4 := box_free A.out 4
          have cX0 := box_cell X.out 0 rfl
          have cX1 := box_cell X.out 1 rfl
          have cX2 := box_cell X.out 2 rfl
          have cX3 := box_cell X.out 3 rfl
          have cP0 := box_cell P.out 0 rfl
          have cP1 := box_cell P.out 1 rfl
          have cP2 := box_cell P.out 2 rfl
          have cP3 := box_cell P.out 3 rfl
          have cP4 := box_cell P.out 4 rfl
          go_wp2
          go_roundw
          case rel => exact ⟨i + 1, ⟨⟨pr, pn⟩, ⟨tr, tn⟩, v⟩, by go_num, by omega, NR, set5_box (.int .i64 pr) (.int .i64 pn) (.int .i64 tr) (.int .i64 tn) (.string v) A.out, set5_below (.int .i64 pr) (.int .i64 pn) (.int .i64 tr) (.int .i64 tn) (.string v) B.out (by omega)⟩
          case measure => simp [intOf]; omega
        | true =>
          have cA0 := fun o0 => box_cell (box_alloc A.out o0) 0 rfl
          have cA1 := fun o0 => box_cell (box_alloc A.out o0) 1 rfl
          have cA2 := fun o0 => box_cell (box_alloc A.out o0) 2 rfl
          have cA3 := fun o0 => box_cell (box_alloc A.out o0) 3 rfl
          have cA4 := fun o0 => box_cell (box_alloc A.out o0) 4 rfl
          go_wp2_with fail
          refine (P1.out _).mono ?_
          rintro e w1 ⟨rfl, bb⟩
          clear cA0 cA1 cA2 cA3 cA4
          have hlAX := heap_lt A.out
          have hwX := B.out.size
          replace A := hide (Below.at bb (box_alloc A.out (.cells #[.int .i64 br, .int .i64 bn, .bool true, .string x] 39)))
          have X : Hid (w1.heap[wr.heap.size]? = some (.cells #[.int .i64 br, .int .i64 bn, .bool true, .string x] 39)) := hide (Below.at bb (heap_alloc_new wr (.cells #[.int .i64 br, .int .i64 bn, .bool true, .string x] 39)))
          replace B := hide (bthen (below_new B.out (.cells #[.int .i64 br, .int .i64 bn, .bool true, .string x] 39)) bb)
          clear bb
          generalize wr.heap.size = bX at *
          have cA0 := fun o0 => box_cell (box_alloc A.out o0) 0 rfl
          have cA1 := fun o0 => box_cell (box_alloc A.out o0) 1 rfl
          have cA2 := fun o0 => box_cell (box_alloc A.out o0) 2 rfl
          have cA3 := fun o0 => box_cell (box_alloc A.out o0) 3 rfl
          have cA4 := fun o0 => box_cell (box_alloc A.out o0) 4 rfl
          have cX0 := fun o0 => box_cell (box_alloc X.out o0) 0 rfl
          have cX1 := fun o0 => box_cell (box_alloc X.out o0) 1 rfl
          have cX2 := fun o0 => box_cell (box_alloc X.out o0) 2 rfl
          have cX3 := fun o0 => box_cell (box_alloc X.out o0) 3 rfl
          go_wp2_with fail
          refine (T1.out _).mono ?_
          rintro e w2 ⟨rfl, bb⟩
          clear cA0 cA1 cA2 cA3 cA4 cX0 cX1 cX2 cX3
          have hlAP := heap_lt A.out
          have hlXP := heap_lt X.out
          have hwP := B.out.size
          replace A := hide (Below.at bb (box_alloc A.out (.cells #[.int .i64 pr, .int .i64 pn, .int .i64 tr, .int .i64 tn, .string v] 25)))
          replace X := hide (Below.at bb (box_alloc X.out (.cells #[.int .i64 pr, .int .i64 pn, .int .i64 tr, .int .i64 tn, .string v] 25)))
          have P : Hid (w2.heap[w1.heap.size]? = some (.cells #[.int .i64 pr, .int .i64 pn, .int .i64 tr, .int .i64 tn, .string v] 25)) := hide (Below.at bb (heap_alloc_new w1 (.cells #[.int .i64 pr, .int .i64 pn, .int .i64 tr, .int .i64 tn, .string v] 25)))
          replace B := hide (bthen (below_new B.out (.cells #[.int .i64 pr, .int .i64 pn, .int .i64 tr, .int .i64 tn, .string v] 25)) bb)
          clear bb
          generalize w1.heap.size = bP at *
          have cA0 := box_cell A.out 0 rfl
          have cA1 := box_cell A.out 1 rfl
          have cA2 := box_cell A.out 2 rfl
          have cA3 := box_cell A.out 3 rfl
          have cA4 := box_cell A.out 4 rfl
          have cX0 := box_cell X.out 0 rfl
          have cX1 := box_cell X.out 1 rfl
          have cX2 := box_cell X.out 2 rfl
          have cX3 := box_cell X.out 3 rfl
          have cP0 := box_cell P.out 0 rfl
          have fP0 := box_free P.out 0
          have cP1 := box_cell P.out 1 rfl
          have fP1 := box_free P.out 1
          have cP2 := box_cell P.out 2 rfl
          have fP2 := box_free P.out 2
          have cP3 := box_cell P.out 3 rfl
          have fP3 := box_free P.out 3
          have cP4 := box_cell P.out 4 rfl
          have fP4 := box_free P.out 4
          have sA0 := box_cell (set5_apart (.int .i64 pr) (.int .i64 pn) (.int .i64 tr) (.int .i64 tn) (.string v) A.out (by omega : bA ≠ bP)) 0 rfl
          have sA1 := box_cell (set5_apart (.int .i64 pr) (.int .i64 pn) (.int .i64 tr) (.int .i64 tn) (.string v) A.out (by omega : bA ≠ bP)) 1 rfl
          have sA2 := box_cell (set5_apart (.int .i64 pr) (.int .i64 pn) (.int .i64 tr) (.int .i64 tn) (.string v) A.out (by omega : bA ≠ bP)) 2 rfl
          have sA3 := box_cell (set5_apart (.int .i64 pr) (.int .i64 pn) (.int .i64 tr) (.int .i64 tn) (.string v) A.out (by omega : bA ≠ bP)) 3 rfl
          have sA4 := box_cell (set5_apart (.int .i64 pr) (.int .i64 pn) (.int .i64 tr) (.int .i64 tn) (.string v) A.out (by omega : bA ≠ bP)) 4 rfl
          have sX0 := box_cell (set5_apart (.int .i64 pr) (.int .i64 pn) (.int .i64 tr) (.int .i64 tn) (.string v) X.out (by omega : bX ≠ bP)) 0 rfl
          have sX1 := box_cell (set5_apart (.int .i64 pr) (.int .i64 pn) (.int .i64 tr) (.int .i64 tn) (.string v) X.out (by omega : bX ≠ bP)) 1 rfl
          have sX2 := box_cell (set5_apart (.int .i64 pr) (.int .i64 pn) (.int .i64 tr) (.int .i64 tn) (.string v) X.out (by omega : bX ≠ bP)) 2 rfl
          have sX3 := box_cell (set5_apart (.int .i64 pr) (.int .i64 pn) (.int .i64 tr) (.int .i64 tn) (.string v) X.out (by omega : bX ≠ bP)) 3 rfl
          have sP0 := box_cell (set5_box (.int .i64 pr) (.int .i64 pn) (.int .i64 tr) (.int .i64 tn) (.string v) P.out) 0 rfl
          have sP1 := box_cell (set5_box (.int .i64 pr) (.int .i64 pn) (.int .i64 tr) (.int .i64 tn) (.string v) P.out) 1 rfl
          have sP2 := box_cell (set5_box (.int .i64 pr) (.int .i64 pn) (.int .i64 tr) (.int .i64 tn) (.string v) P.out) 2 rfl
          have sP3 := box_cell (set5_box (.int .i64 pr) (.int .i64 pn) (.int .i64 tr) (.int .i64 tn) (.string v) P.out) 3 rfl
          have sP4 := box_cell (set5_box (.int .i64 pr) (.int .i64 pn) (.int .i64 tr) (.int .i64 tn) (.string v) P.out) 4 rfl
          simp only [set5] at sA0 sA1 sA2 sA3 sA4 sX0 sX1 sX2 sX3 sP0 sP1 sP2 sP3 sP4
          go_wp2_with fail
          refine (LS.out _ _ _ _ _).mono ?_
          rintro e w3 ⟨rfl, bb⟩
          clear cA0 cA1 cA2 cA3 cA4 cX0 cX1 cX2 cX3 cP0 fP0 cP1 fP1 cP2 fP2 cP3 fP3 cP4 fP4 sA0 sA1 sA2 sA3 sA4 sX0 sX1 sX2 sX3 sP0 sP1 sP2 sP3 sP4
          replace A := hide (Below.at bb (set5_apart (.int .i64 pr) (.int .i64 pn) (.int .i64 tr) (.int .i64 tn) (.string v) A.out (by omega : bA ≠ bP)))
          replace X := hide (Below.at bb (set5_apart (.int .i64 pr) (.int .i64 pn) (.int .i64 tr) (.int .i64 tn) (.string v) X.out (by omega : bX ≠ bP)))
          replace P := hide (Below.at bb (set5_box (.int .i64 pr) (.int .i64 pn) (.int .i64 tr) (.int .i64 tn) (.string v) P.out))
          replace B := hide (bthen (set5_below (.int .i64 pr) (.int .i64 pn) (.int .i64 tr) (.int .i64 tn) (.string v) B.out (by omega)) bb)
          clear bb
          have cA0 := box_cell A.out 0 rfl
          have cA1 := box_cell A.out 1 rfl
          have cA2 := box_cell A.out 2 rfl
          have cA3 := box_cell A.out 3 rfl
          have cA4 := box_cell A.out 4 rfl
          have cX0 := box_cell X.out 0 rfl
          have cX1 := box_cell X.out 1 rfl
          have cX2 := box_cell X.out 2 rfl
          have cX3 := box_cell X.out 3 rfl
          have cP0 := box_cell P.out 0 rfl
          have cP1 := box_cell P.out 1 rfl
          have cP2 := box_cell P.out 2 rfl
          have cP3 := box_cell P.out 3 rfl
          have cP4 := box_cell P.out 4 rfl
          go_wp2_with fail
          refine (LS.out _ _ _ _ _).mono ?_
          rintro e w4 ⟨rfl, bb⟩
          clear cA0 cA1 cA2 cA3 cA4 cX0 cX1 cX2 cX3 cP0 cP1 cP2 cP3 cP4
          replace A := hide (Below.at bb A.out)
          replace X := hide (Below.at bb X.out)
          replace P := hide (Below.at bb P.out)
          replace B := hide (bthen B.out bb)
          clear bb
          have cA0 := box_cell A.out 0 rfl
          have cA1 := box_cell A.out 1 rfl
          have cA2 := box_cell A.out 2 rfl
          have cA3 := box_cell A.out 3 rfl
          have cA4 := box_cell A.out 4 rfl
          have cX0 := box_cell X.out 0 rfl
          have cX1 := box_cell X.out 1 rfl
          have cX2 := box_cell X.out 2 rfl
          have cX3 := box_cell X.out 3 rfl
          have cP0 := box_cell P.out 0 rfl
          have cP1 := box_cell P.out 1 rfl
          have cP2 := box_cell P.out 2 rfl
          have cP3 := box_cell P.out 3 rfl
          have cP4 := box_cell P.out 4 rfl
          go_wp2_with fail
          refine (LS.out _ _ _ _ _).mono ?_
          rintro e w5 ⟨rfl, bb⟩
          clear cA0 cA1 cA2 cA3 cA4 cX0 cX1 cX2 cX3 cP0 cP1 cP2 cP3 cP4
          replace A := hide (Below.at bb A.out)
          replace X := hide (Below.at bb X.out)
          replace P := hide (Below.at bb P.out)
          replace B := hide (bthen B.out bb)
          clear bb
          have cA0 := box_cell A.out 0 rfl
          have fA0 := box_free A.out 0
          have cA1 := box_cell A.out 1 rfl
          have fA1 := box_free A.out 1
          have cA2 := box_cell A.out 2 rfl
          have fA2 := box_free A.out 2
          have cA3 := box_cell A.out 3 rfl
          have fA3 := box_free A.out 3
          have cA4 := box_cell A.out 4 rfl
          have fA4 := box_free A.out 4
          have cX0 := box_cell X.out 0 rfl
          have cX1 := box_cell X.out 1 rfl
          have cX2 := box_cell X.out 2 rfl
          have cX3 := box_cell X.out 3 rfl
          have cP0 := box_cell P.out 0 rfl
          have cP1 := box_cell P.out 1 rfl
          have cP2 := box_cell P.out 2 rfl
          have cP3 := box_cell P.out 3 rfl
          have cP4 := box_cell P.out 4 rfl
          go_wp2
          go_roundw
          case rel => exact ⟨i + 1, ⟨⟨pr, pn⟩, ⟨tr, tn⟩, v⟩, by go_num, by omega, NR, set5_box (.int .i64 pr) (.int .i64 pn) (.int .i64 tr) (.int .i64 tn) (.string v) A.out, set5_below (.int .i64 pr) (.int .i64 pn) (.int .i64 tr) (.int .i64 tn) (.string v) B.out (by omega)⟩
          case measure => simp [intOf]; omega
      | true =>
        obtain ⟨nr, y4⟩ := PR.out h1
        have y5 := (LP.out h1).2.2
        rw [h1] at P1
        simp only [if_true] at P1
        have y1 := less_self a.p
        have y2 := less_self a.t
        have y3 := RP.out
        have y6 := less_self b
        clear PR LP RP h1 hz hx hok hi hl1 hl2
        cases tk with
        | false =>
          clear T1 TR HR
          have NR := hide nr
          clear nr
          obtain ⟨⟨pr, pn⟩, ⟨tr, tn⟩, v⟩ := a
          obtain ⟨br, bn⟩ := b
          simp only [AC.d, BL.v] at *
          have cA0 := fun o0 => box_cell (box_alloc A.out o0) 0 rfl
          have cA1 := fun o0 => box_cell (box_alloc A.out o0) 1 rfl
          have cA2 := fun o0 => box_cell (box_alloc A.out o0) 2 rfl
          have cA3 := fun o0 => box_cell (box_alloc A.out o0) 3 rfl
          have cA4 := fun o0 => box_cell (box_alloc A.out o0) 4 rfl
          go_wp2_with fail
          refine (P1.out _).mono ?_
          rintro e w1 ⟨rfl, bb⟩
          clear cA0 cA1 cA2 cA3 cA4
          have hlAX := heap_lt A.out
          have hwX := B.out.size
          replace A := hide (Below.at bb (box_alloc A.out (.cells #[.int .i64 br, .int .i64 bn, .bool false, .string x] 39)))
          have X : Hid (w1.heap[wr.heap.size]? = some (.cells #[.int .i64 br, .int .i64 bn, .bool false, .string x] 39)) := hide (Below.at bb (heap_alloc_new wr (.cells #[.int .i64 br, .int .i64 bn, .bool false, .string x] 39)))
          replace B := hide (bthen (below_new B.out (.cells #[.int .i64 br, .int .i64 bn, .bool false, .string x] 39)) bb)
          clear bb
          generalize wr.heap.size = bX at *
          have cA0 := fun o0 => box_cell (box_alloc A.out o0) 0 rfl
          have cA1 := fun o0 => box_cell (box_alloc A.out o0) 1 rfl
          have cA2 := fun o0 => box_cell (box_alloc A.out o0) 2 rfl
          have cA3 := fun o0 => box_cell (box_alloc A.out o0) 3 rfl
          have cA4 := fun o0 => box_cell (box_alloc A.out o0) 4 rfl
          have cX0 := fun o0 => box_cell (box_alloc X.out o0) 0 rfl
          have cX1 := fun o0 => box_cell (box_alloc X.out o0) 1 rfl
          have cX2 := fun o0 => box_cell (box_alloc X.out o0) 2 rfl
          have cX3 := fun o0 => box_cell (box_alloc X.out o0) 3 rfl
          go_wp2_with fail
          refine (LS.out _ _ _ _ _).mono ?_
          rintro e w2 ⟨rfl, bb⟩
          clear cA0 cA1 cA2 cA3 cA4 cX0 cX1 cX2 cX3
          have hlAP := heap_lt A.out
          have hlXP := heap_lt X.out
          have hwP := B.out.size
          replace A := hide (Below.at bb (box_alloc A.out (.cells #[.int .i64 br, .int .i64 bn, .int .i64 tr, .int .i64 tn, .string v] 25)))
          replace X := hide (Below.at bb (box_alloc X.out (.cells #[.int .i64 br, .int .i64 bn, .int .i64 tr, .int .i64 tn, .string v] 25)))
          have P : Hid (w2.heap[w1.heap.size]? = some (.cells #[.int .i64 br, .int .i64 bn, .int .i64 tr, .int .i64 tn, .string v] 25)) := hide (Below.at bb (heap_alloc_new w1 (.cells #[.int .i64 br, .int .i64 bn, .int .i64 tr, .int .i64 tn, .string v] 25)))
          replace B := hide (bthen (below_new B.out (.cells #[.int .i64 br, .int .i64 bn, .int .i64 tr, .int .i64 tn, .string v] 25)) bb)
          clear bb
          generalize w1.heap.size = bP at *
          have cA0 := box_cell A.out 0 rfl
          have cA1 := box_cell A.out 1 rfl
          have cA2 := box_cell A.out 2 rfl
          have cA3 := box_cell A.out 3 rfl
          have cA4 := box_cell A.out 4 rfl
          have cX0 := box_cell X.out 0 rfl
          have cX1 := box_cell X.out 1 rfl
          have cX2 := box_cell X.out 2 rfl
          have cX3 := box_cell X.out 3 rfl
          have cP0 := box_cell P.out 0 rfl
          have cP1 := box_cell P.out 1 rfl
          have cP2 := box_cell P.out 2 rfl
          have cP3 := box_cell P.out 3 rfl
          have cP4 := box_cell P.out 4 rfl
          go_wp2_with fail
          refine (LS.out _ _ _ _ _).mono ?_
          rintro e w3 ⟨rfl, bb⟩
          clear cA0 cA1 cA2 cA3 cA4 cX0 cX1 cX2 cX3 cP0 cP1 cP2 cP3 cP4
          replace A := hide (Below.at bb A.out)
          replace X := hide (Below.at bb X.out)
          replace P := hide (Below.at bb P.out)
          replace B := hide (bthen B.out bb)
          clear bb
          have cA0 := box_cell A.out 0 rfl
          have cA1 := box_cell A.out 1 rfl
          have cA2 := box_cell A.out 2 rfl
          have cA3 := box_cell A.out 3 rfl
          have cA4 := box_cell A.out 4 rfl
          have cX0 := box_cell X.out 0 rfl
          have cX1 := box_cell X.out 1 rfl
          have cX2 := box_cell X.out 2 rfl
          have cX3 := box_cell X.out 3 rfl
          have cP0 := box_cell P.out 0 rfl
          have cP1 := box_cell P.out 1 rfl
          have cP2 := box_cell P.out 2 rfl
          have cP3 := box_cell P.out 3 rfl
          have cP4 := box_cell P.out 4 rfl
          go_wp2_with fail
          refine (LS.out _ _ _ _ _).mono ?_
          rintro e w4 ⟨rfl, bb⟩
          clear cA0 cA1 cA2 cA3 cA4 cX0 cX1 cX2 cX3 cP0 cP1 cP2 cP3 cP4
          replace A := hide (Below.at bb A.out)
          replace X := hide (Below.at bb X.out)
          replace P := hide (Below.at bb P.out)
          replace B := hide (bthen B.out bb)
          clear bb
          have cA0 := box_cell A.out 0 rfl
          have cA1 := box_cell A.out 1 rfl
          have cA2 := box_cell A.out 2 rfl
          have cA3 := box_cell A.out 3 rfl
          have cA4 := box_cell A.out 4 rfl
          have cX0 := box_cell X.out 0 rfl
          have cX1 := box_cell X.out 1 rfl
          have cX2 := box_cell X.out 2 rfl
          have cX3 := box_cell X.out 3 rfl
          have cP0 := box_cell P.out 0 rfl
          have cP1 := box_cell P.out 1 rfl
          have cP2 := box_cell P.out 2 rfl
          have cP3 := box_cell P.out 3 rfl
          have cP4 := box_cell P.out 4 rfl
          go_wp2_with fail
          refine (LS.out _ _ _ _ _).mono ?_
          rintro e w5 ⟨rfl, bb⟩
          clear cA0 cA1 cA2 cA3 cA4 cX0 cX1 cX2 cX3 cP0 cP1 cP2 cP3 cP4
          replace A := hide (Below.at bb A.out)
          replace X := hide (Below.at bb X.out)
          replace P := hide (Below.at bb P.out)
          replace B := hide (bthen B.out bb)
          clear bb
          have cA0 := box_cell A.out 0 rfl
          have fA0 := box_free A.out 0
          have cA1 := box_cell A.out 1 rfl
          have fA1 := box_free A.out 1
          have cA2 := box_cell A.out 2 rfl
          have fA2 := box_free A.out 2
          have cA3 := box_cell A.out 3 rfl
          have fA3 := box_free A.out 3
          have cA4 := box_cell A.out 4 rfl
          have fA4 := box_free A.out 4
          have cX0 := box_cell X.out 0 rfl
          have cX1 := box_cell X.out 1 rfl
          have cX2 := box_cell X.out 2 rfl
          have cX3 := box_cell X.out 3 rfl
          have cP0 := box_cell P.out 0 rfl
          have cP1 := box_cell P.out 1 rfl
          have cP2 := box_cell P.out 2 rfl
          have cP3 := box_cell P.out 3 rfl
          have cP4 := box_cell P.out 4 rfl
          go_wp2
          go_roundw
          case rel => exact ⟨i + 1, ⟨⟨br, bn⟩, ⟨tr, tn⟩, v⟩, by go_num, by omega, NR, set5_box (.int .i64 br) (.int .i64 bn) (.int .i64 tr) (.int .i64 tn) (.string v) A.out, set5_below (.int .i64 br) (.int .i64 bn) (.int .i64 tr) (.int .i64 tn) (.string v) B.out (by omega)⟩
          case measure => simp [intOf]; omega
        | true =>
          cases h2 : a.takes b x with
          | false =>
            rw [h2] at T1
            simp only [Bool.false_eq_true, if_false] at T1
            have NR := HR
            clear TR HR nr h2
            obtain ⟨⟨pr, pn⟩, ⟨tr, tn⟩, v⟩ := a
            obtain ⟨br, bn⟩ := b
            simp only [AC.d, BL.v] at *
            have cA0 := fun o0 => box_cell (box_alloc A.out o0) 0 rfl
            have cA1 := fun o0 => box_cell (box_alloc A.out o0) 1 rfl
            have cA2 := fun o0 => box_cell (box_alloc A.out o0) 2 rfl
            have cA3 := fun o0 => box_cell (box_alloc A.out o0) 3 rfl
            have cA4 := fun o0 => box_cell (box_alloc A.out o0) 4 rfl
            go_wp2_with fail
            refine (P1.out _).mono ?_
            rintro e w1 ⟨rfl, bb⟩
            clear cA0 cA1 cA2 cA3 cA4
            have hlAX := heap_lt A.out
            have hwX := B.out.size
            replace A := hide (Below.at bb (box_alloc A.out (.cells #[.int .i64 br, .int .i64 bn, .bool true, .string x] 39)))
            have X : Hid (w1.heap[wr.heap.size]? = some (.cells #[.int .i64 br, .int .i64 bn, .bool true, .string x] 39)) := hide (Below.at bb (heap_alloc_new wr (.cells #[.int .i64 br, .int .i64 bn, .bool true, .string x] 39)))
            replace B := hide (bthen (below_new B.out (.cells #[.int .i64 br, .int .i64 bn, .bool true, .string x] 39)) bb)
            clear bb
            generalize wr.heap.size = bX at *
            have cA0 := fun o0 => box_cell (box_alloc A.out o0) 0 rfl
            have cA1 := fun o0 => box_cell (box_alloc A.out o0) 1 rfl
            have cA2 := fun o0 => box_cell (box_alloc A.out o0) 2 rfl
            have cA3 := fun o0 => box_cell (box_alloc A.out o0) 3 rfl
            have cA4 := fun o0 => box_cell (box_alloc A.out o0) 4 rfl
            have cX0 := fun o0 => box_cell (box_alloc X.out o0) 0 rfl
            have cX1 := fun o0 => box_cell (box_alloc X.out o0) 1 rfl
            have cX2 := fun o0 => box_cell (box_alloc X.out o0) 2 rfl
            have cX3 := fun o0 => box_cell (box_alloc X.out o0) 3 rfl
            go_wp2_with fail
            refine (T1.out _).mono ?_
            rintro e w2 ⟨rfl, bb⟩
            clear cA0 cA1 cA2 cA3 cA4 cX0 cX1 cX2 cX3
            have hlAP := heap_lt A.out
            have hlXP := heap_lt X.out
            have hwP := B.out.size
            replace A := hide (Below.at bb (box_alloc A.out (.cells #[.int .i64 br, .int .i64 bn, .int .i64 tr, .int .i64 tn, .string v] 25)))
            replace X := hide (Below.at bb (box_alloc X.out (.cells #[.int .i64 br, .int .i64 bn, .int .i64 tr, .int .i64 tn, .string v] 25)))
            have P : Hid (w2.heap[w1.heap.size]? = some (.cells #[.int .i64 br, .int .i64 bn, .int .i64 tr, .int .i64 tn, .string v] 25)) := hide (Below.at bb (heap_alloc_new w1 (.cells #[.int .i64 br, .int .i64 bn, .int .i64 tr, .int .i64 tn, .string v] 25)))
            replace B := hide (bthen (below_new B.out (.cells #[.int .i64 br, .int .i64 bn, .int .i64 tr, .int .i64 tn, .string v] 25)) bb)
            clear bb
            generalize w1.heap.size = bP at *
            have cA0 := box_cell A.out 0 rfl
            have cA1 := box_cell A.out 1 rfl
            have cA2 := box_cell A.out 2 rfl
            have cA3 := box_cell A.out 3 rfl
            have cA4 := box_cell A.out 4 rfl
            have cX0 := box_cell X.out 0 rfl
            have cX1 := box_cell X.out 1 rfl
            have cX2 := box_cell X.out 2 rfl
            have cX3 := box_cell X.out 3 rfl
            have cP0 := box_cell P.out 0 rfl
            have fP0 := box_free P.out 0
            have cP1 := box_cell P.out 1 rfl
            have fP1 := box_free P.out 1
            have cP2 := box_cell P.out 2 rfl
            have fP2 := box_free P.out 2
            have cP3 := box_cell P.out 3 rfl
            have fP3 := box_free P.out 3
            have cP4 := box_cell P.out 4 rfl
            have fP4 := box_free P.out 4
            have sA0 := box_cell (set5_apart (.int .i64 pr) (.int .i64 pn) (.int .i64 tr) (.int .i64 tn) (.string v) A.out (by omega : bA ≠ bP)) 0 rfl
            have sA1 := box_cell (set5_apart (.int .i64 pr) (.int .i64 pn) (.int .i64 tr) (.int .i64 tn) (.string v) A.out (by omega : bA ≠ bP)) 1 rfl
            have sA2 := box_cell (set5_apart (.int .i64 pr) (.int .i64 pn) (.int .i64 tr) (.int .i64 tn) (.string v) A.out (by omega : bA ≠ bP)) 2 rfl
            have sA3 := box_cell (set5_apart (.int .i64 pr) (.int .i64 pn) (.int .i64 tr) (.int .i64 tn) (.string v) A.out (by omega : bA ≠ bP)) 3 rfl
            have sA4 := box_cell (set5_apart (.int .i64 pr) (.int .i64 pn) (.int .i64 tr) (.int .i64 tn) (.string v) A.out (by omega : bA ≠ bP)) 4 rfl
            have sX0 := box_cell (set5_apart (.int .i64 pr) (.int .i64 pn) (.int .i64 tr) (.int .i64 tn) (.string v) X.out (by omega : bX ≠ bP)) 0 rfl
            have sX1 := box_cell (set5_apart (.int .i64 pr) (.int .i64 pn) (.int .i64 tr) (.int .i64 tn) (.string v) X.out (by omega : bX ≠ bP)) 1 rfl
            have sX2 := box_cell (set5_apart (.int .i64 pr) (.int .i64 pn) (.int .i64 tr) (.int .i64 tn) (.string v) X.out (by omega : bX ≠ bP)) 2 rfl
            have sX3 := box_cell (set5_apart (.int .i64 pr) (.int .i64 pn) (.int .i64 tr) (.int .i64 tn) (.string v) X.out (by omega : bX ≠ bP)) 3 rfl
            have sP0 := box_cell (set5_box (.int .i64 pr) (.int .i64 pn) (.int .i64 tr) (.int .i64 tn) (.string v) P.out) 0 rfl
            have sP1 := box_cell (set5_box (.int .i64 pr) (.int .i64 pn) (.int .i64 tr) (.int .i64 tn) (.string v) P.out) 1 rfl
            have sP2 := box_cell (set5_box (.int .i64 pr) (.int .i64 pn) (.int .i64 tr) (.int .i64 tn) (.string v) P.out) 2 rfl
            have sP3 := box_cell (set5_box (.int .i64 pr) (.int .i64 pn) (.int .i64 tr) (.int .i64 tn) (.string v) P.out) 3 rfl
            have sP4 := box_cell (set5_box (.int .i64 pr) (.int .i64 pn) (.int .i64 tr) (.int .i64 tn) (.string v) P.out) 4 rfl
            simp only [set5] at sA0 sA1 sA2 sA3 sA4 sX0 sX1 sX2 sX3 sP0 sP1 sP2 sP3 sP4
            go_wp2_with fail
            refine (LS.out _ _ _ _ _).mono ?_
            rintro e w3 ⟨rfl, bb⟩
            clear cA0 cA1 cA2 cA3 cA4 cX0 cX1 cX2 cX3 cP0 fP0 cP1 fP1 cP2 fP2 cP3 fP3 cP4 fP4 sA0 sA1 sA2 sA3 sA4 sX0 sX1 sX2 sX3 sP0 sP1 sP2 sP3 sP4
            replace A := hide (Below.at bb (set5_apart (.int .i64 pr) (.int .i64 pn) (.int .i64 tr) (.int .i64 tn) (.string v) A.out (by omega : bA ≠ bP)))
            replace X := hide (Below.at bb (set5_apart (.int .i64 pr) (.int .i64 pn) (.int .i64 tr) (.int .i64 tn) (.string v) X.out (by omega : bX ≠ bP)))
            replace P := hide (Below.at bb (set5_box (.int .i64 pr) (.int .i64 pn) (.int .i64 tr) (.int .i64 tn) (.string v) P.out))
            replace B := hide (bthen (set5_below (.int .i64 pr) (.int .i64 pn) (.int .i64 tr) (.int .i64 tn) (.string v) B.out (by omega)) bb)
            clear bb
            have cA0 := box_cell A.out 0 rfl
            have cA1 := box_cell A.out 1 rfl
            have cA2 := box_cell A.out 2 rfl
            have cA3 := box_cell A.out 3 rfl
            have cA4 := box_cell A.out 4 rfl
            have cX0 := box_cell X.out 0 rfl
            have cX1 := box_cell X.out 1 rfl
            have cX2 := box_cell X.out 2 rfl
            have cX3 := box_cell X.out 3 rfl
            have cP0 := box_cell P.out 0 rfl
            have cP1 := box_cell P.out 1 rfl
            have cP2 := box_cell P.out 2 rfl
            have cP3 := box_cell P.out 3 rfl
            have cP4 := box_cell P.out 4 rfl
            go_wp2_with fail
            refine (LS.out _ _ _ _ _).mono ?_
            rintro e w4 ⟨rfl, bb⟩
            clear cA0 cA1 cA2 cA3 cA4 cX0 cX1 cX2 cX3 cP0 cP1 cP2 cP3 cP4
            replace A := hide (Below.at bb A.out)
            replace X := hide (Below.at bb X.out)
            replace P := hide (Below.at bb P.out)
            replace B := hide (bthen B.out bb)
            clear bb
            have cA0 := box_cell A.out 0 rfl
            have cA1 := box_cell A.out 1 rfl
            have cA2 := box_cell A.out 2 rfl
            have cA3 := box_cell A.out 3 rfl
            have cA4 := box_cell A.out 4 rfl
            have cX0 := box_cell X.out 0 rfl
            have cX1 := box_cell X.out 1 rfl
            have cX2 := box_cell X.out 2 rfl
            have cX3 := box_cell X.out 3 rfl
            have cP0 := box_cell P.out 0 rfl
            have cP1 := box_cell P.out 1 rfl
            have cP2 := box_cell P.out 2 rfl
            have cP3 := box_cell P.out 3 rfl
            have cP4 := box_cell P.out 4 rfl
            go_wp2_with fail
            refine (LS.out _ _ _ _ _).mono ?_
            rintro e w5 ⟨rfl, bb⟩
            clear cA0 cA1 cA2 cA3 cA4 cX0 cX1 cX2 cX3 cP0 cP1 cP2 cP3 cP4
            replace A := hide (Below.at bb A.out)
            replace X := hide (Below.at bb X.out)
            replace P := hide (Below.at bb P.out)
            replace B := hide (bthen B.out bb)
            clear bb
            have cA0 := box_cell A.out 0 rfl
            have fA0 := box_free A.out 0
            have cA1 := box_cell A.out 1 rfl
            have fA1 := box_free A.out 1
            have cA2 := box_cell A.out 2 rfl
            have fA2 := box_free A.out 2
            have cA3 := box_cell A.out 3 rfl
            have fA3 := box_free A.out 3
            have cA4 := box_cell A.out 4 rfl
            have fA4 := box_free A.out 4
            have cX0 := box_cell X.out 0 rfl
            have cX1 := box_cell X.out 1 rfl
            have cX2 := box_cell X.out 2 rfl
            have cX3 := box_cell X.out 3 rfl
            have cP0 := box_cell P.out 0 rfl
            have cP1 := box_cell P.out 1 rfl
            have cP2 := box_cell P.out 2 rfl
            have cP3 := box_cell P.out 3 rfl
            have cP4 := box_cell P.out 4 rfl
            go_wp2
            go_roundw
            case rel => exact ⟨i + 1, ⟨⟨pr, pn⟩, ⟨tr, tn⟩, v⟩, by go_num, by omega, NR, set5_box (.int .i64 pr) (.int .i64 pn) (.int .i64 tr) (.int .i64 tn) (.string v) A.out, set5_below (.int .i64 pr) (.int .i64 pn) (.int .i64 tr) (.int .i64 tn) (.string v) B.out (by omega)⟩
            case measure => simp [intOf]; omega
          | true =>
            obtain ⟨_, nr2, hsm⟩ := TR.out h2
            rw [h2] at T1
            simp only [if_true] at T1
            have NR := hide nr2
            clear TR HR nr h2 nr2
            obtain ⟨⟨pr, pn⟩, ⟨tr, tn⟩, v⟩ := a
            obtain ⟨br, bn⟩ := b
            simp only [AC.d, BL.v] at *
            rw [same_beq] at hsm
            by_cases e1 : br = tr
            · subst e1
              by_cases e2 : bn = tn
              · subst e2
                have hv := hsm (by simp)
                have hv2 : (x.toList == v.toList) = true := by rw [hv]; simp
                have hv3 : (x.toList != v.toList) = false := by rw [hv]; simp
                clear hsm hv
                have cA0 := fun o0 => box_cell (box_alloc A.out o0) 0 rfl
                have cA1 := fun o0 => box_cell (box_alloc A.out o0) 1 rfl
                have cA2 := fun o0 => box_cell (box_alloc A.out o0) 2 rfl
                have cA3 := fun o0 => box_cell (box_alloc A.out o0) 3 rfl
                have cA4 := fun o0 => box_cell (box_alloc A.out o0) 4 rfl
                go_wp2_with fail
                refine (P1.out _).mono ?_
                rintro e w1 ⟨rfl, bb⟩
                clear cA0 cA1 cA2 cA3 cA4
                have hlAX := heap_lt A.out
                have hwX := B.out.size
                replace A := hide (Below.at bb (box_alloc A.out (.cells #[.int .i64 br, .int .i64 bn, .bool true, .string x] 39)))
                have X : Hid (w1.heap[wr.heap.size]? = some (.cells #[.int .i64 br, .int .i64 bn, .bool true, .string x] 39)) := hide (Below.at bb (heap_alloc_new wr (.cells #[.int .i64 br, .int .i64 bn, .bool true, .string x] 39)))
                replace B := hide (bthen (below_new B.out (.cells #[.int .i64 br, .int .i64 bn, .bool true, .string x] 39)) bb)
                clear bb
                generalize wr.heap.size = bX at *
                have cA0 := fun o0 => box_cell (box_alloc A.out o0) 0 rfl
                have cA1 := fun o0 => box_cell (box_alloc A.out o0) 1 rfl
                have cA2 := fun o0 => box_cell (box_alloc A.out o0) 2 rfl
                have cA3 := fun o0 => box_cell (box_alloc A.out o0) 3 rfl
                have cA4 := fun o0 => box_cell (box_alloc A.out o0) 4 rfl
                have cX0 := fun o0 => box_cell (box_alloc X.out o0) 0 rfl
                have cX1 := fun o0 => box_cell (box_alloc X.out o0) 1 rfl
                have cX2 := fun o0 => box_cell (box_alloc X.out o0) 2 rfl
                have cX3 := fun o0 => box_cell (box_alloc X.out o0) 3 rfl
                go_wp2_with fail
                refine (T1.out _).mono ?_
                rintro e w2 ⟨rfl, bb⟩
                clear cA0 cA1 cA2 cA3 cA4 cX0 cX1 cX2 cX3
                have hlAP := heap_lt A.out
                have hlXP := heap_lt X.out
                have hwP := B.out.size
                replace A := hide (Below.at bb (box_alloc A.out (.cells #[.int .i64 br, .int .i64 bn, .int .i64 br, .int .i64 bn, .string v] 25)))
                replace X := hide (Below.at bb (box_alloc X.out (.cells #[.int .i64 br, .int .i64 bn, .int .i64 br, .int .i64 bn, .string v] 25)))
                have P : Hid (w2.heap[w1.heap.size]? = some (.cells #[.int .i64 br, .int .i64 bn, .int .i64 br, .int .i64 bn, .string v] 25)) := hide (Below.at bb (heap_alloc_new w1 (.cells #[.int .i64 br, .int .i64 bn, .int .i64 br, .int .i64 bn, .string v] 25)))
                replace B := hide (bthen (below_new B.out (.cells #[.int .i64 br, .int .i64 bn, .int .i64 br, .int .i64 bn, .string v] 25)) bb)
                clear bb
                generalize w1.heap.size = bP at *
                have cA0 := box_cell A.out 0 rfl
                have cA1 := box_cell A.out 1 rfl
                have cA2 := box_cell A.out 2 rfl
                have cA3 := box_cell A.out 3 rfl
                have cA4 := box_cell A.out 4 rfl
                have cX0 := box_cell X.out 0 rfl
                have cX1 := box_cell X.out 1 rfl
                have cX2 := box_cell X.out 2 rfl
                have cX3 := box_cell X.out 3 rfl
                have cP0 := box_cell P.out 0 rfl
                have fP0 := box_free P.out 0
                have cP1 := box_cell P.out 1 rfl
                have fP1 := box_free P.out 1
                have cP2 := box_cell P.out 2 rfl
                have fP2 := box_free P.out 2
                have cP3 := box_cell P.out 3 rfl
                have fP3 := box_free P.out 3
                have cP4 := box_cell P.out 4 rfl
                have fP4 := box_free P.out 4
                have sA0 := box_cell (set5_apart (.int .i64 br) (.int .i64 bn) (.int .i64 br) (.int .i64 bn) (.string x) A.out (by omega : bA ≠ bP)) 0 rfl
                have sA1 := box_cell (set5_apart (.int .i64 br) (.int .i64 bn) (.int .i64 br) (.int .i64 bn) (.string x) A.out (by omega : bA ≠ bP)) 1 rfl
                have sA2 := box_cell (set5_apart (.int .i64 br) (.int .i64 bn) (.int .i64 br) (.int .i64 bn) (.string x) A.out (by omega : bA ≠ bP)) 2 rfl
                have sA3 := box_cell (set5_apart (.int .i64 br) (.int .i64 bn) (.int .i64 br) (.int .i64 bn) (.string x) A.out (by omega : bA ≠ bP)) 3 rfl
                have sA4 := box_cell (set5_apart (.int .i64 br) (.int .i64 bn) (.int .i64 br) (.int .i64 bn) (.string x) A.out (by omega : bA ≠ bP)) 4 rfl
                have sX0 := box_cell (set5_apart (.int .i64 br) (.int .i64 bn) (.int .i64 br) (.int .i64 bn) (.string x) X.out (by omega : bX ≠ bP)) 0 rfl
                have sX1 := box_cell (set5_apart (.int .i64 br) (.int .i64 bn) (.int .i64 br) (.int .i64 bn) (.string x) X.out (by omega : bX ≠ bP)) 1 rfl
                have sX2 := box_cell (set5_apart (.int .i64 br) (.int .i64 bn) (.int .i64 br) (.int .i64 bn) (.string x) X.out (by omega : bX ≠ bP)) 2 rfl
                have sX3 := box_cell (set5_apart (.int .i64 br) (.int .i64 bn) (.int .i64 br) (.int .i64 bn) (.string x) X.out (by omega : bX ≠ bP)) 3 rfl
                have sP0 := box_cell (set5_box (.int .i64 br) (.int .i64 bn) (.int .i64 br) (.int .i64 bn) (.string x) P.out) 0 rfl
                have sP1 := box_cell (set5_box (.int .i64 br) (.int .i64 bn) (.int .i64 br) (.int .i64 bn) (.string x) P.out) 1 rfl
                have sP2 := box_cell (set5_box (.int .i64 br) (.int .i64 bn) (.int .i64 br) (.int .i64 bn) (.string x) P.out) 2 rfl
                have sP3 := box_cell (set5_box (.int .i64 br) (.int .i64 bn) (.int .i64 br) (.int .i64 bn) (.string x) P.out) 3 rfl
                have sP4 := box_cell (set5_box (.int .i64 br) (.int .i64 bn) (.int .i64 br) (.int .i64 bn) (.string x) P.out) 4 rfl
                simp only [set5] at sA0 sA1 sA2 sA3 sA4 sX0 sX1 sX2 sX3 sP0 sP1 sP2 sP3 sP4
                go_wp2_with fail
                refine (LS.out _ _ _ _ _).mono ?_
                rintro e w3 ⟨rfl, bb⟩
                clear cA0 cA1 cA2 cA3 cA4 cX0 cX1 cX2 cX3 cP0 fP0 cP1 fP1 cP2 fP2 cP3 fP3 cP4 fP4 sA0 sA1 sA2 sA3 sA4 sX0 sX1 sX2 sX3 sP0 sP1 sP2 sP3 sP4
                replace A := hide (Below.at bb (set5_apart (.int .i64 br) (.int .i64 bn) (.int .i64 br) (.int .i64 bn) (.string x) A.out (by omega : bA ≠ bP)))
                replace X := hide (Below.at bb (set5_apart (.int .i64 br) (.int .i64 bn) (.int .i64 br) (.int .i64 bn) (.string x) X.out (by omega : bX ≠ bP)))
                replace P := hide (Below.at bb (set5_box (.int .i64 br) (.int .i64 bn) (.int .i64 br) (.int .i64 bn) (.string x) P.out))
                replace B := hide (bthen (set5_below (.int .i64 br) (.int .i64 bn) (.int .i64 br) (.int .i64 bn) (.string x) B.out (by omega)) bb)
                clear bb
                have cA0 := box_cell A.out 0 rfl
                have cA1 := box_cell A.out 1 rfl
                have cA2 := box_cell A.out 2 rfl
                have cA3 := box_cell A.out 3 rfl
                have cA4 := box_cell A.out 4 rfl
                have cX0 := box_cell X.out 0 rfl
                have cX1 := box_cell X.out 1 rfl
                have cX2 := box_cell X.out 2 rfl
                have cX3 := box_cell X.out 3 rfl
                have cP0 := box_cell P.out 0 rfl
                have cP1 := box_cell P.out 1 rfl
                have cP2 := box_cell P.out 2 rfl
                have cP3 := box_cell P.out 3 rfl
                have cP4 := box_cell P.out 4 rfl
                go_wp2_with fail
                refine (LS.out _ _ _ _ _).mono ?_
                rintro e w4 ⟨rfl, bb⟩
                clear cA0 cA1 cA2 cA3 cA4 cX0 cX1 cX2 cX3 cP0 cP1 cP2 cP3 cP4
                replace A := hide (Below.at bb A.out)
                replace X := hide (Below.at bb X.out)
                replace P := hide (Below.at bb P.out)
                replace B := hide (bthen B.out bb)
                clear bb
                have cA0 := box_cell A.out 0 rfl
                have cA1 := box_cell A.out 1 rfl
                have cA2 := box_cell A.out 2 rfl
                have cA3 := box_cell A.out 3 rfl
                have cA4 := box_cell A.out 4 rfl
                have cX0 := box_cell X.out 0 rfl
                have cX1 := box_cell X.out 1 rfl
                have cX2 := box_cell X.out 2 rfl
                have cX3 := box_cell X.out 3 rfl
                have cP0 := box_cell P.out 0 rfl
                have cP1 := box_cell P.out 1 rfl
                have cP2 := box_cell P.out 2 rfl
                have cP3 := box_cell P.out 3 rfl
                have cP4 := box_cell P.out 4 rfl
                go_wp2_with fail
                refine (LS.out _ _ _ _ _).mono ?_
                rintro e w5 ⟨rfl, bb⟩
                clear cA0 cA1 cA2 cA3 cA4 cX0 cX1 cX2 cX3 cP0 cP1 cP2 cP3 cP4
                replace A := hide (Below.at bb A.out)
                replace X := hide (Below.at bb X.out)
                replace P := hide (Below.at bb P.out)
                replace B := hide (bthen B.out bb)
                clear bb
                have cA0 := box_cell A.out 0 rfl
                have cA1 := box_cell A.out 1 rfl
                have cA2 := box_cell A.out 2 rfl
                have cA3 := box_cell A.out 3 rfl
                have cA4 := box_cell A.out 4 rfl
                have cX0 := box_cell X.out 0 rfl
                have cX1 := box_cell X.out 1 rfl
                have cX2 := box_cell X.out 2 rfl
                have cX3 := box_cell X.out 3 rfl
                have cP0 := box_cell P.out 0 rfl
                have cP1 := box_cell P.out 1 rfl
                have cP2 := box_cell P.out 2 rfl
                have cP3 := box_cell P.out 3 rfl
                have cP4 := box_cell P.out 4 rfl
                go_wp2_with fail
                refine (LS.out _ _ _ _ _).mono ?_
                rintro e w6 ⟨rfl, bb⟩
                clear cA0 cA1 cA2 cA3 cA4 cX0 cX1 cX2 cX3 cP0 cP1 cP2 cP3 cP4
                replace A := hide (Below.at bb A.out)
                replace X := hide (Below.at bb X.out)
                replace P := hide (Below.at bb P.out)
                replace B := hide (bthen B.out bb)
                clear bb
                have cA0 := box_cell A.out 0 rfl
                have fA0 := box_free A.out 0
                have cA1 := box_cell A.out 1 rfl
                have fA1 := box_free A.out 1
                have cA2 := box_cell A.out 2 rfl
                have fA2 := box_free A.out 2
                have cA3 := box_cell A.out 3 rfl
                have fA3 := box_free A.out 3
                have cA4 := box_cell A.out 4 rfl
                have fA4 := box_free A.out 4
                have cX0 := box_cell X.out 0 rfl
                have cX1 := box_cell X.out 1 rfl
                have cX2 := box_cell X.out 2 rfl
                have cX3 := box_cell X.out 3 rfl
                have cP0 := box_cell P.out 0 rfl
                have cP1 := box_cell P.out 1 rfl
                have cP2 := box_cell P.out 2 rfl
                have cP3 := box_cell P.out 3 rfl
                have cP4 := box_cell P.out 4 rfl
                go_wp2
                go_roundw
                case rel => exact ⟨i + 1, ⟨⟨br, bn⟩, ⟨br, bn⟩, x⟩, by go_num, by omega, NR, set5_box (.int .i64 br) (.int .i64 bn) (.int .i64 br) (.int .i64 bn) (.string x) A.out, set5_below (.int .i64 br) (.int .i64 bn) (.int .i64 br) (.int .i64 bn) (.string x) B.out (by omega)⟩
                case measure => simp [intOf]; omega
              · have g : (bn == tn) = false := by rw [beq_eq_false_iff_ne]; exact e2
                clear hsm e2
                have cA0 := fun o0 => box_cell (box_alloc A.out o0) 0 rfl
                have cA1 := fun o0 => box_cell (box_alloc A.out o0) 1 rfl
                have cA2 := fun o0 => box_cell (box_alloc A.out o0) 2 rfl
                have cA3 := fun o0 => box_cell (box_alloc A.out o0) 3 rfl
                have cA4 := fun o0 => box_cell (box_alloc A.out o0) 4 rfl
                go_wp2_with fail
                refine (P1.out _).mono ?_
                rintro e w1 ⟨rfl, bb⟩
                clear cA0 cA1 cA2 cA3 cA4
                have hlAX := heap_lt A.out
                have hwX := B.out.size
                replace A := hide (Below.at bb (box_alloc A.out (.cells #[.int .i64 br, .int .i64 bn, .bool true, .string x] 39)))
                have X : Hid (w1.heap[wr.heap.size]? = some (.cells #[.int .i64 br, .int .i64 bn, .bool true, .string x] 39)) := hide (Below.at bb (heap_alloc_new wr (.cells #[.int .i64 br, .int .i64 bn, .bool true, .string x] 39)))
                replace B := hide (bthen (below_new B.out (.cells #[.int .i64 br, .int .i64 bn, .bool true, .string x] 39)) bb)
                clear bb
                generalize wr.heap.size = bX at *
                have cA0 := fun o0 => box_cell (box_alloc A.out o0) 0 rfl
                have cA1 := fun o0 => box_cell (box_alloc A.out o0) 1 rfl
                have cA2 := fun o0 => box_cell (box_alloc A.out o0) 2 rfl
                have cA3 := fun o0 => box_cell (box_alloc A.out o0) 3 rfl
                have cA4 := fun o0 => box_cell (box_alloc A.out o0) 4 rfl
                have cX0 := fun o0 => box_cell (box_alloc X.out o0) 0 rfl
                have cX1 := fun o0 => box_cell (box_alloc X.out o0) 1 rfl
                have cX2 := fun o0 => box_cell (box_alloc X.out o0) 2 rfl
                have cX3 := fun o0 => box_cell (box_alloc X.out o0) 3 rfl
                go_wp2_with fail
                refine (T1.out _).mono ?_
                rintro e w2 ⟨rfl, bb⟩
                clear cA0 cA1 cA2 cA3 cA4 cX0 cX1 cX2 cX3
                have hlAP := heap_lt A.out
                have hlXP := heap_lt X.out
                have hwP := B.out.size
                replace A := hide (Below.at bb (box_alloc A.out (.cells #[.int .i64 br, .int .i64 bn, .int .i64 br, .int .i64 tn, .string v] 25)))
                replace X := hide (Below.at bb (box_alloc X.out (.cells #[.int .i64 br, .int .i64 bn, .int .i64 br, .int .i64 tn, .string v] 25)))
                have P : Hid (w2.heap[w1.heap.size]? = some (.cells #[.int .i64 br, .int .i64 bn, .int .i64 br, .int .i64 tn, .string v] 25)) := hide (Below.at bb (heap_alloc_new w1 (.cells #[.int .i64 br, .int .i64 bn, .int .i64 br, .int .i64 tn, .string v] 25)))
                replace B := hide (bthen (below_new B.out (.cells #[.int .i64 br, .int .i64 bn, .int .i64 br, .int .i64 tn, .string v] 25)) bb)
                clear bb
                generalize w1.heap.size = bP at *
                have cA0 := box_cell A.out 0 rfl
                have cA1 := box_cell A.out 1 rfl
                have cA2 := box_cell A.out 2 rfl
                have cA3 := box_cell A.out 3 rfl
                have cA4 := box_cell A.out 4 rfl
                have cX0 := box_cell X.out 0 rfl
                have cX1 := box_cell X.out 1 rfl
                have cX2 := box_cell X.out 2 rfl
                have cX3 := box_cell X.out 3 rfl
                have cP0 := box_cell P.out 0 rfl
                have fP0 := box_free P.out 0
                have cP1 := box_cell P.out 1 rfl
                have fP1 := box_free P.out 1
                have cP2 := box_cell P.out 2 rfl
                have fP2 := box_free P.out 2
                have cP3 := box_cell P.out 3 rfl
                have fP3 := box_free P.out 3
                have cP4 := box_cell P.out 4 rfl
                have fP4 := box_free P.out 4
                have sA0 := box_cell (set5_apart (.int .i64 br) (.int .i64 bn) (.int .i64 br) (.int .i64 bn) (.string x) A.out (by omega : bA ≠ bP)) 0 rfl
                have sA1 := box_cell (set5_apart (.int .i64 br) (.int .i64 bn) (.int .i64 br) (.int .i64 bn) (.string x) A.out (by omega : bA ≠ bP)) 1 rfl
                have sA2 := box_cell (set5_apart (.int .i64 br) (.int .i64 bn) (.int .i64 br) (.int .i64 bn) (.string x) A.out (by omega : bA ≠ bP)) 2 rfl
                have sA3 := box_cell (set5_apart (.int .i64 br) (.int .i64 bn) (.int .i64 br) (.int .i64 bn) (.string x) A.out (by omega : bA ≠ bP)) 3 rfl
                have sA4 := box_cell (set5_apart (.int .i64 br) (.int .i64 bn) (.int .i64 br) (.int .i64 bn) (.string x) A.out (by omega : bA ≠ bP)) 4 rfl
                have sX0 := box_cell (set5_apart (.int .i64 br) (.int .i64 bn) (.int .i64 br) (.int .i64 bn) (.string x) X.out (by omega : bX ≠ bP)) 0 rfl
                have sX1 := box_cell (set5_apart (.int .i64 br) (.int .i64 bn) (.int .i64 br) (.int .i64 bn) (.string x) X.out (by omega : bX ≠ bP)) 1 rfl
                have sX2 := box_cell (set5_apart (.int .i64 br) (.int .i64 bn) (.int .i64 br) (.int .i64 bn) (.string x) X.out (by omega : bX ≠ bP)) 2 rfl
                have sX3 := box_cell (set5_apart (.int .i64 br) (.int .i64 bn) (.int .i64 br) (.int .i64 bn) (.string x) X.out (by omega : bX ≠ bP)) 3 rfl
                have sP0 := box_cell (set5_box (.int .i64 br) (.int .i64 bn) (.int .i64 br) (.int .i64 bn) (.string x) P.out) 0 rfl
                have sP1 := box_cell (set5_box (.int .i64 br) (.int .i64 bn) (.int .i64 br) (.int .i64 bn) (.string x) P.out) 1 rfl
                have sP2 := box_cell (set5_box (.int .i64 br) (.int .i64 bn) (.int .i64 br) (.int .i64 bn) (.string x) P.out) 2 rfl
                have sP3 := box_cell (set5_box (.int .i64 br) (.int .i64 bn) (.int .i64 br) (.int .i64 bn) (.string x) P.out) 3 rfl
                have sP4 := box_cell (set5_box (.int .i64 br) (.int .i64 bn) (.int .i64 br) (.int .i64 bn) (.string x) P.out) 4 rfl
                simp only [set5] at sA0 sA1 sA2 sA3 sA4 sX0 sX1 sX2 sX3 sP0 sP1 sP2 sP3 sP4
                go_wp2_with fail
                refine (LS.out _ _ _ _ _).mono ?_
                rintro e w3 ⟨rfl, bb⟩
                clear cA0 cA1 cA2 cA3 cA4 cX0 cX1 cX2 cX3 cP0 fP0 cP1 fP1 cP2 fP2 cP3 fP3 cP4 fP4 sA0 sA1 sA2 sA3 sA4 sX0 sX1 sX2 sX3 sP0 sP1 sP2 sP3 sP4
                replace A := hide (Below.at bb (set5_apart (.int .i64 br) (.int .i64 bn) (.int .i64 br) (.int .i64 bn) (.string x) A.out (by omega : bA ≠ bP)))
                replace X := hide (Below.at bb (set5_apart (.int .i64 br) (.int .i64 bn) (.int .i64 br) (.int .i64 bn) (.string x) X.out (by omega : bX ≠ bP)))
                replace P := hide (Below.at bb (set5_box (.int .i64 br) (.int .i64 bn) (.int .i64 br) (.int .i64 bn) (.string x) P.out))
                replace B := hide (bthen (set5_below (.int .i64 br) (.int .i64 bn) (.int .i64 br) (.int .i64 bn) (.string x) B.out (by omega)) bb)
                clear bb
                have cA0 := box_cell A.out 0 rfl
                have cA1 := box_cell A.out 1 rfl
                have cA2 := box_cell A.out 2 rfl
                have cA3 := box_cell A.out 3 rfl
                have cA4 := box_cell A.out 4 rfl
                have cX0 := box_cell X.out 0 rfl
                have cX1 := box_cell X.out 1 rfl
                have cX2 := box_cell X.out 2 rfl
                have cX3 := box_cell X.out 3 rfl
                have cP0 := box_cell P.out 0 rfl
                have cP1 := box_cell P.out 1 rfl
                have cP2 := box_cell P.out 2 rfl
                have cP3 := box_cell P.out 3 rfl
                have cP4 := box_cell P.out 4 rfl
                go_wp2_with fail
                refine (LS.out _ _ _ _ _).mono ?_
                rintro e w4 ⟨rfl, bb⟩
                clear cA0 cA1 cA2 cA3 cA4 cX0 cX1 cX2 cX3 cP0 cP1 cP2 cP3 cP4
                replace A := hide (Below.at bb A.out)
                replace X := hide (Below.at bb X.out)
                replace P := hide (Below.at bb P.out)
                replace B := hide (bthen B.out bb)
                clear bb
                have cA0 := box_cell A.out 0 rfl
                have cA1 := box_cell A.out 1 rfl
                have cA2 := box_cell A.out 2 rfl
                have cA3 := box_cell A.out 3 rfl
                have cA4 := box_cell A.out 4 rfl
                have cX0 := box_cell X.out 0 rfl
                have cX1 := box_cell X.out 1 rfl
                have cX2 := box_cell X.out 2 rfl
                have cX3 := box_cell X.out 3 rfl
                have cP0 := box_cell P.out 0 rfl
                have cP1 := box_cell P.out 1 rfl
                have cP2 := box_cell P.out 2 rfl
                have cP3 := box_cell P.out 3 rfl
                have cP4 := box_cell P.out 4 rfl
                go_wp2_with fail
                refine (LS.out _ _ _ _ _).mono ?_
                rintro e w5 ⟨rfl, bb⟩
                clear cA0 cA1 cA2 cA3 cA4 cX0 cX1 cX2 cX3 cP0 cP1 cP2 cP3 cP4
                replace A := hide (Below.at bb A.out)
                replace X := hide (Below.at bb X.out)
                replace P := hide (Below.at bb P.out)
                replace B := hide (bthen B.out bb)
                clear bb
                have cA0 := box_cell A.out 0 rfl
                have cA1 := box_cell A.out 1 rfl
                have cA2 := box_cell A.out 2 rfl
                have cA3 := box_cell A.out 3 rfl
                have cA4 := box_cell A.out 4 rfl
                have cX0 := box_cell X.out 0 rfl
                have cX1 := box_cell X.out 1 rfl
                have cX2 := box_cell X.out 2 rfl
                have cX3 := box_cell X.out 3 rfl
                have cP0 := box_cell P.out 0 rfl
                have cP1 := box_cell P.out 1 rfl
                have cP2 := box_cell P.out 2 rfl
                have cP3 := box_cell P.out 3 rfl
                have cP4 := box_cell P.out 4 rfl
                go_wp2_with fail
                refine (LS.out _ _ _ _ _).mono ?_
                rintro e w6 ⟨rfl, bb⟩
                clear cA0 cA1 cA2 cA3 cA4 cX0 cX1 cX2 cX3 cP0 cP1 cP2 cP3 cP4
                replace A := hide (Below.at bb A.out)
                replace X := hide (Below.at bb X.out)
                replace P := hide (Below.at bb P.out)
                replace B := hide (bthen B.out bb)
                clear bb
                have cA0 := box_cell A.out 0 rfl
                have fA0 := box_free A.out 0
                have cA1 := box_cell A.out 1 rfl
                have fA1 := box_free A.out 1
                have cA2 := box_cell A.out 2 rfl
                have fA2 := box_free A.out 2
                have cA3 := box_cell A.out 3 rfl
                have fA3 := box_free A.out 3
                have cA4 := box_cell A.out 4 rfl
                have fA4 := box_free A.out 4
                have cX0 := box_cell X.out 0 rfl
                have cX1 := box_cell X.out 1 rfl
                have cX2 := box_cell X.out 2 rfl
                have cX3 := box_cell X.out 3 rfl
                have cP0 := box_cell P.out 0 rfl
                have cP1 := box_cell P.out 1 rfl
                have cP2 := box_cell P.out 2 rfl
                have cP3 := box_cell P.out 3 rfl
                have cP4 := box_cell P.out 4 rfl
                go_wp2
                go_roundw
                case rel => exact ⟨i + 1, ⟨⟨br, bn⟩, ⟨br, bn⟩, x⟩, by go_num, by omega, NR, set5_box (.int .i64 br) (.int .i64 bn) (.int .i64 br) (.int .i64 bn) (.string x) A.out, set5_below (.int .i64 br) (.int .i64 bn) (.int .i64 br) (.int .i64 bn) (.string x) B.out (by omega)⟩
                case measure => simp [intOf]; omega
            · have g : (br == tr) = false := by rw [beq_eq_false_iff_ne]; exact e1
              clear hsm e1
              have cA0 := fun o0 => box_cell (box_alloc A.out o0) 0 rfl
              have cA1 := fun o0 => box_cell (box_alloc A.out o0) 1 rfl
              have cA2 := fun o0 => box_cell (box_alloc A.out o0) 2 rfl
              have cA3 := fun o0 => box_cell (box_alloc A.out o0) 3 rfl
              have cA4 := fun o0 => box_cell (box_alloc A.out o0) 4 rfl
              go_wp2_with fail
              refine (P1.out _).mono ?_
              rintro e w1 ⟨rfl, bb⟩
              clear cA0 cA1 cA2 cA3 cA4
              have hlAX := heap_lt A.out
              have hwX := B.out.size
              replace A := hide (Below.at bb (box_alloc A.out (.cells #[.int .i64 br, .int .i64 bn, .bool true, .string x] 39)))
              have X : Hid (w1.heap[wr.heap.size]? = some (.cells #[.int .i64 br, .int .i64 bn, .bool true, .string x] 39)) := hide (Below.at bb (heap_alloc_new wr (.cells #[.int .i64 br, .int .i64 bn, .bool true, .string x] 39)))
              replace B := hide (bthen (below_new B.out (.cells #[.int .i64 br, .int .i64 bn, .bool true, .string x] 39)) bb)
              clear bb
              generalize wr.heap.size = bX at *
              have cA0 := fun o0 => box_cell (box_alloc A.out o0) 0 rfl
              have cA1 := fun o0 => box_cell (box_alloc A.out o0) 1 rfl
              have cA2 := fun o0 => box_cell (box_alloc A.out o0) 2 rfl
              have cA3 := fun o0 => box_cell (box_alloc A.out o0) 3 rfl
              have cA4 := fun o0 => box_cell (box_alloc A.out o0) 4 rfl
              have cX0 := fun o0 => box_cell (box_alloc X.out o0) 0 rfl
              have cX1 := fun o0 => box_cell (box_alloc X.out o0) 1 rfl
              have cX2 := fun o0 => box_cell (box_alloc X.out o0) 2 rfl
              have cX3 := fun o0 => box_cell (box_alloc X.out o0) 3 rfl
              go_wp2_with fail
              refine (T1.out _).mono ?_
              rintro e w2 ⟨rfl, bb⟩
              clear cA0 cA1 cA2 cA3 cA4 cX0 cX1 cX2 cX3
              have hlAP := heap_lt A.out
              have hlXP := heap_lt X.out
              have hwP := B.out.size
              replace A := hide (Below.at bb (box_alloc A.out (.cells #[.int .i64 br, .int .i64 bn, .int .i64 tr, .int .i64 tn, .string v] 25)))
              replace X := hide (Below.at bb (box_alloc X.out (.cells #[.int .i64 br, .int .i64 bn, .int .i64 tr, .int .i64 tn, .string v] 25)))
              have P : Hid (w2.heap[w1.heap.size]? = some (.cells #[.int .i64 br, .int .i64 bn, .int .i64 tr, .int .i64 tn, .string v] 25)) := hide (Below.at bb (heap_alloc_new w1 (.cells #[.int .i64 br, .int .i64 bn, .int .i64 tr, .int .i64 tn, .string v] 25)))
              replace B := hide (bthen (below_new B.out (.cells #[.int .i64 br, .int .i64 bn, .int .i64 tr, .int .i64 tn, .string v] 25)) bb)
              clear bb
              generalize w1.heap.size = bP at *
              have cA0 := box_cell A.out 0 rfl
              have cA1 := box_cell A.out 1 rfl
              have cA2 := box_cell A.out 2 rfl
              have cA3 := box_cell A.out 3 rfl
              have cA4 := box_cell A.out 4 rfl
              have cX0 := box_cell X.out 0 rfl
              have cX1 := box_cell X.out 1 rfl
              have cX2 := box_cell X.out 2 rfl
              have cX3 := box_cell X.out 3 rfl
              have cP0 := box_cell P.out 0 rfl
              have fP0 := box_free P.out 0
              have cP1 := box_cell P.out 1 rfl
              have fP1 := box_free P.out 1
              have cP2 := box_cell P.out 2 rfl
              have fP2 := box_free P.out 2
              have cP3 := box_cell P.out 3 rfl
              have fP3 := box_free P.out 3
              have cP4 := box_cell P.out 4 rfl
              have fP4 := box_free P.out 4
              have sA0 := box_cell (set5_apart (.int .i64 br) (.int .i64 bn) (.int .i64 br) (.int .i64 bn) (.string x) A.out (by omega : bA ≠ bP)) 0 rfl
              have sA1 := box_cell (set5_apart (.int .i64 br) (.int .i64 bn) (.int .i64 br) (.int .i64 bn) (.string x) A.out (by omega : bA ≠ bP)) 1 rfl
              have sA2 := box_cell (set5_apart (.int .i64 br) (.int .i64 bn) (.int .i64 br) (.int .i64 bn) (.string x) A.out (by omega : bA ≠ bP)) 2 rfl
              have sA3 := box_cell (set5_apart (.int .i64 br) (.int .i64 bn) (.int .i64 br) (.int .i64 bn) (.string x) A.out (by omega : bA ≠ bP)) 3 rfl
              have sA4 := box_cell (set5_apart (.int .i64 br) (.int .i64 bn) (.int .i64 br) (.int .i64 bn) (.string x) A.out (by omega : bA ≠ bP)) 4 rfl
              have sX0 := box_cell (set5_apart (.int .i64 br) (.int .i64 bn) (.int .i64 br) (.int .i64 bn) (.string x) X.out (by omega : bX ≠ bP)) 0 rfl
              have sX1 := box_cell (set5_apart (.int .i64 br) (.int .i64 bn) (.int .i64 br) (.int .i64 bn) (.string x) X.out (by omega : bX ≠ bP)) 1 rfl
              have sX2 := box_cell (set5_apart (.int .i64 br) (.int .i64 bn) (.int .i64 br) (.int .i64 bn) (.string x) X.out (by omega : bX ≠ bP)) 2 rfl
              have sX3 := box_cell (set5_apart (.int .i64 br) (.int .i64 bn) (.int .i64 br) (.int .i64 bn) (.string x) X.out (by omega : bX ≠ bP)) 3 rfl
              have sP0 := box_cell (set5_box (.int .i64 br) (.int .i64 bn) (.int .i64 br) (.int .i64 bn) (.string x) P.out) 0 rfl
              have sP1 := box_cell (set5_box (.int .i64 br) (.int .i64 bn) (.int .i64 br) (.int .i64 bn) (.string x) P.out) 1 rfl
              have sP2 := box_cell (set5_box (.int .i64 br) (.int .i64 bn) (.int .i64 br) (.int .i64 bn) (.string x) P.out) 2 rfl
              have sP3 := box_cell (set5_box (.int .i64 br) (.int .i64 bn) (.int .i64 br) (.int .i64 bn) (.string x) P.out) 3 rfl
              have sP4 := box_cell (set5_box (.int .i64 br) (.int .i64 bn) (.int .i64 br) (.int .i64 bn) (.string x) P.out) 4 rfl
              simp only [set5] at sA0 sA1 sA2 sA3 sA4 sX0 sX1 sX2 sX3 sP0 sP1 sP2 sP3 sP4
              go_wp2_with fail
              refine (LS.out _ _ _ _ _).mono ?_
              rintro e w3 ⟨rfl, bb⟩
              clear cA0 cA1 cA2 cA3 cA4 cX0 cX1 cX2 cX3 cP0 fP0 cP1 fP1 cP2 fP2 cP3 fP3 cP4 fP4 sA0 sA1 sA2 sA3 sA4 sX0 sX1 sX2 sX3 sP0 sP1 sP2 sP3 sP4
              replace A := hide (Below.at bb (set5_apart (.int .i64 br) (.int .i64 bn) (.int .i64 br) (.int .i64 bn) (.string x) A.out (by omega : bA ≠ bP)))
              replace X := hide (Below.at bb (set5_apart (.int .i64 br) (.int .i64 bn) (.int .i64 br) (.int .i64 bn) (.string x) X.out (by omega : bX ≠ bP)))
              replace P := hide (Below.at bb (set5_box (.int .i64 br) (.int .i64 bn) (.int .i64 br) (.int .i64 bn) (.string x) P.out))
              replace B := hide (bthen (set5_below (.int .i64 br) (.int .i64 bn) (.int .i64 br) (.int .i64 bn) (.string x) B.out (by omega)) bb)
              clear bb
              have cA0 := box_cell A.out 0 rfl
              have cA1 := box_cell A.out 1 rfl
              have cA2 := box_cell A.out 2 rfl
              have cA3 := box_cell A.out 3 rfl
              have cA4 := box_cell A.out 4 rfl
              have cX0 := box_cell X.out 0 rfl
              have cX1 := box_cell X.out 1 rfl
              have cX2 := box_cell X.out 2 rfl
              have cX3 := box_cell X.out 3 rfl
              have cP0 := box_cell P.out 0 rfl
              have cP1 := box_cell P.out 1 rfl
              have cP2 := box_cell P.out 2 rfl
              have cP3 := box_cell P.out 3 rfl
              have cP4 := box_cell P.out 4 rfl
              go_wp2_with fail
              refine (LS.out _ _ _ _ _).mono ?_
              rintro e w4 ⟨rfl, bb⟩
              clear cA0 cA1 cA2 cA3 cA4 cX0 cX1 cX2 cX3 cP0 cP1 cP2 cP3 cP4
              replace A := hide (Below.at bb A.out)
              replace X := hide (Below.at bb X.out)
              replace P := hide (Below.at bb P.out)
              replace B := hide (bthen B.out bb)
              clear bb
              have cA0 := box_cell A.out 0 rfl
              have cA1 := box_cell A.out 1 rfl
              have cA2 := box_cell A.out 2 rfl
              have cA3 := box_cell A.out 3 rfl
              have cA4 := box_cell A.out 4 rfl
              have cX0 := box_cell X.out 0 rfl
              have cX1 := box_cell X.out 1 rfl
              have cX2 := box_cell X.out 2 rfl
              have cX3 := box_cell X.out 3 rfl
              have cP0 := box_cell P.out 0 rfl
              have cP1 := box_cell P.out 1 rfl
              have cP2 := box_cell P.out 2 rfl
              have cP3 := box_cell P.out 3 rfl
              have cP4 := box_cell P.out 4 rfl
              go_wp2_with fail
              refine (LS.out _ _ _ _ _).mono ?_
              rintro e w5 ⟨rfl, bb⟩
              clear cA0 cA1 cA2 cA3 cA4 cX0 cX1 cX2 cX3 cP0 cP1 cP2 cP3 cP4
              replace A := hide (Below.at bb A.out)
              replace X := hide (Below.at bb X.out)
              replace P := hide (Below.at bb P.out)
              replace B := hide (bthen B.out bb)
              clear bb
              have cA0 := box_cell A.out 0 rfl
              have cA1 := box_cell A.out 1 rfl
              have cA2 := box_cell A.out 2 rfl
              have cA3 := box_cell A.out 3 rfl
              have cA4 := box_cell A.out 4 rfl
              have cX0 := box_cell X.out 0 rfl
              have cX1 := box_cell X.out 1 rfl
              have cX2 := box_cell X.out 2 rfl
              have cX3 := box_cell X.out 3 rfl
              have cP0 := box_cell P.out 0 rfl
              have cP1 := box_cell P.out 1 rfl
              have cP2 := box_cell P.out 2 rfl
              have cP3 := box_cell P.out 3 rfl
              have cP4 := box_cell P.out 4 rfl
              go_wp2_with fail
              refine (LS.out _ _ _ _ _).mono ?_
              rintro e w6 ⟨rfl, bb⟩
              clear cA0 cA1 cA2 cA3 cA4 cX0 cX1 cX2 cX3 cP0 cP1 cP2 cP3 cP4
              replace A := hide (Below.at bb A.out)
              replace X := hide (Below.at bb X.out)
              replace P := hide (Below.at bb P.out)
              replace B := hide (bthen B.out bb)
              clear bb
              have cA0 := box_cell A.out 0 rfl
              have fA0 := box_free A.out 0
              have cA1 := box_cell A.out 1 rfl
              have fA1 := box_free A.out 1
              have cA2 := box_cell A.out 2 rfl
              have fA2 := box_free A.out 2
              have cA3 := box_cell A.out 3 rfl
              have fA3 := box_free A.out 3
              have cA4 := box_cell A.out 4 rfl
              have fA4 := box_free A.out 4
              have cX0 := box_cell X.out 0 rfl
              have cX1 := box_cell X.out 1 rfl
              have cX2 := box_cell X.out 2 rfl
              have cX3 := box_cell X.out 3 rfl
              have cP0 := box_cell P.out 0 rfl
              have cP1 := box_cell P.out 1 rfl
              have cP2 := box_cell P.out 2 rfl
              have cP3 := box_cell P.out 3 rfl
              have cP4 := box_cell P.out 4 rfl
              go_wp2
              go_roundw
              case rel => exact ⟨i + 1, ⟨⟨br, bn⟩, ⟨br, bn⟩, x⟩, by go_num, by omega, NR, set5_box (.int .i64 br) (.int .i64 bn) (.int .i64 br) (.int .i64 bn) (.string x) A.out, set5_below (.int .i64 br) (.int .i64 bn) (.int .i64 br) (.int .i64 bn) (.string x) B.out (by omega)⟩
              case measure => simp [intOf]; omega
    · obtain ⟨_, _, hv⟩ := right_bounds HR.out
      have E1 : Hid (∀ W, Calls Try.prog 7 #[a.d] W fun e w' => e = .returned (.tuple #[.string ⟨(codeA a).toArray⟩, .int .i64 0]) ∧ Below W.heap.size W w') := fun W => by
        have := enc_any a (by omega) W
        rw [enc_good HR.out] at this
        exact this
      have D1 : Hid (∀ W, Calls Try.prog 9 #[.string ⟨(codeA a).toArray⟩] W fun e w' => e = .returned (.tuple #[a.d, .int .i64 0]) ∧ Below W.heap.size W w') := fun W => by
        have hl := codeA_le HR.out
        have := pdec_any ⟨(codeA a).toArray⟩ (by show (codeA a).toArray.size ≤ _; simp; omega) W
        rw [toArr, decA_code HR.out] at this
        exact this
      generalize (codeA a).toArray = cd at *
      obtain ⟨⟨pr, pn⟩, ⟨tr, tn⟩, v⟩ := a
      simp only [AC.d] at *
      clear HR hv
      by_cases h1 : i < l.length
      · have hi1 : (i : Int) < (l.length : Int) := by omega
        have hi2 : ¬ (i : Int) < 100 := by omega
        clear h1 hlt
        have cA0 := box_cell A.out 0 rfl
        have cA1 := box_cell A.out 1 rfl
        have cA2 := box_cell A.out 2 rfl
        have cA3 := box_cell A.out 3 rfl
        have cA4 := box_cell A.out 4 rfl
        go_wp2_with fail
        refine (E1.out _).mono ?_
        rintro e w1 ⟨rfl, bb⟩
        clear cA0 cA1 cA2 cA3 cA4
        replace A := hide (Below.at bb A.out)
        replace B := hide (bthen B.out bb)
        clear bb
        have cA0 := box_cell A.out 0 rfl
        have cA1 := box_cell A.out 1 rfl
        have cA2 := box_cell A.out 2 rfl
        have cA3 := box_cell A.out 3 rfl
        have cA4 := box_cell A.out 4 rfl
        go_wp2_with fail
        refine (D1.out _).mono ?_
        rintro e w2 ⟨rfl, bb⟩
        clear cA0 cA1 cA2 cA3 cA4
        replace A := hide (Below.at bb A.out)
        replace B := hide (bthen B.out bb)
        clear bb
        have cA0 := fun o0 => box_cell (box_alloc A.out o0) 0 rfl
        have cA1 := fun o0 => box_cell (box_alloc A.out o0) 1 rfl
        have cA2 := fun o0 => box_cell (box_alloc A.out o0) 2 rfl
        have cA3 := fun o0 => box_cell (box_alloc A.out o0) 3 rfl
        have cA4 := fun o0 => box_cell (box_alloc A.out o0) 4 rfl
        go_wp2
        go_ret
        exact ⟨rfl, (below_new B.out _)⟩
      · have hi1 : ¬ (i : Int) < (l.length : Int) := by omega
        clear h1 hlt
        have cA0 := box_cell A.out 0 rfl
        have cA1 := box_cell A.out 1 rfl
        have cA2 := box_cell A.out 2 rfl
        have cA3 := box_cell A.out 3 rfl
        have cA4 := box_cell A.out 4 rfl
        go_wp2_with fail
        refine (E1.out _).mono ?_
        rintro e w1 ⟨rfl, bb⟩
        clear cA0 cA1 cA2 cA3 cA4
        replace A := hide (Below.at bb A.out)
        replace B := hide (bthen B.out bb)
        clear bb
        have cA0 := box_cell A.out 0 rfl
        have cA1 := box_cell A.out 1 rfl
        have cA2 := box_cell A.out 2 rfl
        have cA3 := box_cell A.out 3 rfl
        have cA4 := box_cell A.out 4 rfl
        go_wp2_with fail
        refine (D1.out _).mono ?_
        rintro e w2 ⟨rfl, bb⟩
        clear cA0 cA1 cA2 cA3 cA4
        replace A := hide (Below.at bb A.out)
        replace B := hide (bthen B.out bb)
        clear bb
        have cA0 := fun o0 => box_cell (box_alloc A.out o0) 0 rfl
        have cA1 := fun o0 => box_cell (box_alloc A.out o0) 1 rfl
        have cA2 := fun o0 => box_cell (box_alloc A.out o0) 2 rfl
        have cA3 := fun o0 => box_cell (box_alloc A.out o0) 3 rfl
        have cA4 := fun o0 => box_cell (box_alloc A.out o0) 4 rfl
        go_wp2
        go_ret
        exact ⟨rfl, (below_new B.out _)⟩

end Go.Proofs.Ytpopamechapmmaa
