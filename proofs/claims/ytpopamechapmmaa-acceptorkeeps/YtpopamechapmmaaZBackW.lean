/-
  AcceptorBack, as it runs (mkback.py).
-/
import Derived.Test.YtpopamechapmmaaZP4
import Derived.Test.YtpopamechapmmaaZA3
namespace Go.Proofs.Ytpopamechapmmaa
open Go.RowKit

theorem toArr (l : List UInt8) : (⟨l.toArray⟩ : ByteArray).data.toList = l := by simp
theorem arr_back {s : ByteArray} {l : List UInt8} (h : l = s.data.toList) : (⟨l.toArray⟩ : ByteArray) = s := by
  subst h
  obtain ⟨d⟩ := s
  simp
theorem enc_ok {a : AC} (h : (encOf a).2 = 0) : a.right = true ∧ encOf a = (codeA a, 0) := by
  unfold encOf at *
  by_cases hr : a.right = true
  · rw [if_pos hr]; exact ⟨hr, rfl⟩
  · rw [if_neg hr] at h; cases h
theorem enc_bad {a : AC} (h : ¬ a.right = true) : encOf a = ([], 1) := by unfold encOf; rw [if_neg h]
theorem enc_good {a : AC} (h : a.right = true) : encOf a = (codeA a, 0) := by unfold encOf; rw [if_pos h]
set_option maxHeartbeats 4000000 in
set_option linter.unusedSimpArgs false in
theorem back_walk (a : AC) (s : ByteArray) (hz : a.v.size ≤ 281474976710656) (hs : s.size ≤ 281474976710656) (w : World) : Calls Try.prog 5 #[a.d, .string s] w fun e w' => e = .returned (.bool true) ∧ Below w.heap.size w w' := by
  have E1 := hide (fun W => enc_any a hz W)
  have D2 := hide (fun W => pdec_any s (by omega) W)
  have DB := hide (@decA_back s.data.toList)
  have DN := hide (@decA_bad s.data.toList)
  have E2 : Hid ((decA s.data.toList).1.right = true → ∀ W, Calls Try.prog 7 #[(decA s.data.toList).1.d] W fun e w' => e = .returned (.tuple #[.string ⟨(codeA (decA s.data.toList).1).toArray⟩, .int .i64 0]) ∧ Below W.heap.size W w') := fun hr W => by
    obtain ⟨_, _, hv⟩ := right_bounds hr
    have := enc_any (decA s.data.toList).1 (by omega) W
    rw [enc_good hr] at this
    exact this
  generalize decA s.data.toList = R at *
  obtain ⟨c, g⟩ := R
  simp only at *
  have key : ∃ (tb : ByteArray) (er : Int), (∀ W, Calls Try.prog 7 #[a.d] W fun e w' => e = .returned (.tuple #[.string tb, .int .i64 er]) ∧ Below W.heap.size W w') ∧ (er = 0 ∨ (er == 0) = false) ∧ (er = 0 → ∀ W, Calls Try.prog 9 #[.string tb] W fun e w' => e = .returned (.tuple #[a.d, .int .i64 0]) ∧ Below W.heap.size W w') := by
    by_cases hr : a.right = true
    · refine ⟨⟨(codeA a).toArray⟩, 0, fun W => by have := E1.out W; rw [enc_good hr] at this; exact this, .inl rfl, fun _ W => ?_⟩
      have hl := codeA_le hr
      have := pdec_any ⟨(codeA a).toArray⟩ (by show (codeA a).toArray.size ≤ _; simp; omega) W
      rw [toArr, decA_code hr] at this
      exact this
    · exact ⟨⟨#[]⟩, 1, fun W => by have := E1.out W; rw [enc_bad hr] at this; exact this, .inr rfl, fun h => by cases h⟩
  obtain ⟨tb, er, T1, T2, T3⟩ := key
  have HT1 := hide T1
  have HT3 := hide T3
  obtain ⟨⟨pr, pn⟩, ⟨tr, tn⟩, v⟩ := a
  clear T1 T3 E1 hz hs
  by_cases hg : g = 0
  · subst hg
    obtain ⟨cr1, cb⟩ := DB.out rfl
    have E3 := hide (E2.out cr1)
    rw [arr_back cb] at E3
    clear E2 DB DN cr1 cb
    obtain ⟨⟨cr, cn⟩, ⟨dr, dn⟩, u⟩ := c
    simp only [AC.d] at *
    rcases T2 with rfl | T2
    · have HT4 := hide (HT3.out rfl)
      clear HT3
      go_enter Try.func5, Try.ntmps5
      go_wp2_with fail
      refine (examples_any _).mono ?_
      rintro e w1 ⟨rfl, bb⟩
      have X : Hid (w1.heap[w.heap.size]? = some (.cells #[.int .i64 pr, .int .i64 pn, .int .i64 tr, .int .i64 tn, .string v] 25)) := hide (Below.at bb (heap_alloc_new w (.cells #[.int .i64 pr, .int .i64 pn, .int .i64 tr, .int .i64 tn, .string v] 25)))
      have B := hide (bthen (below_new (Below.refl _ w) (.cells #[.int .i64 pr, .int .i64 pn, .int .i64 tr, .int .i64 tn, .string v] 25)) bb)
      clear bb
      have cX0 := box_cell X.out 0 rfl
      have cX1 := box_cell X.out 1 rfl
      have cX2 := box_cell X.out 2 rfl
      have cX3 := box_cell X.out 3 rfl
      have cX4 := box_cell X.out 4 rfl
      go_wp2_with fail
      refine (HT1.out _).mono ?_
      rintro e w2 ⟨rfl, bb⟩
      clear cX0 cX1 cX2 cX3 cX4
      replace X := hide (Below.at bb X.out)
      replace B := hide (bthen B.out bb)
      clear bb
      have cX0 := box_cell X.out 0 rfl
      have cX1 := box_cell X.out 1 rfl
      have cX2 := box_cell X.out 2 rfl
      have cX3 := box_cell X.out 3 rfl
      have cX4 := box_cell X.out 4 rfl
      go_wp2_with fail
      refine (HT4.out _).mono ?_
      rintro e w3 ⟨rfl, bb⟩
      clear cX0 cX1 cX2 cX3 cX4
      replace X := hide (Below.at bb X.out)
      replace B := hide (bthen B.out bb)
      clear bb
      have cX0 := fun o0 => box_cell (box_alloc X.out o0) 0 rfl
      have cX1 := fun o0 => box_cell (box_alloc X.out o0) 1 rfl
      have cX2 := fun o0 => box_cell (box_alloc X.out o0) 2 rfl
      have cX3 := fun o0 => box_cell (box_alloc X.out o0) 3 rfl
      have cX4 := fun o0 => box_cell (box_alloc X.out o0) 4 rfl
      go_wp2_with fail
      refine (D2.out _).mono ?_
      rintro e w4 ⟨rfl, bb⟩
      clear cX0 cX1 cX2 cX3 cX4
      replace X := hide (Below.at bb (box_alloc X.out (.cells #[.int .i64 pr, .int .i64 pn, .int .i64 tr, .int .i64 tn, .string v] 25)))
      have B5 : Hid (w4.heap[w3.heap.size]? = some (.cells #[.int .i64 pr, .int .i64 pn, .int .i64 tr, .int .i64 tn, .string v] 25)) := hide (Below.at bb (heap_alloc_new w3 (.cells #[.int .i64 pr, .int .i64 pn, .int .i64 tr, .int .i64 tn, .string v] 25)))
      replace B := hide (bthen (below_new B.out (.cells #[.int .i64 pr, .int .i64 pn, .int .i64 tr, .int .i64 tn, .string v] 25)) bb)
      clear bb
      generalize w3.heap.size = bB5 at *
      have cX0 := fun o0 => box_cell (box_alloc X.out o0) 0 rfl
      have cX1 := fun o0 => box_cell (box_alloc X.out o0) 1 rfl
      have cX2 := fun o0 => box_cell (box_alloc X.out o0) 2 rfl
      have cX3 := fun o0 => box_cell (box_alloc X.out o0) 3 rfl
      have cX4 := fun o0 => box_cell (box_alloc X.out o0) 4 rfl
      go_wp2_with fail
      refine (E3.out _).mono ?_
      rintro e w5 ⟨rfl, bb⟩
      clear cX0 cX1 cX2 cX3 cX4
      replace X := hide (Below.at bb (box_alloc X.out (.cells #[.int .i64 cr, .int .i64 cn, .int .i64 dr, .int .i64 dn, .string u] 25)))
      replace B5 := hide (Below.at bb (box_alloc B5.out (.cells #[.int .i64 cr, .int .i64 cn, .int .i64 dr, .int .i64 dn, .string u] 25)))
      have C5 : Hid (w5.heap[w4.heap.size]? = some (.cells #[.int .i64 cr, .int .i64 cn, .int .i64 dr, .int .i64 dn, .string u] 25)) := hide (Below.at bb (heap_alloc_new w4 (.cells #[.int .i64 cr, .int .i64 cn, .int .i64 dr, .int .i64 dn, .string u] 25)))
      replace B := hide (bthen (below_new B.out (.cells #[.int .i64 cr, .int .i64 cn, .int .i64 dr, .int .i64 dn, .string u] 25)) bb)
      clear bb
      generalize w4.heap.size = bC5 at *
      go_wp2
      go_ret
      exact ⟨rfl, B.out⟩
    · clear HT3
      go_enter Try.func5, Try.ntmps5
      go_wp2_with fail
      refine (examples_any _).mono ?_
      rintro e w1 ⟨rfl, bb⟩
      have X : Hid (w1.heap[w.heap.size]? = some (.cells #[.int .i64 pr, .int .i64 pn, .int .i64 tr, .int .i64 tn, .string v] 25)) := hide (Below.at bb (heap_alloc_new w (.cells #[.int .i64 pr, .int .i64 pn, .int .i64 tr, .int .i64 tn, .string v] 25)))
      have B := hide (bthen (below_new (Below.refl _ w) (.cells #[.int .i64 pr, .int .i64 pn, .int .i64 tr, .int .i64 tn, .string v] 25)) bb)
      clear bb
      have cX0 := box_cell X.out 0 rfl
      have cX1 := box_cell X.out 1 rfl
      have cX2 := box_cell X.out 2 rfl
      have cX3 := box_cell X.out 3 rfl
      have cX4 := box_cell X.out 4 rfl
      go_wp2_with fail
      refine (HT1.out _).mono ?_
      rintro e w2 ⟨rfl, bb⟩
      clear cX0 cX1 cX2 cX3 cX4
      replace X := hide (Below.at bb X.out)
      replace B := hide (bthen B.out bb)
      clear bb
      have cX0 := box_cell X.out 0 rfl
      have cX1 := box_cell X.out 1 rfl
      have cX2 := box_cell X.out 2 rfl
      have cX3 := box_cell X.out 3 rfl
      have cX4 := box_cell X.out 4 rfl
      go_wp2_with fail
      refine (D2.out _).mono ?_
      rintro e w3 ⟨rfl, bb⟩
      clear cX0 cX1 cX2 cX3 cX4
      replace X := hide (Below.at bb X.out)
      replace B := hide (bthen B.out bb)
      clear bb
      have cX0 := fun o0 => box_cell (box_alloc X.out o0) 0 rfl
      have cX1 := fun o0 => box_cell (box_alloc X.out o0) 1 rfl
      have cX2 := fun o0 => box_cell (box_alloc X.out o0) 2 rfl
      have cX3 := fun o0 => box_cell (box_alloc X.out o0) 3 rfl
      have cX4 := fun o0 => box_cell (box_alloc X.out o0) 4 rfl
      go_wp2_with fail
      refine (E3.out _).mono ?_
      rintro e w4 ⟨rfl, bb⟩
      clear cX0 cX1 cX2 cX3 cX4
      replace X := hide (Below.at bb (box_alloc X.out (.cells #[.int .i64 cr, .int .i64 cn, .int .i64 dr, .int .i64 dn, .string u] 25)))
      have C5 : Hid (w4.heap[w3.heap.size]? = some (.cells #[.int .i64 cr, .int .i64 cn, .int .i64 dr, .int .i64 dn, .string u] 25)) := hide (Below.at bb (heap_alloc_new w3 (.cells #[.int .i64 cr, .int .i64 cn, .int .i64 dr, .int .i64 dn, .string u] 25)))
      replace B := hide (bthen (below_new B.out (.cells #[.int .i64 cr, .int .i64 cn, .int .i64 dr, .int .i64 dn, .string u] 25)) bb)
      clear bb
      generalize w3.heap.size = bC5 at *
      go_wp2
      go_ret
      exact ⟨rfl, B.out⟩
  · have hg1 : (g != 0) = true := by rw [bne_iff_ne]; exact hg
    have hg2 : (g == 0) = false := by rw [beq_eq_false_iff_ne]; exact hg
    have hc := DN.out hg
    subst hc
    clear E2 DB DN hg
    simp only [AC.d, AC.zero] at *
    rcases T2 with rfl | T2
    · have HT4 := hide (HT3.out rfl)
      clear HT3
      go_enter Try.func5, Try.ntmps5
      go_wp2_with fail
      refine (examples_any _).mono ?_
      rintro e w1 ⟨rfl, bb⟩
      have X : Hid (w1.heap[w.heap.size]? = some (.cells #[.int .i64 pr, .int .i64 pn, .int .i64 tr, .int .i64 tn, .string v] 25)) := hide (Below.at bb (heap_alloc_new w (.cells #[.int .i64 pr, .int .i64 pn, .int .i64 tr, .int .i64 tn, .string v] 25)))
      have B := hide (bthen (below_new (Below.refl _ w) (.cells #[.int .i64 pr, .int .i64 pn, .int .i64 tr, .int .i64 tn, .string v] 25)) bb)
      clear bb
      have cX0 := box_cell X.out 0 rfl
      have cX1 := box_cell X.out 1 rfl
      have cX2 := box_cell X.out 2 rfl
      have cX3 := box_cell X.out 3 rfl
      have cX4 := box_cell X.out 4 rfl
      go_wp2_with fail
      refine (HT1.out _).mono ?_
      rintro e w2 ⟨rfl, bb⟩
      clear cX0 cX1 cX2 cX3 cX4
      replace X := hide (Below.at bb X.out)
      replace B := hide (bthen B.out bb)
      clear bb
      have cX0 := box_cell X.out 0 rfl
      have cX1 := box_cell X.out 1 rfl
      have cX2 := box_cell X.out 2 rfl
      have cX3 := box_cell X.out 3 rfl
      have cX4 := box_cell X.out 4 rfl
      go_wp2_with fail
      refine (HT4.out _).mono ?_
      rintro e w3 ⟨rfl, bb⟩
      clear cX0 cX1 cX2 cX3 cX4
      replace X := hide (Below.at bb X.out)
      replace B := hide (bthen B.out bb)
      clear bb
      have cX0 := fun o0 => box_cell (box_alloc X.out o0) 0 rfl
      have cX1 := fun o0 => box_cell (box_alloc X.out o0) 1 rfl
      have cX2 := fun o0 => box_cell (box_alloc X.out o0) 2 rfl
      have cX3 := fun o0 => box_cell (box_alloc X.out o0) 3 rfl
      have cX4 := fun o0 => box_cell (box_alloc X.out o0) 4 rfl
      go_wp2_with fail
      refine (D2.out _).mono ?_
      rintro e w4 ⟨rfl, bb⟩
      clear cX0 cX1 cX2 cX3 cX4
      replace X := hide (Below.at bb (box_alloc X.out (.cells #[.int .i64 pr, .int .i64 pn, .int .i64 tr, .int .i64 tn, .string v] 25)))
      have B5 : Hid (w4.heap[w3.heap.size]? = some (.cells #[.int .i64 pr, .int .i64 pn, .int .i64 tr, .int .i64 tn, .string v] 25)) := hide (Below.at bb (heap_alloc_new w3 (.cells #[.int .i64 pr, .int .i64 pn, .int .i64 tr, .int .i64 tn, .string v] 25)))
      replace B := hide (bthen (below_new B.out (.cells #[.int .i64 pr, .int .i64 pn, .int .i64 tr, .int .i64 tn, .string v] 25)) bb)
      clear bb
      generalize w3.heap.size = bB5 at *
      go_wp2
      go_ret
      exact ⟨rfl, (below_new B.out _)⟩
    · clear HT3
      go_enter Try.func5, Try.ntmps5
      go_wp2_with fail
      refine (examples_any _).mono ?_
      rintro e w1 ⟨rfl, bb⟩
      have X : Hid (w1.heap[w.heap.size]? = some (.cells #[.int .i64 pr, .int .i64 pn, .int .i64 tr, .int .i64 tn, .string v] 25)) := hide (Below.at bb (heap_alloc_new w (.cells #[.int .i64 pr, .int .i64 pn, .int .i64 tr, .int .i64 tn, .string v] 25)))
      have B := hide (bthen (below_new (Below.refl _ w) (.cells #[.int .i64 pr, .int .i64 pn, .int .i64 tr, .int .i64 tn, .string v] 25)) bb)
      clear bb
      have cX0 := box_cell X.out 0 rfl
      have cX1 := box_cell X.out 1 rfl
      have cX2 := box_cell X.out 2 rfl
      have cX3 := box_cell X.out 3 rfl
      have cX4 := box_cell X.out 4 rfl
      go_wp2_with fail
      refine (HT1.out _).mono ?_
      rintro e w2 ⟨rfl, bb⟩
      clear cX0 cX1 cX2 cX3 cX4
      replace X := hide (Below.at bb X.out)
      replace B := hide (bthen B.out bb)
      clear bb
      have cX0 := box_cell X.out 0 rfl
      have cX1 := box_cell X.out 1 rfl
      have cX2 := box_cell X.out 2 rfl
      have cX3 := box_cell X.out 3 rfl
      have cX4 := box_cell X.out 4 rfl
      go_wp2_with fail
      refine (D2.out _).mono ?_
      rintro e w3 ⟨rfl, bb⟩
      clear cX0 cX1 cX2 cX3 cX4
      replace X := hide (Below.at bb X.out)
      replace B := hide (bthen B.out bb)
      clear bb
      go_wp2
      go_ret
      exact ⟨rfl, (below_new B.out _)⟩

end Go.Proofs.Ytpopamechapmmaa
