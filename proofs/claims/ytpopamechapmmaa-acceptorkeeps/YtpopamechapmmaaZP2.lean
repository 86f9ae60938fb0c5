/-
  The program's itemsOf, Encode, as they run (mkp2.py).
-/
import Derived.Test.YtpopamechapmmaaZP1
import Derived.Test.YtpopamechapmmaaZKAppI
namespace Go.Proofs.Ytpopamechapmmaa
open Go.RowKit

theorem itemsA_ok {a : AC} (h : a.right = true) : ∀ x ∈ itemsA a, x.ok := by
  obtain ⟨⟨h1, h2, h3, h4⟩, ⟨h5, h6, h7, h8⟩, h9⟩ := right_bounds h
  intro x hx
  simp only [itemsA, List.mem_cons, List.not_mem_nil, or_false] at hx
  have z0 : (⟨#[]⟩ : ByteArray).size = 0 := rfl
  rcases hx with rfl | rfl | rfl | rfl | rfl
  · exact ⟨by simp, by simp, by simp only; omega, by simp only; omega, by simp only [z0]; omega⟩
  · exact ⟨by simp, by simp, by simp only; omega, by simp only; omega, by simp only [z0]; omega⟩
  · exact ⟨by simp, by simp, by simp only; omega, by simp only; omega, by simp only [z0]; omega⟩
  · exact ⟨by simp, by simp, by simp only; omega, by simp only; omega, by simp only [z0]; omega⟩
  · exact ⟨by simp, by simp, by simp only; omega, by simp only; omega, by simp only; omega⟩
theorem items_at (W : World) (a : AC) (b : Nat) (t : TypeId) (hb : W.heap[b]? = some (.cells #[.int .i64 3, .int .u64 a.p.r, .string ⟨#[]⟩, .int .i64 1, .int .u64 a.p.n, .string ⟨#[]⟩, .int .i64 3, .int .u64 a.t.r, .string ⟨#[]⟩, .int .i64 1, .int .u64 a.t.n, .string ⟨#[]⟩, .int .i64 4, .int .u64 0, .string a.v] t)) : K.ItemsAt W (some ⟨b, 0, none⟩) (itemsA a) := by
  intro i hi
  have hi5 : i < 5 := hi
  have hs := (Array.getElem?_eq_some_iff.1 hb).1
  refine ⟨b, 0, rfl, hs, ?_⟩
  have hc : ∀ k, W.cell? ⟨b, k, none⟩ = (#[Value.int .i64 3, .int .u64 a.p.r, .string ⟨#[]⟩, .int .i64 1, .int .u64 a.p.n, .string ⟨#[]⟩, .int .i64 3, .int .u64 a.t.r, .string ⟨#[]⟩, .int .i64 1, .int .u64 a.t.n, .string ⟨#[]⟩, .int .i64 4, .int .u64 0, .string a.v])[k]? := fun k => by rw [Lib.cell_of_heap hb]
  rw [hc, hc, hc]
  have h5 : i = 0 ∨ i = 1 ∨ i = 2 ∨ i = 3 ∨ i = 4 := by omega
  rcases h5 with rfl | rfl | rfl | rfl | rfl <;> exact ⟨rfl, rfl, rfl⟩
set_option maxHeartbeats 1000000 in
theorem itemsOf_any (a : AC) (hr : a.right = true) (w : World) :
    Calls Try.prog 17 #[a.d] w fun e w' => ∃ g, e = .returned (.slice (some ⟨g, 0, none⟩) 5 5) ∧ K.ItemsAt w' (some ⟨g, 0, none⟩) (itemsA a) ∧ Below w.heap.size w w' := by
  obtain ⟨⟨h1, h2, h3, h4⟩, ⟨h5, h6, h7, h8⟩, h9⟩ := right_bounds hr
  obtain ⟨⟨pr, pn⟩, ⟨tr, tn⟩, v⟩ := a
  simp only at h1 h2 h3 h4 h5 h6 h7 h8 h9
  simp only [AC.d] at *
  clear hr
  go_enter Try.func17, Try.ntmps17
  go_wp2
  go_ret
  refine ⟨w.heap.size + 1, rfl, ?_, below_new (below_new (Below.refl _ w) _) _⟩
  apply items_at
  have e := heap_alloc_new (w.alloc (.cells #[.int .i64 pr, .int .i64 pn, .int .i64 tr, .int .i64 tn, .string v] 25)) (Obj.cells #[.int .i64 3, .int .u64 pr, .string ⟨#[]⟩, .int .i64 1, .int .u64 pn, .string ⟨#[]⟩, .int .i64 3, .int .u64 tr, .string ⟨#[]⟩, .int .i64 1, .int .u64 tn, .string ⟨#[]⟩, .int .i64 4, .int .u64 0, .string v] 54)
  rw [show (w.alloc (.cells #[.int .i64 pr, .int .i64 pn, .int .i64 tr, .int .i64 tn, .string v] 25)).heap.size = w.heap.size + 1 by simp] at e
  exact e
def encOf (a : AC) : List UInt8 × Int := if a.right = true then (codeA a, 0) else ([], 1)
set_option maxHeartbeats 1000000 in
theorem enc_any (a : AC) (hz : a.v.size ≤ 281474976710656) (w : World) :
    Calls Try.prog 7 #[a.d] w fun e w' => e = .returned (.tuple #[.string ⟨(encOf a).1.toArray⟩, .int .i64 (encOf a).2]) ∧ Below w.heap.size w w' := by
  have AR := hide (fun W => aright a hz W)
  unfold encOf
  cases hr : a.right with
  | true =>
    have HI := hide (itemsOf_any a hr)
    have HE : Hid (∀ g w, K.ItemsAt w (some ⟨g, 0, none⟩) (itemsA a) → Calls Try.prog 16 #[.slice (some ⟨g, 0, none⟩) 5 5] w fun e w' => e = .returned (.tuple #[.string ⟨(codeA a).toArray⟩, .int .i64 0]) ∧ Below w.heap.size w w') := fun g w h => by
      have := K.encode_any _ 5 (itemsA a) w h (itemsA_ok hr) (by unfold maxLen; simp [itemsA])
      rw [encA hr] at this
      exact this
    rw [hr] at AR
    simp only [if_true]
    generalize (codeA a).toArray = cd at *
    generalize itemsA a = its at *
    obtain ⟨⟨pr, pn⟩, ⟨tr, tn⟩, v⟩ := a
    clear hz hr
    simp only [AC.d] at *
    go_enter Try.func7, Try.ntmps7
    go_wp2_with fail
    refine (AR.out _).mono ?_
    rintro e w1 ⟨rfl, bb⟩
    have X : Hid (w1.heap[w.heap.size]? = some (.cells #[.int .i64 pr, .int .i64 pn, .int .i64 tr, .int .i64 tn, .string v] 25)) := hide (Below.at bb (heap_alloc_new w (.cells #[.int .i64 pr, .int .i64 pn, .int .i64 tr, .int .i64 tn, .string v] 25)))
    have B := hide (bthen (below_new (Below.refl _ w) (.cells #[.int .i64 pr, .int .i64 pn, .int .i64 tr, .int .i64 tn, .string v] 25)) bb)
    clear bb
    have cX0 := box_cell X.out 0 rfl
    have cX1 := box_cell X.out 1 rfl
    have cX2 := box_cell X.out 2 rfl
    have cX3 := box_cell X.out 3 rfl
    have cX4 := box_cell X.out 4 rfl
    go_wp2_with fail
    refine (HI.out _).mono ?_
    rintro e w2 ⟨g, rfl, hat, bb⟩
    clear cX0 cX1 cX2 cX3 cX4
    replace X := hide (Below.at bb X.out)
    replace B := hide (bthen B.out bb)
    clear bb
    go_wp2_with fail
    refine (HE.out _ _ hat).mono ?_
    rintro e w3 ⟨rfl, bb⟩
    replace X := hide (Below.at bb X.out)
    replace B := hide (bthen B.out bb)
    clear bb
    go_wp2
    go_ret2
    exact ⟨rfl, B.out⟩
  | false =>
    rw [hr] at AR
    simp only [Bool.false_eq_true, if_false]
    obtain ⟨⟨pr, pn⟩, ⟨tr, tn⟩, v⟩ := a
    clear hz hr
    simp only [AC.d] at *
    go_enter Try.func7, Try.ntmps7
    go_wp2_with fail
    refine (AR.out _).mono ?_
    rintro e w1 ⟨rfl, bb⟩
    have X : Hid (w1.heap[w.heap.size]? = some (.cells #[.int .i64 pr, .int .i64 pn, .int .i64 tr, .int .i64 tn, .string v] 25)) := hide (Below.at bb (heap_alloc_new w (.cells #[.int .i64 pr, .int .i64 pn, .int .i64 tr, .int .i64 tn, .string v] 25)))
    have B := hide (bthen (below_new (Below.refl _ w) (.cells #[.int .i64 pr, .int .i64 pn, .int .i64 tr, .int .i64 tn, .string v] 25)) bb)
    clear bb
    go_wp2
    go_ret2
    exact ⟨rfl, B.out⟩

end Go.Proofs.Ytpopamechapmmaa
