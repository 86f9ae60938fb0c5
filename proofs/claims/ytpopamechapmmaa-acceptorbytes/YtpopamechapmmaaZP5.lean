/-
  The document's own Encode, Decode, as they run (mkp5.py).
-/
import Derived.Test.YtpopamechapmmaaZP4
import Derived.Test.YtpopamechapmmaaZR1
import Derived.Test.YtpopamechapmmaaZGK
namespace Go.Proofs.Ytpopamechapmmaa
open Go.RowKit

set_option maxHeartbeats 1000000 in
theorem xenc_any (a : AC) (hz : a.v.size ≤ 281474976710656) (w : World) :
    Calls Try.prog 8 #[a.d] w fun e w' => e = .returned (.tuple #[.string ⟨(encOf a).1.toArray⟩, .bool a.right]) ∧ Below w.heap.size w w' := by
  have AR := hide (fun W => rrightA a hz W)
  unfold encOf
  cases hr : a.right with
  | true =>
    have HE : Hid (∀ g w, K.ItemsAt w (some ⟨g, 0, none⟩) (itemsA a) → Calls Try.prog 19 #[.slice (some ⟨g, 0, none⟩) 5 5] w fun e w' => e = .returned (.tuple #[.string ⟨(codeA a).toArray⟩, .int .i64 0]) ∧ Below w.heap.size w w') := fun g w h => by
      have := K.rencode_any _ 5 (itemsA a) w h (itemsA_ok hr) (by unfold maxLen; simp [itemsA])
      rw [encA hr] at this
      exact this
    have HIT := hide (fun W b t => items_at W a b t)
    obtain ⟨⟨h1, h2, h3, h4⟩, ⟨h5, h6, h7, h8⟩, h9⟩ := right_bounds hr
    rw [hr] at AR
    simp only [if_true]
    generalize (codeA a).toArray = cd at *
    generalize itemsA a = its at *
    obtain ⟨⟨pr, pn⟩, ⟨tr, tn⟩, v⟩ := a
    clear hz hr
    simp only [AC.d] at *
    go_enter Try.func8, Try.ntmps8
    go_wp2_with fail
    refine (AR.out _).mono ?_
    rintro e w1 ⟨rfl, bb⟩
    have X : Hid (w1.heap[w.heap.size]? = some (.cells #[.int .i64 pr, .int .i64 pn, .int .i64 tr, .int .i64 tn, .string v] 25)) := hide (Below.at bb (heap_alloc_new w (.cells #[.int .i64 pr, .int .i64 pn, .int .i64 tr, .int .i64 tn, .string v] 25)))
    have B := hide (bthen (below_new (Below.refl _ w) (.cells #[.int .i64 pr, .int .i64 pn, .int .i64 tr, .int .i64 tn, .string v] 25)) bb)
    clear bb
    have cX0 := box_cell X.out 0 rfl
    have cX1 := box_cell X.out 1 rfl
    have cX2 := box_cell X.out 2 rfl
    have cX3 := box_cell X.out 3 rfl
    have cX4 := box_cell X.out 4 rfl
    go_wp2_with fail
    refine (HE.out w1.heap.size _ (HIT.out _ _ 54 (heap_alloc_new w1 _))).mono ?_
    rintro e w2 ⟨rfl, bb⟩
    replace X := hide (Below.at bb (box_alloc X.out (.cells #[.int .i64 3, .int .u64 pr, .string ⟨#[]⟩, .int .i64 1, .int .u64 pn, .string ⟨#[]⟩, .int .i64 3, .int .u64 tr, .string ⟨#[]⟩, .int .i64 1, .int .u64 tn, .string ⟨#[]⟩, .int .i64 4, .int .u64 0, .string v] 54)))
    have I : Hid (w2.heap[w1.heap.size]? = some (.cells #[.int .i64 3, .int .u64 pr, .string ⟨#[]⟩, .int .i64 1, .int .u64 pn, .string ⟨#[]⟩, .int .i64 3, .int .u64 tr, .string ⟨#[]⟩, .int .i64 1, .int .u64 tn, .string ⟨#[]⟩, .int .i64 4, .int .u64 0, .string v] 54)) := hide (Below.at bb (heap_alloc_new w1 (.cells #[.int .i64 3, .int .u64 pr, .string ⟨#[]⟩, .int .i64 1, .int .u64 pn, .string ⟨#[]⟩, .int .i64 3, .int .u64 tr, .string ⟨#[]⟩, .int .i64 1, .int .u64 tn, .string ⟨#[]⟩, .int .i64 4, .int .u64 0, .string v] 54)))
    replace B := hide (bthen (below_new B.out (.cells #[.int .i64 3, .int .u64 pr, .string ⟨#[]⟩, .int .i64 1, .int .u64 pn, .string ⟨#[]⟩, .int .i64 3, .int .u64 tr, .string ⟨#[]⟩, .int .i64 1, .int .u64 tn, .string ⟨#[]⟩, .int .i64 4, .int .u64 0, .string v] 54)) bb)
    clear bb
    generalize w1.heap.size = bI at *
    go_wp2
    go_ret2
    exact ⟨rfl, B.out⟩
  | false =>
    rw [hr] at AR
    simp only [Bool.false_eq_true, if_false]
    obtain ⟨⟨pr, pn⟩, ⟨tr, tn⟩, v⟩ := a
    clear hz hr
    simp only [AC.d] at *
    go_enter Try.func8, Try.ntmps8
    go_wp2_with fail
    refine (AR.out _).mono ?_
    rintro e w1 ⟨rfl, bb⟩
    have X : Hid (w1.heap[w.heap.size]? = some (.cells #[.int .i64 pr, .int .i64 pn, .int .i64 tr, .int .i64 tn, .string v] 25)) := hide (Below.at bb (heap_alloc_new w (.cells #[.int .i64 pr, .int .i64 pn, .int .i64 tr, .int .i64 tn, .string v] 25)))
    have B := hide (bthen (below_new (Below.refl _ w) (.cells #[.int .i64 pr, .int .i64 pn, .int .i64 tr, .int .i64 tn, .string v] 25)) bb)
    clear bb
    go_wp2
    go_ret2
    exact ⟨rfl, B.out⟩

end Go.Proofs.Ytpopamechapmmaa
