/-
  The program's Decode, as it runs (mkp4.py).
-/
import Derived.Test.YtpopamechapmmaaZP3
import Derived.Test.YtpopamechapmmaaZGI
namespace Go.Proofs.Ytpopamechapmmaa
open Go.RowKit

theorem dec_call (s : ByteArray) (h : s.size ≤ 9223372036854775807) (w : World) : Calls Try.prog 20 #[.string ⟨#[108, 98, 108, 98, 116]⟩, .string s] w fun e w' => ∃ v, e = .returned (.tuple #[v, .int .i64 (K.decF shapeA s.data.toList).2]) ∧ w'.ownsRow w.heap.size 54 3 v (K.decF shapeA s.data.toList).1.length (K.itemCells (K.decF shapeA s.data.toList).1) ∧ Below w.heap.size w w' :=
  K.decode_any ⟨#[108, 98, 108, 98, 116]⟩ s w (by unfold maxLen; decide) (by unfold maxLen; omega) _ rfl
/-- Five items that lie somewhere. -/
theorem five_at {w : World} {B : Nat} {v : Value} {a b c d e : K.It} (ho : w.ownsRow B 54 3 v [a, b, c, d, e].length (K.itemCells [a, b, c, d, e])) : ∃ g off cap, v = .slice (some ⟨g, off, none⟩) 5 cap ∧ g < w.heap.size ∧ Five g off a.k a.n a.s b.k b.n b.s c.k c.n c.s d.k d.n d.s e.s w := by
  obtain ⟨ao, cap, rfl, hat⟩ := K.items_of_own ho
  obtain ⟨g, off, rfl, gl, a0, a1, a2⟩ := hat 0 (by simp)
  obtain ⟨_, _, q, _, b0, b1, b2⟩ := hat 1 (by simp)
  cases q
  obtain ⟨_, _, q, _, c0, c1, c2⟩ := hat 2 (by simp)
  cases q
  obtain ⟨_, _, q, _, d0, d1, d2⟩ := hat 3 (by simp)
  cases q
  obtain ⟨_, _, q, _, _, _, e2⟩ := hat 4 (by simp)
  cases q
  exact ⟨g, off, cap, rfl, gl, a0, a1, a2, b0, b1, b2, c0, c1, c2, d0, d1, d2, e2⟩
theorem dec_bounds {s : List UInt8} {a b c d e : K.It} (h : K.decF shapeA s = ([a, b, c, d, e], 0)) : (0 ≤ a.n ∧ a.n < 18446744073709551616) ∧ (0 ≤ b.n ∧ b.n < 256) ∧ (0 ≤ c.n ∧ c.n < 18446744073709551616) ∧ (0 ≤ d.n ∧ d.n < 256) ∧ e.s.size ≤ 100000 := by
  have hd : (K.decF shapeA s).2 = 0 := by rw [h]
  obtain ⟨h6, hok, _⟩ := K.again_pure shapeA s hd
  have hi := dec_items s hd
  rw [h] at hok h6 hi
  obtain ⟨_, _, a1, a2, _⟩ := hok a (by simp)
  obtain ⟨_, _, b1, _, _⟩ := hok b (by simp)
  obtain ⟨_, _, c1, c2, _⟩ := hok c (by simp)
  obtain ⟨_, _, d1, _, _⟩ := hok d (by simp)
  have h8 : (K.encF [a, b, c, d, e]).2 = 0 := by rw [h6]
  have hf := (K.firstFault_zero [a, b, c, d, e]).1 (by
    unfold K.encF at h8
    split at h8
    · cases h8
    · split at h8
      · assumption
      · exact absurd h8 (by assumption))
  have hb : b = ⟨1, b.n, ⟨#[]⟩⟩ := by
    have e1 : [a, b, c, d, e] = itemsA (accOf [a, b, c, d, e]) := hi
    simp only [itemsA, accOf] at e1
    injection e1 with _ e1
    injection e1 with e1 _
  have hdd : d = ⟨1, d.n, ⟨#[]⟩⟩ := by
    have e1 : [a, b, c, d, e] = itemsA (accOf [a, b, c, d, e]) := hi
    simp only [itemsA, accOf] at e1
    injection e1 with _ e1
    injection e1 with _ e1
    injection e1 with _ e1
    injection e1 with e1 _
  have he : e = ⟨4, 0, e.s⟩ := by
    have e1 : [a, b, c, d, e] = itemsA (accOf [a, b, c, d, e]) := hi
    simp only [itemsA, accOf] at e1
    injection e1 with _ e1
    injection e1 with _ e1
    injection e1 with _ e1
    injection e1 with _ e1
    injection e1 with e1 _
  have w1 : (256 : Int) ^ K.widthN 1 = 256 := by decide
  have k1 : K.kindB 1 = true := by decide
  have k4 : K.kindB 4 = true := by decide
  have fb := hf b (by simp)
  have fd := hf d (by simp)
  have fe := hf e (by simp)
  rw [hb] at fb
  rw [hdd] at fd
  rw [he] at fe
  refine ⟨⟨a1, a2⟩, ⟨b1, ?_⟩, ⟨c1, c2⟩, ⟨d1, ?_⟩, ?_⟩
  · unfold K.faultF at fb
    simp only [k1, w1] at fb
    simp at fb
    omega
  · unfold K.faultF at fd
    simp only [k1, w1] at fd
    simp at fd
    omega
  · unfold K.faultF at fe
    simp only [k4] at fe
    simp at fe
    omega
theorem wrap_round {a : Int} (h0 : 0 ≤ a) (h1 : a < 18446744073709551616) : (0 ≤ wrap64 a → wrap64 a ≤ 9007199254740991 → wrap64 a = a) ∧ (a ≤ 9007199254740991 → wrap64 a = a) := by
  unfold wrap64
  omega
/-- What is read, as the program lays it: right just if what stands there is, and then the same. -/
theorem wrap_acc {a b c d : Int} {s : ByteArray} (a1 : 0 ≤ a) (a2 : a < 18446744073709551616) (b1 : 0 ≤ b) (b2 : b < 256) (c1 : 0 ≤ c) (c2 : c < 18446744073709551616) (d1 : 0 ≤ d) (d2 : d < 256) :
    (AC.right ⟨⟨wrap64 a, wrap64 b⟩, ⟨wrap64 c, wrap64 d⟩, s⟩ = AC.right ⟨⟨a, b⟩, ⟨c, d⟩, s⟩) ∧ (AC.right ⟨⟨a, b⟩, ⟨c, d⟩, s⟩ = true → wrap64 a = a ∧ wrap64 b = b ∧ wrap64 c = c ∧ wrap64 d = d) := by
  have eb : wrap64 b = b := by unfold wrap64; omega
  have ed : wrap64 d = d := by unfold wrap64; omega
  obtain ⟨ra, ra2⟩ := wrap_round a1 a2
  obtain ⟨rc, rc2⟩ := wrap_round c1 c2
  rw [eb, ed]
  have key : AC.right ⟨⟨a, b⟩, ⟨c, d⟩, s⟩ = true → wrap64 a = a ∧ b = b ∧ wrap64 c = c ∧ d = d := fun h => by
    obtain ⟨⟨_, h2, _⟩, ⟨_, h6, _⟩, _⟩ := right_bounds h
    exact ⟨ra2 h2, rfl, rc2 h6, rfl⟩
  refine ⟨?_, key⟩
  cases hr : AC.right ⟨⟨a, b⟩, ⟨c, d⟩, s⟩ with
  | true => obtain ⟨e1, _, e2, _⟩ := key hr; rw [e1, e2]; exact hr
  | false =>
    refine Bool.eq_false_iff.2 fun h => ?_
    obtain ⟨⟨h1, h2, _⟩, ⟨h5, h6, _⟩, _⟩ := right_bounds h
    have e1 := ra h1 h2
    have e2 := rc h5 h6
    rw [e1, e2, hr] at h
    cases h
theorem decA_fault {s : List UInt8} (h : ¬ (K.decF shapeA s).2 = 0) : decA s = (AC.zero, (K.decF shapeA s).2) := by unfold decA; rw [if_neg h]
theorem decA_good {s : List UInt8} {a b c d e : K.It} (h : K.decF shapeA s = ([a, b, c, d, e], 0)) (hr : AC.right ⟨⟨a.n, b.n⟩, ⟨c.n, d.n⟩, e.s⟩ = true) : decA s = (⟨⟨a.n, b.n⟩, ⟨c.n, d.n⟩, e.s⟩, 0) := by
  have e1 : accOf (K.decF shapeA s).1 = ⟨⟨a.n, b.n⟩, ⟨c.n, d.n⟩, e.s⟩ := by rw [h]; rfl
  unfold decA
  rw [if_pos (by rw [h]), e1, if_pos hr]
theorem decA_none {s : List UInt8} {a b c d e : K.It} (h : K.decF shapeA s = ([a, b, c, d, e], 0)) (hr : ¬ AC.right ⟨⟨a.n, b.n⟩, ⟨c.n, d.n⟩, e.s⟩ = true) : decA s = (AC.zero, 10) := by
  have e1 : accOf (K.decF shapeA s).1 = ⟨⟨a.n, b.n⟩, ⟨c.n, d.n⟩, e.s⟩ := by rw [h]; rfl
  unfold decA
  rw [if_pos (by rw [h]), e1, if_neg hr]
set_option maxHeartbeats 2000000 in
set_option linter.unusedSimpArgs false in
theorem pdec_any (s : ByteArray) (h63 : s.size ≤ 9223372036854775807) (w : World) :
    Calls Try.prog 9 #[.string s] w fun e w' => e = .returned (.tuple #[(decA s.data.toList).1.d, .int .i64 (decA s.data.toList).2]) ∧ Below w.heap.size w w' := by
  have HD := hide (dec_call s h63)
  clear h63
  by_cases hd : (K.decF shapeA s.data.toList).2 = 0
  · obtain ⟨a, b, c, d, e, h5⟩ := dec_five _ hd
    have e5 : K.decF shapeA s.data.toList = ([a, b, c, d, e], 0) := Prod.ext h5 hd
    obtain ⟨⟨a1, a2⟩, ⟨b1, b2⟩, ⟨c1, c2⟩, ⟨d1, d2⟩, es⟩ := dec_bounds e5
    rw [e5] at HD
    obtain ⟨we, wk⟩ := wrap_acc (s := e.s) a1 a2 b1 b2 c1 c2 d1 d2
    have AR := hide (fun W => aright ⟨⟨wrap64 a.n, wrap64 b.n⟩, ⟨wrap64 c.n, wrap64 d.n⟩, e.s⟩ (by simp only; omega) W)
    rw [we] at AR
    have HF : Hid (∀ {W : World} {B : Nat} {v : Value}, W.ownsRow B 54 3 v [a, b, c, d, e].length (K.itemCells [a, b, c, d, e]) → ∃ g off cap, v = .slice (some ⟨g, off, none⟩) 5 cap ∧ ∀ W2, Below W.heap.size W W2 → Calls Try.prog 21 #[.slice (some ⟨g, off, none⟩) 5 cap] W2 fun e' w' => e' = .returned (.agg #[.int .i64 (wrap64 a.n), .int .i64 (wrap64 b.n), .int .i64 (wrap64 c.n), .int .i64 (wrap64 d.n), .string e.s]) ∧ Below W2.heap.size W2 w') := fun ho => by
      obtain ⟨g, off, cap, hv, hg, hF⟩ := five_at ho
      exact ⟨g, off, cap, hv, fun W2 hb => acceptorOf_five g off cap _ _ _ _ _ _ _ _ _ _ _ _ _ W2 (Nat.lt_of_lt_of_le hg hb.size) (hF.to hg hb)⟩
    by_cases hr : AC.right ⟨⟨a.n, b.n⟩, ⟨c.n, d.n⟩, e.s⟩ = true
    · rw [decA_good e5 hr]
      rw [hr] at AR
      obtain ⟨q1, q2, q3, q4⟩ := wk hr
      rw [q1, q2, q3, q4] at AR HF
      clear q1 q2 q3 q4
      obtain ⟨an, hn1⟩ : ∃ x, a.n = x := ⟨_, rfl⟩
      obtain ⟨bn, hn2⟩ : ∃ x, b.n = x := ⟨_, rfl⟩
      obtain ⟨cn, hn3⟩ : ∃ x, c.n = x := ⟨_, rfl⟩
      obtain ⟨dn, hn4⟩ : ∃ x, d.n = x := ⟨_, rfl⟩
      obtain ⟨es, hn5⟩ : ∃ x, e.s = x := ⟨_, rfl⟩
      clear hr we wk a1 a2 b1 b2 c1 c2 d1 d2 h5 e5 hd
      rw [hn1, hn2, hn3, hn4, hn5] at AR HF ⊢
      clear hn1 hn2 hn3 hn4 hn5
      simp only [AC.d, AC.zero] at *
      go_enter Try.func9, Try.ntmps9
      go_wp2_with fail
      refine (HD.out _).mono ?_
      rintro e w1 ⟨v, rfl, ho, bb⟩
      have X : Hid (w1.heap[w.heap.size]? = some (.cells #[.int .i64 0, .int .i64 0, .int .i64 0, .int .i64 0, .string ⟨#[]⟩] 25)) := hide (Below.at bb (heap_alloc_new w (.cells #[.int .i64 0, .int .i64 0, .int .i64 0, .int .i64 0, .string ⟨#[]⟩] 25)))
      have B := hide (bthen (below_new (Below.refl _ w) (.cells #[.int .i64 0, .int .i64 0, .int .i64 0, .int .i64 0, .string ⟨#[]⟩] 25)) bb)
      clear bb
      obtain ⟨g, off, cap, rfl, HA⟩ := HF.out ho
      have HA := hide HA
      clear ho
      go_wp2_with fail
      refine (HA.out _ (Below.refl _ _)).mono ?_
      rintro e w2 ⟨rfl, bb⟩
      replace X := hide (Below.at bb X.out)
      replace B := hide (bthen B.out bb)
      clear bb
      have cX0 := fun o0 => box_cell (box_alloc X.out o0) 0 rfl
      have cX1 := fun o0 => box_cell (box_alloc X.out o0) 1 rfl
      have cX2 := fun o0 => box_cell (box_alloc X.out o0) 2 rfl
      have cX3 := fun o0 => box_cell (box_alloc X.out o0) 3 rfl
      have cX4 := fun o0 => box_cell (box_alloc X.out o0) 4 rfl
      go_wp2_with fail
      refine (AR.out _).mono ?_
      rintro e w3 ⟨rfl, bb⟩
      clear cX0 cX1 cX2 cX3 cX4
      replace X := hide (Below.at bb (box_alloc X.out (.cells #[.int .i64 an, .int .i64 bn, .int .i64 cn, .int .i64 dn, .string es] 25)))
      have A : Hid (w3.heap[w2.heap.size]? = some (.cells #[.int .i64 an, .int .i64 bn, .int .i64 cn, .int .i64 dn, .string es] 25)) := hide (Below.at bb (heap_alloc_new w2 (.cells #[.int .i64 an, .int .i64 bn, .int .i64 cn, .int .i64 dn, .string es] 25)))
      replace B := hide (bthen (below_new B.out (.cells #[.int .i64 an, .int .i64 bn, .int .i64 cn, .int .i64 dn, .string es] 25)) bb)
      clear bb
      generalize w2.heap.size = bA at *
      have cX0 := box_cell X.out 0 rfl
      have fX0 := box_free X.out 0
      have cX1 := box_cell X.out 1 rfl
      have fX1 := box_free X.out 1
      have cX2 := box_cell X.out 2 rfl
      have fX2 := box_free X.out 2
      have cX3 := box_cell X.out 3 rfl
      have fX3 := box_free X.out 3
      have cX4 := box_cell X.out 4 rfl
      have fX4 := box_free X.out 4
      have cA0 := box_cell A.out 0 rfl
      have cA1 := box_cell A.out 1 rfl
      have cA2 := box_cell A.out 2 rfl
      have cA3 := box_cell A.out 3 rfl
      have cA4 := box_cell A.out 4 rfl
      go_wp2
      have K := box5 (set5_box (.int .i64 an) (.int .i64 bn) (.int .i64 cn) (.int .i64 dn) (.string es) X.out)
      simp only [set5] at K
      obtain ⟨⟨k0, k1, k2, k3, k4⟩, _⟩ := K
      refine bodyPost_ret (v := .tuple #[.agg #[.int .i64 an, .int .i64 bn, .int .i64 cn, .int .i64 dn, .string es], .int .i64 0]) (by simp [results, Try.results9, go_sem, k0, k1, k2, k3, k4]) rfl ⟨rfl, ?_⟩
      exact set5_below _ _ _ _ _ B.out (Nat.le_refl _)
    · rw [decA_none e5 hr]
      rw [Bool.eq_false_iff.2 hr] at AR
      obtain ⟨an, hn1⟩ : ∃ x, a.n = x := ⟨_, rfl⟩
      obtain ⟨bn, hn2⟩ : ∃ x, b.n = x := ⟨_, rfl⟩
      obtain ⟨cn, hn3⟩ : ∃ x, c.n = x := ⟨_, rfl⟩
      obtain ⟨dn, hn4⟩ : ∃ x, d.n = x := ⟨_, rfl⟩
      obtain ⟨es, hn5⟩ : ∃ x, e.s = x := ⟨_, rfl⟩
      clear hr we wk a1 a2 b1 b2 c1 c2 d1 d2 h5 e5 hd
      rw [hn1, hn2, hn3, hn4, hn5] at AR HF
      clear hn1 hn2 hn3 hn4 hn5
      simp only [AC.d, AC.zero] at *
      go_enter Try.func9, Try.ntmps9
      go_wp2_with fail
      refine (HD.out _).mono ?_
      rintro e w1 ⟨v, rfl, ho, bb⟩
      have X : Hid (w1.heap[w.heap.size]? = some (.cells #[.int .i64 0, .int .i64 0, .int .i64 0, .int .i64 0, .string ⟨#[]⟩] 25)) := hide (Below.at bb (heap_alloc_new w (.cells #[.int .i64 0, .int .i64 0, .int .i64 0, .int .i64 0, .string ⟨#[]⟩] 25)))
      have B := hide (bthen (below_new (Below.refl _ w) (.cells #[.int .i64 0, .int .i64 0, .int .i64 0, .int .i64 0, .string ⟨#[]⟩] 25)) bb)
      clear bb
      obtain ⟨g, off, cap, rfl, HA⟩ := HF.out ho
      have HA := hide HA
      clear ho
      go_wp2_with fail
      refine (HA.out _ (Below.refl _ _)).mono ?_
      rintro e w2 ⟨rfl, bb⟩
      replace X := hide (Below.at bb X.out)
      replace B := hide (bthen B.out bb)
      clear bb
      have cX0 := fun o0 => box_cell (box_alloc X.out o0) 0 rfl
      have cX1 := fun o0 => box_cell (box_alloc X.out o0) 1 rfl
      have cX2 := fun o0 => box_cell (box_alloc X.out o0) 2 rfl
      have cX3 := fun o0 => box_cell (box_alloc X.out o0) 3 rfl
      have cX4 := fun o0 => box_cell (box_alloc X.out o0) 4 rfl
      go_wp2_with fail
      refine (AR.out _).mono ?_
      rintro e w3 ⟨rfl, bb⟩
      clear cX0 cX1 cX2 cX3 cX4
      replace X := hide (Below.at bb (box_alloc X.out (.cells #[.int .i64 (wrap64 an), .int .i64 (wrap64 bn), .int .i64 (wrap64 cn), .int .i64 (wrap64 dn), .string es] 25)))
      have A : Hid (w3.heap[w2.heap.size]? = some (.cells #[.int .i64 (wrap64 an), .int .i64 (wrap64 bn), .int .i64 (wrap64 cn), .int .i64 (wrap64 dn), .string es] 25)) := hide (Below.at bb (heap_alloc_new w2 (.cells #[.int .i64 (wrap64 an), .int .i64 (wrap64 bn), .int .i64 (wrap64 cn), .int .i64 (wrap64 dn), .string es] 25)))
      replace B := hide (bthen (below_new B.out (.cells #[.int .i64 (wrap64 an), .int .i64 (wrap64 bn), .int .i64 (wrap64 cn), .int .i64 (wrap64 dn), .string es] 25)) bb)
      clear bb
      generalize w2.heap.size = bA at *
      have cX0 := box_cell X.out 0 rfl
      have fX0 := box_free X.out 0
      have cX1 := box_cell X.out 1 rfl
      have fX1 := box_free X.out 1
      have cX2 := box_cell X.out 2 rfl
      have fX2 := box_free X.out 2
      have cX3 := box_cell X.out 3 rfl
      have fX3 := box_free X.out 3
      have cX4 := box_cell X.out 4 rfl
      have fX4 := box_free X.out 4
      have cA0 := box_cell A.out 0 rfl
      have cA1 := box_cell A.out 1 rfl
      have cA2 := box_cell A.out 2 rfl
      have cA3 := box_cell A.out 3 rfl
      have cA4 := box_cell A.out 4 rfl
      go_wp2
      have K := box5 (set5_box (.int .i64 0) (.int .i64 0) (.int .i64 0) (.int .i64 0) (.string ⟨#[]⟩) X.out)
      simp only [set5] at K
      obtain ⟨⟨k0, k1, k2, k3, k4⟩, _⟩ := K
      refine bodyPost_ret (v := .tuple #[.agg #[.int .i64 0, .int .i64 0, .int .i64 0, .int .i64 0, .string ⟨#[]⟩], .int .i64 10]) (by simp [results, Try.results9, go_sem, k0, k1, k2, k3, k4]) rfl ⟨rfl, ?_⟩
      exact set5_below _ _ _ _ _ B.out (Nat.le_refl _)
  · rw [decA_fault hd]
    have hne : ((K.decF shapeA s.data.toList).2 != 0) = true := by rw [bne_iff_ne]; exact hd
    generalize K.decF shapeA s.data.toList = R at *
    obtain ⟨l, er⟩ := R
    simp only [AC.zero, AC.d] at *
    clear hd
    go_enter Try.func9, Try.ntmps9
    go_wp2_with fail
    refine (HD.out _).mono ?_
    rintro e w1 ⟨v, rfl, _, bb⟩
    have X : Hid (w1.heap[w.heap.size]? = some (.cells #[.int .i64 0, .int .i64 0, .int .i64 0, .int .i64 0, .string ⟨#[]⟩] 25)) := hide (Below.at bb (heap_alloc_new w (.cells #[.int .i64 0, .int .i64 0, .int .i64 0, .int .i64 0, .string ⟨#[]⟩] 25)))
    have B := hide (bthen (below_new (Below.refl _ w) (.cells #[.int .i64 0, .int .i64 0, .int .i64 0, .int .i64 0, .string ⟨#[]⟩] 25)) bb)
    clear bb
    have cX0 := box_cell X.out 0 rfl
    have fX0 := box_free X.out 0
    have cX1 := box_cell X.out 1 rfl
    have fX1 := box_free X.out 1
    have cX2 := box_cell X.out 2 rfl
    have fX2 := box_free X.out 2
    have cX3 := box_cell X.out 3 rfl
    have fX3 := box_free X.out 3
    have cX4 := box_cell X.out 4 rfl
    have fX4 := box_free X.out 4
    go_wp2
    have K := box5 (set5_box (.int .i64 0) (.int .i64 0) (.int .i64 0) (.int .i64 0) (.string ⟨#[]⟩) X.out)
    simp only [set5] at K
    obtain ⟨⟨k0, k1, k2, k3, k4⟩, _⟩ := K
    refine bodyPost_ret (v := .tuple #[.agg #[.int .i64 0, .int .i64 0, .int .i64 0, .int .i64 0, .string ⟨#[]⟩], .int .i64 er]) (by simp [results, Try.results9, go_sem, k0, k1, k2, k3, k4]) rfl ⟨rfl, ?_⟩
    exact set5_below _ _ _ _ _ B.out (Nat.le_refl _)

end Go.Proofs.Ytpopamechapmmaa
