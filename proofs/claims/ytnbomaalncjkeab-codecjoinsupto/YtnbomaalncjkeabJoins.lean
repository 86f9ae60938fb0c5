/-
  CodecJoins: for all lists of items that together hold at most 1048576 values and letters the law's call returns true and leaves both as they were.
-/
import Derived.Test.YtnbomaalncjkeabAppI
import Derived.JoinedCond
namespace Go.Proofs.Ytnbomaalncjkeab
open Go.ChangeShapes Go.WideShapes Go.ChangeAt Go.RowKit

theorem bytes_app (a b : ByteArray) : (a ++ b).data.toList = a.data.toList ++ b.data.toList := by
  simp [ByteArray.data_append]

theorem joins_ok (a b : List It) (ha : (encF a).2 = 0) (hb : (encF b).2 = 0) (hl : a.length + b.length ≤ 1000) : encF (a ++ b) = ((encF a).1 ++ (encF b).1, 0) := by
  obtain ⟨_, a2, a3⟩ := encF_zero a ha
  obtain ⟨_, b2, b3⟩ := encF_zero b hb
  rw [a3, b3]
  unfold encF
  rw [if_neg (by rw [List.length_append]; omega), if_pos]
  · simp
  · rw [firstFault_zero]
    intro x hx
    rcases List.mem_append.1 hx with hx | hx
    · exact a2 x hx
    · exact b2 x hx

theorem joins_bad (a b : List It) (ha : (encF a).2 ≠ 0) : (encF (a ++ b)).2 ≠ 0 := by
  intro h
  obtain ⟨h1, h2, _⟩ := encF_zero (a ++ b) h
  apply ha
  unfold encF
  rw [List.length_append] at h1
  rw [if_neg (by omega), if_pos ((firstFault_zero a).2 fun x hx => h2 x (List.mem_append_left _ hx))]

theorem joins_shape (a b : List It) (ha : (shapeF a).2 = 0) (hb : (shapeF b).2 = 0) : shapeF (a ++ b) = ((shapeF a).1 ++ (shapeF b).1, 0) := by
  have key : ∀ l : List It, (shapeF l).2 = 0 → ∀ x ∈ l, kindB x.k = true := by
    intro l hl
    unfold shapeF at hl
    split at hl
    · rename_i h1; exact List.all_eq_true.1 h1
    · simp at hl
  rw [shapeF_ok a (key a ha), shapeF_ok b (key b hb), shapeF_ok (a ++ b), List.map_append]
  intro x hx
  rcases List.mem_append.1 hx with hx | hx
  · exact key a ha x hx
  · exact key b hb x hx

set_option maxHeartbeats 1000000 in
theorem joins_ap (ao bo : Option Addr) (acap bcap : Nat) (A B : List It) (w : World) (hna : ao = none → acap = 0 ∧ A = []) (hnb : bo = none → bcap = 0 ∧ B = [])
    (_hlen : A.length + B.length ≤ 1048576) (s t x y : ByteArray) (e : Int) (f : Int) (g : Int) (h : Int) (i : Int) (j : Int) (u : ByteArray) (z : ByteArray)
    (HA : Hid (ItemsAt w ao A)) (HB : Hid (ItemsAt w bo B))
    (HE1 : Hid (∀ w, ItemsAt w ao A → Calls Try.prog 5 #[.slice ao A.length acap] w fun r w' => r = .returned (.tuple #[.string s, .int .i64 e]) ∧ Below w.heap.size w w'))
    (HE2 : Hid (∀ w, ItemsAt w bo B → Calls Try.prog 5 #[.slice bo B.length bcap] w fun r w' => r = .returned (.tuple #[.string t, .int .i64 f]) ∧ Below w.heap.size w w'))
    (HE3 : Hid (∀ co ccap w, ItemsAt w co (A ++ B) → Calls Try.prog 5 #[.slice co (A.length + B.length) ccap] w fun r w' => r = .returned (.tuple #[.string u, .int .i64 g]) ∧ Below w.heap.size w w'))
    (HZ1 : Hid (∀ w, ItemsAt w ao A → Calls Try.prog 6 #[.slice ao A.length acap] w fun r w' => r = .returned (.tuple #[.string x, .int .i64 h]) ∧ Below w.heap.size w w'))
    (HZ2 : Hid (∀ w, ItemsAt w bo B → Calls Try.prog 6 #[.slice bo B.length bcap] w fun r w' => r = .returned (.tuple #[.string y, .int .i64 i]) ∧ Below w.heap.size w w'))
    (HZ3 : Hid (∀ co ccap w, ItemsAt w co (A ++ B) → Calls Try.prog 6 #[.slice co (A.length + B.length) ccap] w fun r w' => r = .returned (.tuple #[.string z, .int .i64 j]) ∧ Below w.heap.size w w'))
    (_hs1 : s.size ≤ 100008000) (_hs2 : t.size ≤ 100008000) (_hs3 : x.size ≤ 1048576) (_hs4 : y.size ≤ 1048576) (h1 : (e == 0) = false) (h2 : (e != 0) = true) (h3 : (g == 0) = false) (h4 : (h != 0) = true) :
    Calls Try.prog 3 #[.slice ao A.length acap, .slice bo B.length bcap] w fun r w' => r = .returned (.bool true) ∧ Below w.heap.size w w' := by
  go_enter Try.func3, Try.ntmps3
  go_wp2_with fail
  refine (examples_any _).mono ?_
  rintro e w1 ⟨rfl, b1⟩
  have B1 := hide b1
  clear b1
  go_wp2_with (at_builtin; refine wpList_append_items rfl _ _ rfl w.heap.size (.slice none 0 0) [] rfl ⟨rfl, Or.inl ⟨rfl, rfl⟩⟩ ao acap A rfl hna (HA.out.below B1.out) ?_ B1.out.size ?_)
  case _ => simp; omega
  intro v2 w2 hown2 hg2
  have B2 := hide (B1.out.grown hg2 B1.out.size (fun k hk => by simp [Value.ownBlock] at hk))
  have HO2 := hide hown2
  clear hown2 hg2
  go_wp2_with (at_builtin; refine wpList_append_items rfl _ _ rfl w.heap.size v2 A rfl HO2.out bo bcap B rfl hnb (HB.out.below B2.out) ?_ B2.out.size ?_)
  case _ => omega
  intro v3 w3 hown3 hg3
  have B3 := hide (B2.out.grown hg3 B2.out.size (fun k hk => (HO2.out.lt k hk).1))
  obtain ⟨co, ccap, hv3, hco⟩ := items_of_own (l := A ++ B) (by rw [List.length_append]; exact hown3)
  rw [List.length_append] at hv3
  subst hv3
  have HC3 := hide hco
  clear hown3 hg3 hco HO2
  go_wp2_with fail
  refine (HE1.out _ (HA.out.below B3.out)).mono ?_
  rintro e w4 ⟨rfl, b4⟩
  have B4 := hide (B3.out.trans (b4.mono B3.out.size))
  have HC4 := hide (HC3.out.below b4)
  clear b4
  go_wp2_with fail
  refine (HE2.out _ (HB.out.below B4.out)).mono ?_
  rintro e w5 ⟨rfl, b5⟩
  have B5 := hide (B4.out.trans (b5.mono B4.out.size))
  have HC5 := hide (HC4.out.below b5)
  clear b5
  go_wp2_with fail
  refine (HE3.out co ccap _ HC5.out).mono ?_
  rintro e w6 ⟨rfl, b6⟩
  have B6 := hide (B5.out.trans (b6.mono B5.out.size))
  have HC6 := hide (HC5.out.below b6)
  clear b6
  go_wp2_with fail
  refine (HZ1.out _ (HA.out.below B6.out)).mono ?_
  rintro e w7 ⟨rfl, b7⟩
  have B7 := hide (B6.out.trans (b7.mono B6.out.size))
  have HC7 := hide (HC6.out.below b7)
  clear b7
  go_wp2_with fail
  refine (HZ2.out _ (HB.out.below B7.out)).mono ?_
  rintro e w8 ⟨rfl, b8⟩
  have B8 := hide (B7.out.trans (b8.mono B7.out.size))
  have HC8 := hide (HC7.out.below b8)
  clear b8
  go_wp2_with fail
  refine (HZ3.out co ccap _ HC8.out).mono ?_
  rintro e w9 ⟨rfl, b9⟩
  have B9 := hide (B8.out.trans (b9.mono B8.out.size))
  have HC9 := hide (HC8.out.below b9)
  clear b9
  go_wp2
  go_ret
  exact ⟨rfl, B9.out⟩

set_option maxHeartbeats 1000000 in
theorem joins_aq (ao bo : Option Addr) (acap bcap : Nat) (A B : List It) (w : World) (hna : ao = none → acap = 0 ∧ A = []) (hnb : bo = none → bcap = 0 ∧ B = [])
    (_hlen : A.length + B.length ≤ 1048576) (s t x y : ByteArray) (e : Int) (f : Int) (g : Int) (i : Int) (j : Int) (u : ByteArray) (z : ByteArray)
    (HA : Hid (ItemsAt w ao A)) (HB : Hid (ItemsAt w bo B))
    (HE1 : Hid (∀ w, ItemsAt w ao A → Calls Try.prog 5 #[.slice ao A.length acap] w fun r w' => r = .returned (.tuple #[.string s, .int .i64 e]) ∧ Below w.heap.size w w'))
    (HE2 : Hid (∀ w, ItemsAt w bo B → Calls Try.prog 5 #[.slice bo B.length bcap] w fun r w' => r = .returned (.tuple #[.string t, .int .i64 f]) ∧ Below w.heap.size w w'))
    (HE3 : Hid (∀ co ccap w, ItemsAt w co (A ++ B) → Calls Try.prog 5 #[.slice co (A.length + B.length) ccap] w fun r w' => r = .returned (.tuple #[.string u, .int .i64 g]) ∧ Below w.heap.size w w'))
    (HZ1 : Hid (∀ w, ItemsAt w ao A → Calls Try.prog 6 #[.slice ao A.length acap] w fun r w' => r = .returned (.tuple #[.string x, .int .i64 0]) ∧ Below w.heap.size w w'))
    (HZ2 : Hid (∀ w, ItemsAt w bo B → Calls Try.prog 6 #[.slice bo B.length bcap] w fun r w' => r = .returned (.tuple #[.string y, .int .i64 i]) ∧ Below w.heap.size w w'))
    (HZ3 : Hid (∀ co ccap w, ItemsAt w co (A ++ B) → Calls Try.prog 6 #[.slice co (A.length + B.length) ccap] w fun r w' => r = .returned (.tuple #[.string z, .int .i64 j]) ∧ Below w.heap.size w w'))
    (_hs1 : s.size ≤ 100008000) (_hs2 : t.size ≤ 100008000) (_hs3 : x.size ≤ 1048576) (_hs4 : y.size ≤ 1048576) (h1 : (e == 0) = false) (h2 : (e != 0) = true) (h3 : (g == 0) = false) (h4 : (i != 0) = true) :
    Calls Try.prog 3 #[.slice ao A.length acap, .slice bo B.length bcap] w fun r w' => r = .returned (.bool true) ∧ Below w.heap.size w w' := by
  go_enter Try.func3, Try.ntmps3
  go_wp2_with fail
  refine (examples_any _).mono ?_
  rintro e w1 ⟨rfl, b1⟩
  have B1 := hide b1
  clear b1
  go_wp2_with (at_builtin; refine wpList_append_items rfl _ _ rfl w.heap.size (.slice none 0 0) [] rfl ⟨rfl, Or.inl ⟨rfl, rfl⟩⟩ ao acap A rfl hna (HA.out.below B1.out) ?_ B1.out.size ?_)
  case _ => simp; omega
  intro v2 w2 hown2 hg2
  have B2 := hide (B1.out.grown hg2 B1.out.size (fun k hk => by simp [Value.ownBlock] at hk))
  have HO2 := hide hown2
  clear hown2 hg2
  go_wp2_with (at_builtin; refine wpList_append_items rfl _ _ rfl w.heap.size v2 A rfl HO2.out bo bcap B rfl hnb (HB.out.below B2.out) ?_ B2.out.size ?_)
  case _ => omega
  intro v3 w3 hown3 hg3
  have B3 := hide (B2.out.grown hg3 B2.out.size (fun k hk => (HO2.out.lt k hk).1))
  obtain ⟨co, ccap, hv3, hco⟩ := items_of_own (l := A ++ B) (by rw [List.length_append]; exact hown3)
  rw [List.length_append] at hv3
  subst hv3
  have HC3 := hide hco
  clear hown3 hg3 hco HO2
  go_wp2_with fail
  refine (HE1.out _ (HA.out.below B3.out)).mono ?_
  rintro e w4 ⟨rfl, b4⟩
  have B4 := hide (B3.out.trans (b4.mono B3.out.size))
  have HC4 := hide (HC3.out.below b4)
  clear b4
  go_wp2_with fail
  refine (HE2.out _ (HB.out.below B4.out)).mono ?_
  rintro e w5 ⟨rfl, b5⟩
  have B5 := hide (B4.out.trans (b5.mono B4.out.size))
  have HC5 := hide (HC4.out.below b5)
  clear b5
  go_wp2_with fail
  refine (HE3.out co ccap _ HC5.out).mono ?_
  rintro e w6 ⟨rfl, b6⟩
  have B6 := hide (B5.out.trans (b6.mono B5.out.size))
  have HC6 := hide (HC5.out.below b6)
  clear b6
  go_wp2_with fail
  refine (HZ1.out _ (HA.out.below B6.out)).mono ?_
  rintro e w7 ⟨rfl, b7⟩
  have B7 := hide (B6.out.trans (b7.mono B6.out.size))
  have HC7 := hide (HC6.out.below b7)
  clear b7
  go_wp2_with fail
  refine (HZ2.out _ (HB.out.below B7.out)).mono ?_
  rintro e w8 ⟨rfl, b8⟩
  have B8 := hide (B7.out.trans (b8.mono B7.out.size))
  have HC8 := hide (HC7.out.below b8)
  clear b8
  go_wp2_with fail
  refine (HZ3.out co ccap _ HC8.out).mono ?_
  rintro e w9 ⟨rfl, b9⟩
  have B9 := hide (B8.out.trans (b9.mono B8.out.size))
  have HC9 := hide (HC8.out.below b9)
  clear b9
  go_wp2
  go_ret
  exact ⟨rfl, B9.out⟩

set_option maxHeartbeats 1000000 in
theorem joins_ar (ao bo : Option Addr) (acap bcap : Nat) (A B : List It) (w : World) (hna : ao = none → acap = 0 ∧ A = []) (hnb : bo = none → bcap = 0 ∧ B = [])
    (_hlen : A.length + B.length ≤ 1048576) (s t x y : ByteArray) (e : Int) (f : Int) (g : Int) (u : ByteArray)
    (HA : Hid (ItemsAt w ao A)) (HB : Hid (ItemsAt w bo B))
    (HE1 : Hid (∀ w, ItemsAt w ao A → Calls Try.prog 5 #[.slice ao A.length acap] w fun r w' => r = .returned (.tuple #[.string s, .int .i64 e]) ∧ Below w.heap.size w w'))
    (HE2 : Hid (∀ w, ItemsAt w bo B → Calls Try.prog 5 #[.slice bo B.length bcap] w fun r w' => r = .returned (.tuple #[.string t, .int .i64 f]) ∧ Below w.heap.size w w'))
    (HE3 : Hid (∀ co ccap w, ItemsAt w co (A ++ B) → Calls Try.prog 5 #[.slice co (A.length + B.length) ccap] w fun r w' => r = .returned (.tuple #[.string u, .int .i64 g]) ∧ Below w.heap.size w w'))
    (HZ1 : Hid (∀ w, ItemsAt w ao A → Calls Try.prog 6 #[.slice ao A.length acap] w fun r w' => r = .returned (.tuple #[.string x, .int .i64 0]) ∧ Below w.heap.size w w'))
    (HZ2 : Hid (∀ w, ItemsAt w bo B → Calls Try.prog 6 #[.slice bo B.length bcap] w fun r w' => r = .returned (.tuple #[.string y, .int .i64 0]) ∧ Below w.heap.size w w'))
    (HZ3 : Hid (∀ co ccap w, ItemsAt w co (A ++ B) → Calls Try.prog 6 #[.slice co (A.length + B.length) ccap] w fun r w' => r = .returned (.tuple #[.string (x ++ y), .int .i64 0]) ∧ Below w.heap.size w w'))
    (_hs1 : s.size ≤ 100008000) (_hs2 : t.size ≤ 100008000) (_hs3 : x.size ≤ 1048576) (_hs4 : y.size ≤ 1048576) (h1 : (e == 0) = false) (h2 : (e != 0) = true) (h3 : (g == 0) = false) :
    Calls Try.prog 3 #[.slice ao A.length acap, .slice bo B.length bcap] w fun r w' => r = .returned (.bool true) ∧ Below w.heap.size w w' := by
  go_enter Try.func3, Try.ntmps3
  go_wp2_with fail
  refine (examples_any _).mono ?_
  rintro e w1 ⟨rfl, b1⟩
  have B1 := hide b1
  clear b1
  go_wp2_with (at_builtin; refine wpList_append_items rfl _ _ rfl w.heap.size (.slice none 0 0) [] rfl ⟨rfl, Or.inl ⟨rfl, rfl⟩⟩ ao acap A rfl hna (HA.out.below B1.out) ?_ B1.out.size ?_)
  case _ => simp; omega
  intro v2 w2 hown2 hg2
  have B2 := hide (B1.out.grown hg2 B1.out.size (fun k hk => by simp [Value.ownBlock] at hk))
  have HO2 := hide hown2
  clear hown2 hg2
  go_wp2_with (at_builtin; refine wpList_append_items rfl _ _ rfl w.heap.size v2 A rfl HO2.out bo bcap B rfl hnb (HB.out.below B2.out) ?_ B2.out.size ?_)
  case _ => omega
  intro v3 w3 hown3 hg3
  have B3 := hide (B2.out.grown hg3 B2.out.size (fun k hk => (HO2.out.lt k hk).1))
  obtain ⟨co, ccap, hv3, hco⟩ := items_of_own (l := A ++ B) (by rw [List.length_append]; exact hown3)
  rw [List.length_append] at hv3
  subst hv3
  have HC3 := hide hco
  clear hown3 hg3 hco HO2
  go_wp2_with fail
  refine (HE1.out _ (HA.out.below B3.out)).mono ?_
  rintro e w4 ⟨rfl, b4⟩
  have B4 := hide (B3.out.trans (b4.mono B3.out.size))
  have HC4 := hide (HC3.out.below b4)
  clear b4
  go_wp2_with fail
  refine (HE2.out _ (HB.out.below B4.out)).mono ?_
  rintro e w5 ⟨rfl, b5⟩
  have B5 := hide (B4.out.trans (b5.mono B4.out.size))
  have HC5 := hide (HC4.out.below b5)
  clear b5
  go_wp2_with fail
  refine (HE3.out co ccap _ HC5.out).mono ?_
  rintro e w6 ⟨rfl, b6⟩
  have B6 := hide (B5.out.trans (b6.mono B5.out.size))
  have HC6 := hide (HC5.out.below b6)
  clear b6
  go_wp2_with fail
  refine (HZ1.out _ (HA.out.below B6.out)).mono ?_
  rintro e w7 ⟨rfl, b7⟩
  have B7 := hide (B6.out.trans (b7.mono B6.out.size))
  have HC7 := hide (HC6.out.below b7)
  clear b7
  go_wp2_with fail
  refine (HZ2.out _ (HB.out.below B7.out)).mono ?_
  rintro e w8 ⟨rfl, b8⟩
  have B8 := hide (B7.out.trans (b8.mono B7.out.size))
  have HC8 := hide (HC7.out.below b8)
  clear b8
  go_wp2_with fail
  refine (HZ3.out co ccap _ HC8.out).mono ?_
  rintro e w9 ⟨rfl, b9⟩
  have B9 := hide (B8.out.trans (b9.mono B8.out.size))
  have HC9 := hide (HC8.out.below b9)
  clear b9
  go_wp2
  go_ret
  exact ⟨rfl, B9.out⟩

set_option maxHeartbeats 1000000 in
theorem joins_bp (ao bo : Option Addr) (acap bcap : Nat) (A B : List It) (w : World) (hna : ao = none → acap = 0 ∧ A = []) (hnb : bo = none → bcap = 0 ∧ B = [])
    (_hlen : A.length + B.length ≤ 1048576) (s t x y : ByteArray) (f : Int) (g : Int) (h : Int) (i : Int) (j : Int) (u : ByteArray) (z : ByteArray)
    (HA : Hid (ItemsAt w ao A)) (HB : Hid (ItemsAt w bo B))
    (HE1 : Hid (∀ w, ItemsAt w ao A → Calls Try.prog 5 #[.slice ao A.length acap] w fun r w' => r = .returned (.tuple #[.string s, .int .i64 0]) ∧ Below w.heap.size w w'))
    (HE2 : Hid (∀ w, ItemsAt w bo B → Calls Try.prog 5 #[.slice bo B.length bcap] w fun r w' => r = .returned (.tuple #[.string t, .int .i64 f]) ∧ Below w.heap.size w w'))
    (HE3 : Hid (∀ co ccap w, ItemsAt w co (A ++ B) → Calls Try.prog 5 #[.slice co (A.length + B.length) ccap] w fun r w' => r = .returned (.tuple #[.string u, .int .i64 g]) ∧ Below w.heap.size w w'))
    (HZ1 : Hid (∀ w, ItemsAt w ao A → Calls Try.prog 6 #[.slice ao A.length acap] w fun r w' => r = .returned (.tuple #[.string x, .int .i64 h]) ∧ Below w.heap.size w w'))
    (HZ2 : Hid (∀ w, ItemsAt w bo B → Calls Try.prog 6 #[.slice bo B.length bcap] w fun r w' => r = .returned (.tuple #[.string y, .int .i64 i]) ∧ Below w.heap.size w w'))
    (HZ3 : Hid (∀ co ccap w, ItemsAt w co (A ++ B) → Calls Try.prog 6 #[.slice co (A.length + B.length) ccap] w fun r w' => r = .returned (.tuple #[.string z, .int .i64 j]) ∧ Below w.heap.size w w'))
    (_hs1 : s.size ≤ 100008000) (_hs2 : t.size ≤ 100008000) (_hs3 : x.size ≤ 1048576) (_hs4 : y.size ≤ 1048576) (h1 : (f == 0) = false) (h4 : (h != 0) = true) :
    Calls Try.prog 3 #[.slice ao A.length acap, .slice bo B.length bcap] w fun r w' => r = .returned (.bool true) ∧ Below w.heap.size w w' := by
  go_enter Try.func3, Try.ntmps3
  go_wp2_with fail
  refine (examples_any _).mono ?_
  rintro e w1 ⟨rfl, b1⟩
  have B1 := hide b1
  clear b1
  go_wp2_with (at_builtin; refine wpList_append_items rfl _ _ rfl w.heap.size (.slice none 0 0) [] rfl ⟨rfl, Or.inl ⟨rfl, rfl⟩⟩ ao acap A rfl hna (HA.out.below B1.out) ?_ B1.out.size ?_)
  case _ => simp; omega
  intro v2 w2 hown2 hg2
  have B2 := hide (B1.out.grown hg2 B1.out.size (fun k hk => by simp [Value.ownBlock] at hk))
  have HO2 := hide hown2
  clear hown2 hg2
  go_wp2_with (at_builtin; refine wpList_append_items rfl _ _ rfl w.heap.size v2 A rfl HO2.out bo bcap B rfl hnb (HB.out.below B2.out) ?_ B2.out.size ?_)
  case _ => omega
  intro v3 w3 hown3 hg3
  have B3 := hide (B2.out.grown hg3 B2.out.size (fun k hk => (HO2.out.lt k hk).1))
  obtain ⟨co, ccap, hv3, hco⟩ := items_of_own (l := A ++ B) (by rw [List.length_append]; exact hown3)
  rw [List.length_append] at hv3
  subst hv3
  have HC3 := hide hco
  clear hown3 hg3 hco HO2
  go_wp2_with fail
  refine (HE1.out _ (HA.out.below B3.out)).mono ?_
  rintro e w4 ⟨rfl, b4⟩
  have B4 := hide (B3.out.trans (b4.mono B3.out.size))
  have HC4 := hide (HC3.out.below b4)
  clear b4
  go_wp2_with fail
  refine (HE2.out _ (HB.out.below B4.out)).mono ?_
  rintro e w5 ⟨rfl, b5⟩
  have B5 := hide (B4.out.trans (b5.mono B4.out.size))
  have HC5 := hide (HC4.out.below b5)
  clear b5
  go_wp2_with fail
  refine (HE3.out co ccap _ HC5.out).mono ?_
  rintro e w6 ⟨rfl, b6⟩
  have B6 := hide (B5.out.trans (b6.mono B5.out.size))
  have HC6 := hide (HC5.out.below b6)
  clear b6
  go_wp2_with fail
  refine (HZ1.out _ (HA.out.below B6.out)).mono ?_
  rintro e w7 ⟨rfl, b7⟩
  have B7 := hide (B6.out.trans (b7.mono B6.out.size))
  have HC7 := hide (HC6.out.below b7)
  clear b7
  go_wp2_with fail
  refine (HZ2.out _ (HB.out.below B7.out)).mono ?_
  rintro e w8 ⟨rfl, b8⟩
  have B8 := hide (B7.out.trans (b8.mono B7.out.size))
  have HC8 := hide (HC7.out.below b8)
  clear b8
  go_wp2_with fail
  refine (HZ3.out co ccap _ HC8.out).mono ?_
  rintro e w9 ⟨rfl, b9⟩
  have B9 := hide (B8.out.trans (b9.mono B8.out.size))
  have HC9 := hide (HC8.out.below b9)
  clear b9
  go_wp2
  go_ret
  exact ⟨rfl, B9.out⟩

set_option maxHeartbeats 1000000 in
theorem joins_bq (ao bo : Option Addr) (acap bcap : Nat) (A B : List It) (w : World) (hna : ao = none → acap = 0 ∧ A = []) (hnb : bo = none → bcap = 0 ∧ B = [])
    (_hlen : A.length + B.length ≤ 1048576) (s t x y : ByteArray) (f : Int) (g : Int) (i : Int) (j : Int) (u : ByteArray) (z : ByteArray)
    (HA : Hid (ItemsAt w ao A)) (HB : Hid (ItemsAt w bo B))
    (HE1 : Hid (∀ w, ItemsAt w ao A → Calls Try.prog 5 #[.slice ao A.length acap] w fun r w' => r = .returned (.tuple #[.string s, .int .i64 0]) ∧ Below w.heap.size w w'))
    (HE2 : Hid (∀ w, ItemsAt w bo B → Calls Try.prog 5 #[.slice bo B.length bcap] w fun r w' => r = .returned (.tuple #[.string t, .int .i64 f]) ∧ Below w.heap.size w w'))
    (HE3 : Hid (∀ co ccap w, ItemsAt w co (A ++ B) → Calls Try.prog 5 #[.slice co (A.length + B.length) ccap] w fun r w' => r = .returned (.tuple #[.string u, .int .i64 g]) ∧ Below w.heap.size w w'))
    (HZ1 : Hid (∀ w, ItemsAt w ao A → Calls Try.prog 6 #[.slice ao A.length acap] w fun r w' => r = .returned (.tuple #[.string x, .int .i64 0]) ∧ Below w.heap.size w w'))
    (HZ2 : Hid (∀ w, ItemsAt w bo B → Calls Try.prog 6 #[.slice bo B.length bcap] w fun r w' => r = .returned (.tuple #[.string y, .int .i64 i]) ∧ Below w.heap.size w w'))
    (HZ3 : Hid (∀ co ccap w, ItemsAt w co (A ++ B) → Calls Try.prog 6 #[.slice co (A.length + B.length) ccap] w fun r w' => r = .returned (.tuple #[.string z, .int .i64 j]) ∧ Below w.heap.size w w'))
    (_hs1 : s.size ≤ 100008000) (_hs2 : t.size ≤ 100008000) (_hs3 : x.size ≤ 1048576) (_hs4 : y.size ≤ 1048576) (h1 : (f == 0) = false) (h4 : (i != 0) = true) :
    Calls Try.prog 3 #[.slice ao A.length acap, .slice bo B.length bcap] w fun r w' => r = .returned (.bool true) ∧ Below w.heap.size w w' := by
  go_enter Try.func3, Try.ntmps3
  go_wp2_with fail
  refine (examples_any _).mono ?_
  rintro e w1 ⟨rfl, b1⟩
  have B1 := hide b1
  clear b1
  go_wp2_with (at_builtin; refine wpList_append_items rfl _ _ rfl w.heap.size (.slice none 0 0) [] rfl ⟨rfl, Or.inl ⟨rfl, rfl⟩⟩ ao acap A rfl hna (HA.out.below B1.out) ?_ B1.out.size ?_)
  case _ => simp; omega
  intro v2 w2 hown2 hg2
  have B2 := hide (B1.out.grown hg2 B1.out.size (fun k hk => by simp [Value.ownBlock] at hk))
  have HO2 := hide hown2
  clear hown2 hg2
  go_wp2_with (at_builtin; refine wpList_append_items rfl _ _ rfl w.heap.size v2 A rfl HO2.out bo bcap B rfl hnb (HB.out.below B2.out) ?_ B2.out.size ?_)
  case _ => omega
  intro v3 w3 hown3 hg3
  have B3 := hide (B2.out.grown hg3 B2.out.size (fun k hk => (HO2.out.lt k hk).1))
  obtain ⟨co, ccap, hv3, hco⟩ := items_of_own (l := A ++ B) (by rw [List.length_append]; exact hown3)
  rw [List.length_append] at hv3
  subst hv3
  have HC3 := hide hco
  clear hown3 hg3 hco HO2
  go_wp2_with fail
  refine (HE1.out _ (HA.out.below B3.out)).mono ?_
  rintro e w4 ⟨rfl, b4⟩
  have B4 := hide (B3.out.trans (b4.mono B3.out.size))
  have HC4 := hide (HC3.out.below b4)
  clear b4
  go_wp2_with fail
  refine (HE2.out _ (HB.out.below B4.out)).mono ?_
  rintro e w5 ⟨rfl, b5⟩
  have B5 := hide (B4.out.trans (b5.mono B4.out.size))
  have HC5 := hide (HC4.out.below b5)
  clear b5
  go_wp2_with fail
  refine (HE3.out co ccap _ HC5.out).mono ?_
  rintro e w6 ⟨rfl, b6⟩
  have B6 := hide (B5.out.trans (b6.mono B5.out.size))
  have HC6 := hide (HC5.out.below b6)
  clear b6
  go_wp2_with fail
  refine (HZ1.out _ (HA.out.below B6.out)).mono ?_
  rintro e w7 ⟨rfl, b7⟩
  have B7 := hide (B6.out.trans (b7.mono B6.out.size))
  have HC7 := hide (HC6.out.below b7)
  clear b7
  go_wp2_with fail
  refine (HZ2.out _ (HB.out.below B7.out)).mono ?_
  rintro e w8 ⟨rfl, b8⟩
  have B8 := hide (B7.out.trans (b8.mono B7.out.size))
  have HC8 := hide (HC7.out.below b8)
  clear b8
  go_wp2_with fail
  refine (HZ3.out co ccap _ HC8.out).mono ?_
  rintro e w9 ⟨rfl, b9⟩
  have B9 := hide (B8.out.trans (b9.mono B8.out.size))
  have HC9 := hide (HC8.out.below b9)
  clear b9
  go_wp2
  go_ret
  exact ⟨rfl, B9.out⟩

set_option maxHeartbeats 1000000 in
theorem joins_br (ao bo : Option Addr) (acap bcap : Nat) (A B : List It) (w : World) (hna : ao = none → acap = 0 ∧ A = []) (hnb : bo = none → bcap = 0 ∧ B = [])
    (_hlen : A.length + B.length ≤ 1048576) (s t x y : ByteArray) (f : Int) (g : Int) (u : ByteArray)
    (HA : Hid (ItemsAt w ao A)) (HB : Hid (ItemsAt w bo B))
    (HE1 : Hid (∀ w, ItemsAt w ao A → Calls Try.prog 5 #[.slice ao A.length acap] w fun r w' => r = .returned (.tuple #[.string s, .int .i64 0]) ∧ Below w.heap.size w w'))
    (HE2 : Hid (∀ w, ItemsAt w bo B → Calls Try.prog 5 #[.slice bo B.length bcap] w fun r w' => r = .returned (.tuple #[.string t, .int .i64 f]) ∧ Below w.heap.size w w'))
    (HE3 : Hid (∀ co ccap w, ItemsAt w co (A ++ B) → Calls Try.prog 5 #[.slice co (A.length + B.length) ccap] w fun r w' => r = .returned (.tuple #[.string u, .int .i64 g]) ∧ Below w.heap.size w w'))
    (HZ1 : Hid (∀ w, ItemsAt w ao A → Calls Try.prog 6 #[.slice ao A.length acap] w fun r w' => r = .returned (.tuple #[.string x, .int .i64 0]) ∧ Below w.heap.size w w'))
    (HZ2 : Hid (∀ w, ItemsAt w bo B → Calls Try.prog 6 #[.slice bo B.length bcap] w fun r w' => r = .returned (.tuple #[.string y, .int .i64 0]) ∧ Below w.heap.size w w'))
    (HZ3 : Hid (∀ co ccap w, ItemsAt w co (A ++ B) → Calls Try.prog 6 #[.slice co (A.length + B.length) ccap] w fun r w' => r = .returned (.tuple #[.string (x ++ y), .int .i64 0]) ∧ Below w.heap.size w w'))
    (_hs1 : s.size ≤ 100008000) (_hs2 : t.size ≤ 100008000) (_hs3 : x.size ≤ 1048576) (_hs4 : y.size ≤ 1048576) (h1 : (f == 0) = false) :
    Calls Try.prog 3 #[.slice ao A.length acap, .slice bo B.length bcap] w fun r w' => r = .returned (.bool true) ∧ Below w.heap.size w w' := by
  go_enter Try.func3, Try.ntmps3
  go_wp2_with fail
  refine (examples_any _).mono ?_
  rintro e w1 ⟨rfl, b1⟩
  have B1 := hide b1
  clear b1
  go_wp2_with (at_builtin; refine wpList_append_items rfl _ _ rfl w.heap.size (.slice none 0 0) [] rfl ⟨rfl, Or.inl ⟨rfl, rfl⟩⟩ ao acap A rfl hna (HA.out.below B1.out) ?_ B1.out.size ?_)
  case _ => simp; omega
  intro v2 w2 hown2 hg2
  have B2 := hide (B1.out.grown hg2 B1.out.size (fun k hk => by simp [Value.ownBlock] at hk))
  have HO2 := hide hown2
  clear hown2 hg2
  go_wp2_with (at_builtin; refine wpList_append_items rfl _ _ rfl w.heap.size v2 A rfl HO2.out bo bcap B rfl hnb (HB.out.below B2.out) ?_ B2.out.size ?_)
  case _ => omega
  intro v3 w3 hown3 hg3
  have B3 := hide (B2.out.grown hg3 B2.out.size (fun k hk => (HO2.out.lt k hk).1))
  obtain ⟨co, ccap, hv3, hco⟩ := items_of_own (l := A ++ B) (by rw [List.length_append]; exact hown3)
  rw [List.length_append] at hv3
  subst hv3
  have HC3 := hide hco
  clear hown3 hg3 hco HO2
  go_wp2_with fail
  refine (HE1.out _ (HA.out.below B3.out)).mono ?_
  rintro e w4 ⟨rfl, b4⟩
  have B4 := hide (B3.out.trans (b4.mono B3.out.size))
  have HC4 := hide (HC3.out.below b4)
  clear b4
  go_wp2_with fail
  refine (HE2.out _ (HB.out.below B4.out)).mono ?_
  rintro e w5 ⟨rfl, b5⟩
  have B5 := hide (B4.out.trans (b5.mono B4.out.size))
  have HC5 := hide (HC4.out.below b5)
  clear b5
  go_wp2_with fail
  refine (HE3.out co ccap _ HC5.out).mono ?_
  rintro e w6 ⟨rfl, b6⟩
  have B6 := hide (B5.out.trans (b6.mono B5.out.size))
  have HC6 := hide (HC5.out.below b6)
  clear b6
  go_wp2_with fail
  refine (HZ1.out _ (HA.out.below B6.out)).mono ?_
  rintro e w7 ⟨rfl, b7⟩
  have B7 := hide (B6.out.trans (b7.mono B6.out.size))
  have HC7 := hide (HC6.out.below b7)
  clear b7
  go_wp2_with fail
  refine (HZ2.out _ (HB.out.below B7.out)).mono ?_
  rintro e w8 ⟨rfl, b8⟩
  have B8 := hide (B7.out.trans (b8.mono B7.out.size))
  have HC8 := hide (HC7.out.below b8)
  clear b8
  go_wp2_with fail
  refine (HZ3.out co ccap _ HC8.out).mono ?_
  rintro e w9 ⟨rfl, b9⟩
  have B9 := hide (B8.out.trans (b9.mono B8.out.size))
  have HC9 := hide (HC8.out.below b9)
  clear b9
  go_wp2
  go_ret
  exact ⟨rfl, B9.out⟩

set_option maxHeartbeats 1000000 in
theorem joins_cp (ao bo : Option Addr) (acap bcap : Nat) (A B : List It) (w : World) (hna : ao = none → acap = 0 ∧ A = []) (hnb : bo = none → bcap = 0 ∧ B = [])
    (_hlen : A.length + B.length ≤ 1048576) (s t x y : ByteArray) (g : Int) (h : Int) (i : Int) (j : Int) (u : ByteArray) (z : ByteArray)
    (HA : Hid (ItemsAt w ao A)) (HB : Hid (ItemsAt w bo B))
    (HE1 : Hid (∀ w, ItemsAt w ao A → Calls Try.prog 5 #[.slice ao A.length acap] w fun r w' => r = .returned (.tuple #[.string s, .int .i64 0]) ∧ Below w.heap.size w w'))
    (HE2 : Hid (∀ w, ItemsAt w bo B → Calls Try.prog 5 #[.slice bo B.length bcap] w fun r w' => r = .returned (.tuple #[.string t, .int .i64 0]) ∧ Below w.heap.size w w'))
    (HE3 : Hid (∀ co ccap w, ItemsAt w co (A ++ B) → Calls Try.prog 5 #[.slice co (A.length + B.length) ccap] w fun r w' => r = .returned (.tuple #[.string u, .int .i64 g]) ∧ Below w.heap.size w w'))
    (HZ1 : Hid (∀ w, ItemsAt w ao A → Calls Try.prog 6 #[.slice ao A.length acap] w fun r w' => r = .returned (.tuple #[.string x, .int .i64 h]) ∧ Below w.heap.size w w'))
    (HZ2 : Hid (∀ w, ItemsAt w bo B → Calls Try.prog 6 #[.slice bo B.length bcap] w fun r w' => r = .returned (.tuple #[.string y, .int .i64 i]) ∧ Below w.heap.size w w'))
    (HZ3 : Hid (∀ co ccap w, ItemsAt w co (A ++ B) → Calls Try.prog 6 #[.slice co (A.length + B.length) ccap] w fun r w' => r = .returned (.tuple #[.string z, .int .i64 j]) ∧ Below w.heap.size w w'))
    (_hs1 : s.size ≤ 100008000) (_hs2 : t.size ≤ 100008000) (_hs3 : x.size ≤ 1048576) (_hs4 : y.size ≤ 1048576) (_hl : ¬ A.length + B.length ≤ 1000) (h4 : (h != 0) = true) :
    Calls Try.prog 3 #[.slice ao A.length acap, .slice bo B.length bcap] w fun r w' => r = .returned (.bool true) ∧ Below w.heap.size w w' := by
  go_enter Try.func3, Try.ntmps3
  go_wp2_with fail
  refine (examples_any _).mono ?_
  rintro e w1 ⟨rfl, b1⟩
  have B1 := hide b1
  clear b1
  go_wp2_with (at_builtin; refine wpList_append_items rfl _ _ rfl w.heap.size (.slice none 0 0) [] rfl ⟨rfl, Or.inl ⟨rfl, rfl⟩⟩ ao acap A rfl hna (HA.out.below B1.out) ?_ B1.out.size ?_)
  case _ => simp; omega
  intro v2 w2 hown2 hg2
  have B2 := hide (B1.out.grown hg2 B1.out.size (fun k hk => by simp [Value.ownBlock] at hk))
  have HO2 := hide hown2
  clear hown2 hg2
  go_wp2_with (at_builtin; refine wpList_append_items rfl _ _ rfl w.heap.size v2 A rfl HO2.out bo bcap B rfl hnb (HB.out.below B2.out) ?_ B2.out.size ?_)
  case _ => omega
  intro v3 w3 hown3 hg3
  have B3 := hide (B2.out.grown hg3 B2.out.size (fun k hk => (HO2.out.lt k hk).1))
  obtain ⟨co, ccap, hv3, hco⟩ := items_of_own (l := A ++ B) (by rw [List.length_append]; exact hown3)
  rw [List.length_append] at hv3
  subst hv3
  have HC3 := hide hco
  clear hown3 hg3 hco HO2
  go_wp2_with fail
  refine (HE1.out _ (HA.out.below B3.out)).mono ?_
  rintro e w4 ⟨rfl, b4⟩
  have B4 := hide (B3.out.trans (b4.mono B3.out.size))
  have HC4 := hide (HC3.out.below b4)
  clear b4
  go_wp2_with fail
  refine (HE2.out _ (HB.out.below B4.out)).mono ?_
  rintro e w5 ⟨rfl, b5⟩
  have B5 := hide (B4.out.trans (b5.mono B4.out.size))
  have HC5 := hide (HC4.out.below b5)
  clear b5
  go_wp2_with fail
  refine (HE3.out co ccap _ HC5.out).mono ?_
  rintro e w6 ⟨rfl, b6⟩
  have B6 := hide (B5.out.trans (b6.mono B5.out.size))
  have HC6 := hide (HC5.out.below b6)
  clear b6
  go_wp2_with fail
  refine (HZ1.out _ (HA.out.below B6.out)).mono ?_
  rintro e w7 ⟨rfl, b7⟩
  have B7 := hide (B6.out.trans (b7.mono B6.out.size))
  have HC7 := hide (HC6.out.below b7)
  clear b7
  go_wp2_with fail
  refine (HZ2.out _ (HB.out.below B7.out)).mono ?_
  rintro e w8 ⟨rfl, b8⟩
  have B8 := hide (B7.out.trans (b8.mono B7.out.size))
  have HC8 := hide (HC7.out.below b8)
  clear b8
  go_wp2_with fail
  refine (HZ3.out co ccap _ HC8.out).mono ?_
  rintro e w9 ⟨rfl, b9⟩
  have B9 := hide (B8.out.trans (b9.mono B8.out.size))
  have HC9 := hide (HC8.out.below b9)
  clear b9
  go_wp2
  go_ret
  exact ⟨rfl, B9.out⟩

set_option maxHeartbeats 1000000 in
theorem joins_cq (ao bo : Option Addr) (acap bcap : Nat) (A B : List It) (w : World) (hna : ao = none → acap = 0 ∧ A = []) (hnb : bo = none → bcap = 0 ∧ B = [])
    (_hlen : A.length + B.length ≤ 1048576) (s t x y : ByteArray) (g : Int) (i : Int) (j : Int) (u : ByteArray) (z : ByteArray)
    (HA : Hid (ItemsAt w ao A)) (HB : Hid (ItemsAt w bo B))
    (HE1 : Hid (∀ w, ItemsAt w ao A → Calls Try.prog 5 #[.slice ao A.length acap] w fun r w' => r = .returned (.tuple #[.string s, .int .i64 0]) ∧ Below w.heap.size w w'))
    (HE2 : Hid (∀ w, ItemsAt w bo B → Calls Try.prog 5 #[.slice bo B.length bcap] w fun r w' => r = .returned (.tuple #[.string t, .int .i64 0]) ∧ Below w.heap.size w w'))
    (HE3 : Hid (∀ co ccap w, ItemsAt w co (A ++ B) → Calls Try.prog 5 #[.slice co (A.length + B.length) ccap] w fun r w' => r = .returned (.tuple #[.string u, .int .i64 g]) ∧ Below w.heap.size w w'))
    (HZ1 : Hid (∀ w, ItemsAt w ao A → Calls Try.prog 6 #[.slice ao A.length acap] w fun r w' => r = .returned (.tuple #[.string x, .int .i64 0]) ∧ Below w.heap.size w w'))
    (HZ2 : Hid (∀ w, ItemsAt w bo B → Calls Try.prog 6 #[.slice bo B.length bcap] w fun r w' => r = .returned (.tuple #[.string y, .int .i64 i]) ∧ Below w.heap.size w w'))
    (HZ3 : Hid (∀ co ccap w, ItemsAt w co (A ++ B) → Calls Try.prog 6 #[.slice co (A.length + B.length) ccap] w fun r w' => r = .returned (.tuple #[.string z, .int .i64 j]) ∧ Below w.heap.size w w'))
    (_hs1 : s.size ≤ 100008000) (_hs2 : t.size ≤ 100008000) (_hs3 : x.size ≤ 1048576) (_hs4 : y.size ≤ 1048576) (_hl : ¬ A.length + B.length ≤ 1000) (h4 : (i != 0) = true) :
    Calls Try.prog 3 #[.slice ao A.length acap, .slice bo B.length bcap] w fun r w' => r = .returned (.bool true) ∧ Below w.heap.size w w' := by
  go_enter Try.func3, Try.ntmps3
  go_wp2_with fail
  refine (examples_any _).mono ?_
  rintro e w1 ⟨rfl, b1⟩
  have B1 := hide b1
  clear b1
  go_wp2_with (at_builtin; refine wpList_append_items rfl _ _ rfl w.heap.size (.slice none 0 0) [] rfl ⟨rfl, Or.inl ⟨rfl, rfl⟩⟩ ao acap A rfl hna (HA.out.below B1.out) ?_ B1.out.size ?_)
  case _ => simp; omega
  intro v2 w2 hown2 hg2
  have B2 := hide (B1.out.grown hg2 B1.out.size (fun k hk => by simp [Value.ownBlock] at hk))
  have HO2 := hide hown2
  clear hown2 hg2
  go_wp2_with (at_builtin; refine wpList_append_items rfl _ _ rfl w.heap.size v2 A rfl HO2.out bo bcap B rfl hnb (HB.out.below B2.out) ?_ B2.out.size ?_)
  case _ => omega
  intro v3 w3 hown3 hg3
  have B3 := hide (B2.out.grown hg3 B2.out.size (fun k hk => (HO2.out.lt k hk).1))
  obtain ⟨co, ccap, hv3, hco⟩ := items_of_own (l := A ++ B) (by rw [List.length_append]; exact hown3)
  rw [List.length_append] at hv3
  subst hv3
  have HC3 := hide hco
  clear hown3 hg3 hco HO2
  go_wp2_with fail
  refine (HE1.out _ (HA.out.below B3.out)).mono ?_
  rintro e w4 ⟨rfl, b4⟩
  have B4 := hide (B3.out.trans (b4.mono B3.out.size))
  have HC4 := hide (HC3.out.below b4)
  clear b4
  go_wp2_with fail
  refine (HE2.out _ (HB.out.below B4.out)).mono ?_
  rintro e w5 ⟨rfl, b5⟩
  have B5 := hide (B4.out.trans (b5.mono B4.out.size))
  have HC5 := hide (HC4.out.below b5)
  clear b5
  go_wp2_with fail
  refine (HE3.out co ccap _ HC5.out).mono ?_
  rintro e w6 ⟨rfl, b6⟩
  have B6 := hide (B5.out.trans (b6.mono B5.out.size))
  have HC6 := hide (HC5.out.below b6)
  clear b6
  go_wp2_with fail
  refine (HZ1.out _ (HA.out.below B6.out)).mono ?_
  rintro e w7 ⟨rfl, b7⟩
  have B7 := hide (B6.out.trans (b7.mono B6.out.size))
  have HC7 := hide (HC6.out.below b7)
  clear b7
  go_wp2_with fail
  refine (HZ2.out _ (HB.out.below B7.out)).mono ?_
  rintro e w8 ⟨rfl, b8⟩
  have B8 := hide (B7.out.trans (b8.mono B7.out.size))
  have HC8 := hide (HC7.out.below b8)
  clear b8
  go_wp2_with fail
  refine (HZ3.out co ccap _ HC8.out).mono ?_
  rintro e w9 ⟨rfl, b9⟩
  have B9 := hide (B8.out.trans (b9.mono B8.out.size))
  have HC9 := hide (HC8.out.below b9)
  clear b9
  go_wp2
  go_ret
  exact ⟨rfl, B9.out⟩

set_option maxHeartbeats 1000000 in
theorem joins_cr (ao bo : Option Addr) (acap bcap : Nat) (A B : List It) (w : World) (hna : ao = none → acap = 0 ∧ A = []) (hnb : bo = none → bcap = 0 ∧ B = [])
    (_hlen : A.length + B.length ≤ 1048576) (s t x y : ByteArray) (g : Int) (u : ByteArray)
    (HA : Hid (ItemsAt w ao A)) (HB : Hid (ItemsAt w bo B))
    (HE1 : Hid (∀ w, ItemsAt w ao A → Calls Try.prog 5 #[.slice ao A.length acap] w fun r w' => r = .returned (.tuple #[.string s, .int .i64 0]) ∧ Below w.heap.size w w'))
    (HE2 : Hid (∀ w, ItemsAt w bo B → Calls Try.prog 5 #[.slice bo B.length bcap] w fun r w' => r = .returned (.tuple #[.string t, .int .i64 0]) ∧ Below w.heap.size w w'))
    (HE3 : Hid (∀ co ccap w, ItemsAt w co (A ++ B) → Calls Try.prog 5 #[.slice co (A.length + B.length) ccap] w fun r w' => r = .returned (.tuple #[.string u, .int .i64 g]) ∧ Below w.heap.size w w'))
    (HZ1 : Hid (∀ w, ItemsAt w ao A → Calls Try.prog 6 #[.slice ao A.length acap] w fun r w' => r = .returned (.tuple #[.string x, .int .i64 0]) ∧ Below w.heap.size w w'))
    (HZ2 : Hid (∀ w, ItemsAt w bo B → Calls Try.prog 6 #[.slice bo B.length bcap] w fun r w' => r = .returned (.tuple #[.string y, .int .i64 0]) ∧ Below w.heap.size w w'))
    (HZ3 : Hid (∀ co ccap w, ItemsAt w co (A ++ B) → Calls Try.prog 6 #[.slice co (A.length + B.length) ccap] w fun r w' => r = .returned (.tuple #[.string (x ++ y), .int .i64 0]) ∧ Below w.heap.size w w'))
    (_hs1 : s.size ≤ 100008000) (_hs2 : t.size ≤ 100008000) (_hs3 : x.size ≤ 1048576) (_hs4 : y.size ≤ 1048576) (_hl : ¬ A.length + B.length ≤ 1000) :
    Calls Try.prog 3 #[.slice ao A.length acap, .slice bo B.length bcap] w fun r w' => r = .returned (.bool true) ∧ Below w.heap.size w w' := by
  go_enter Try.func3, Try.ntmps3
  go_wp2_with fail
  refine (examples_any _).mono ?_
  rintro e w1 ⟨rfl, b1⟩
  have B1 := hide b1
  clear b1
  go_wp2_with (at_builtin; refine wpList_append_items rfl _ _ rfl w.heap.size (.slice none 0 0) [] rfl ⟨rfl, Or.inl ⟨rfl, rfl⟩⟩ ao acap A rfl hna (HA.out.below B1.out) ?_ B1.out.size ?_)
  case _ => simp; omega
  intro v2 w2 hown2 hg2
  have B2 := hide (B1.out.grown hg2 B1.out.size (fun k hk => by simp [Value.ownBlock] at hk))
  have HO2 := hide hown2
  clear hown2 hg2
  go_wp2_with (at_builtin; refine wpList_append_items rfl _ _ rfl w.heap.size v2 A rfl HO2.out bo bcap B rfl hnb (HB.out.below B2.out) ?_ B2.out.size ?_)
  case _ => omega
  intro v3 w3 hown3 hg3
  have B3 := hide (B2.out.grown hg3 B2.out.size (fun k hk => (HO2.out.lt k hk).1))
  obtain ⟨co, ccap, hv3, hco⟩ := items_of_own (l := A ++ B) (by rw [List.length_append]; exact hown3)
  rw [List.length_append] at hv3
  subst hv3
  have HC3 := hide hco
  clear hown3 hg3 hco HO2
  go_wp2_with fail
  refine (HE1.out _ (HA.out.below B3.out)).mono ?_
  rintro e w4 ⟨rfl, b4⟩
  have B4 := hide (B3.out.trans (b4.mono B3.out.size))
  have HC4 := hide (HC3.out.below b4)
  clear b4
  go_wp2_with fail
  refine (HE2.out _ (HB.out.below B4.out)).mono ?_
  rintro e w5 ⟨rfl, b5⟩
  have B5 := hide (B4.out.trans (b5.mono B4.out.size))
  have HC5 := hide (HC4.out.below b5)
  clear b5
  go_wp2_with fail
  refine (HE3.out co ccap _ HC5.out).mono ?_
  rintro e w6 ⟨rfl, b6⟩
  have B6 := hide (B5.out.trans (b6.mono B5.out.size))
  have HC6 := hide (HC5.out.below b6)
  clear b6
  go_wp2_with fail
  refine (HZ1.out _ (HA.out.below B6.out)).mono ?_
  rintro e w7 ⟨rfl, b7⟩
  have B7 := hide (B6.out.trans (b7.mono B6.out.size))
  have HC7 := hide (HC6.out.below b7)
  clear b7
  go_wp2_with fail
  refine (HZ2.out _ (HB.out.below B7.out)).mono ?_
  rintro e w8 ⟨rfl, b8⟩
  have B8 := hide (B7.out.trans (b8.mono B7.out.size))
  have HC8 := hide (HC7.out.below b8)
  clear b8
  go_wp2_with fail
  refine (HZ3.out co ccap _ HC8.out).mono ?_
  rintro e w9 ⟨rfl, b9⟩
  have B9 := hide (B8.out.trans (b9.mono B8.out.size))
  have HC9 := hide (HC8.out.below b9)
  clear b9
  go_wp2
  go_ret
  exact ⟨rfl, B9.out⟩

set_option maxHeartbeats 1000000 in
theorem joins_dp (ao bo : Option Addr) (acap bcap : Nat) (A B : List It) (w : World) (hna : ao = none → acap = 0 ∧ A = []) (hnb : bo = none → bcap = 0 ∧ B = [])
    (_hlen : A.length + B.length ≤ 1048576) (s t x y : ByteArray) (h : Int) (i : Int) (j : Int) (z : ByteArray)
    (HA : Hid (ItemsAt w ao A)) (HB : Hid (ItemsAt w bo B))
    (HE1 : Hid (∀ w, ItemsAt w ao A → Calls Try.prog 5 #[.slice ao A.length acap] w fun r w' => r = .returned (.tuple #[.string s, .int .i64 0]) ∧ Below w.heap.size w w'))
    (HE2 : Hid (∀ w, ItemsAt w bo B → Calls Try.prog 5 #[.slice bo B.length bcap] w fun r w' => r = .returned (.tuple #[.string t, .int .i64 0]) ∧ Below w.heap.size w w'))
    (HE3 : Hid (∀ co ccap w, ItemsAt w co (A ++ B) → Calls Try.prog 5 #[.slice co (A.length + B.length) ccap] w fun r w' => r = .returned (.tuple #[.string (s ++ t), .int .i64 0]) ∧ Below w.heap.size w w'))
    (HZ1 : Hid (∀ w, ItemsAt w ao A → Calls Try.prog 6 #[.slice ao A.length acap] w fun r w' => r = .returned (.tuple #[.string x, .int .i64 h]) ∧ Below w.heap.size w w'))
    (HZ2 : Hid (∀ w, ItemsAt w bo B → Calls Try.prog 6 #[.slice bo B.length bcap] w fun r w' => r = .returned (.tuple #[.string y, .int .i64 i]) ∧ Below w.heap.size w w'))
    (HZ3 : Hid (∀ co ccap w, ItemsAt w co (A ++ B) → Calls Try.prog 6 #[.slice co (A.length + B.length) ccap] w fun r w' => r = .returned (.tuple #[.string z, .int .i64 j]) ∧ Below w.heap.size w w'))
    (_hs1 : s.size ≤ 100008000) (_hs2 : t.size ≤ 100008000) (_hs3 : x.size ≤ 1048576) (_hs4 : y.size ≤ 1048576) (_hl : A.length + B.length ≤ 1000) (h4 : (h != 0) = true) :
    Calls Try.prog 3 #[.slice ao A.length acap, .slice bo B.length bcap] w fun r w' => r = .returned (.bool true) ∧ Below w.heap.size w w' := by
  go_enter Try.func3, Try.ntmps3
  go_wp2_with fail
  refine (examples_any _).mono ?_
  rintro e w1 ⟨rfl, b1⟩
  have B1 := hide b1
  clear b1
  go_wp2_with (at_builtin; refine wpList_append_items rfl _ _ rfl w.heap.size (.slice none 0 0) [] rfl ⟨rfl, Or.inl ⟨rfl, rfl⟩⟩ ao acap A rfl hna (HA.out.below B1.out) ?_ B1.out.size ?_)
  case _ => simp; omega
  intro v2 w2 hown2 hg2
  have B2 := hide (B1.out.grown hg2 B1.out.size (fun k hk => by simp [Value.ownBlock] at hk))
  have HO2 := hide hown2
  clear hown2 hg2
  go_wp2_with (at_builtin; refine wpList_append_items rfl _ _ rfl w.heap.size v2 A rfl HO2.out bo bcap B rfl hnb (HB.out.below B2.out) ?_ B2.out.size ?_)
  case _ => omega
  intro v3 w3 hown3 hg3
  have B3 := hide (B2.out.grown hg3 B2.out.size (fun k hk => (HO2.out.lt k hk).1))
  obtain ⟨co, ccap, hv3, hco⟩ := items_of_own (l := A ++ B) (by rw [List.length_append]; exact hown3)
  rw [List.length_append] at hv3
  subst hv3
  have HC3 := hide hco
  clear hown3 hg3 hco HO2
  go_wp2_with fail
  refine (HE1.out _ (HA.out.below B3.out)).mono ?_
  rintro e w4 ⟨rfl, b4⟩
  have B4 := hide (B3.out.trans (b4.mono B3.out.size))
  have HC4 := hide (HC3.out.below b4)
  clear b4
  go_wp2_with fail
  refine (HE2.out _ (HB.out.below B4.out)).mono ?_
  rintro e w5 ⟨rfl, b5⟩
  have B5 := hide (B4.out.trans (b5.mono B4.out.size))
  have HC5 := hide (HC4.out.below b5)
  clear b5
  go_wp2_with fail
  refine (HE3.out co ccap _ HC5.out).mono ?_
  rintro e w6 ⟨rfl, b6⟩
  have B6 := hide (B5.out.trans (b6.mono B5.out.size))
  have HC6 := hide (HC5.out.below b6)
  clear b6
  go_wp2_with fail
  refine (HZ1.out _ (HA.out.below B6.out)).mono ?_
  rintro e w7 ⟨rfl, b7⟩
  have B7 := hide (B6.out.trans (b7.mono B6.out.size))
  have HC7 := hide (HC6.out.below b7)
  clear b7
  go_wp2_with fail
  refine (HZ2.out _ (HB.out.below B7.out)).mono ?_
  rintro e w8 ⟨rfl, b8⟩
  have B8 := hide (B7.out.trans (b8.mono B7.out.size))
  have HC8 := hide (HC7.out.below b8)
  clear b8
  go_wp2_with fail
  refine (HZ3.out co ccap _ HC8.out).mono ?_
  rintro e w9 ⟨rfl, b9⟩
  have B9 := hide (B8.out.trans (b9.mono B8.out.size))
  have HC9 := hide (HC8.out.below b9)
  clear b9
  go_wp2
  go_ret
  exact ⟨rfl, B9.out⟩

set_option maxHeartbeats 1000000 in
theorem joins_dq (ao bo : Option Addr) (acap bcap : Nat) (A B : List It) (w : World) (hna : ao = none → acap = 0 ∧ A = []) (hnb : bo = none → bcap = 0 ∧ B = [])
    (_hlen : A.length + B.length ≤ 1048576) (s t x y : ByteArray) (i : Int) (j : Int) (z : ByteArray)
    (HA : Hid (ItemsAt w ao A)) (HB : Hid (ItemsAt w bo B))
    (HE1 : Hid (∀ w, ItemsAt w ao A → Calls Try.prog 5 #[.slice ao A.length acap] w fun r w' => r = .returned (.tuple #[.string s, .int .i64 0]) ∧ Below w.heap.size w w'))
    (HE2 : Hid (∀ w, ItemsAt w bo B → Calls Try.prog 5 #[.slice bo B.length bcap] w fun r w' => r = .returned (.tuple #[.string t, .int .i64 0]) ∧ Below w.heap.size w w'))
    (HE3 : Hid (∀ co ccap w, ItemsAt w co (A ++ B) → Calls Try.prog 5 #[.slice co (A.length + B.length) ccap] w fun r w' => r = .returned (.tuple #[.string (s ++ t), .int .i64 0]) ∧ Below w.heap.size w w'))
    (HZ1 : Hid (∀ w, ItemsAt w ao A → Calls Try.prog 6 #[.slice ao A.length acap] w fun r w' => r = .returned (.tuple #[.string x, .int .i64 0]) ∧ Below w.heap.size w w'))
    (HZ2 : Hid (∀ w, ItemsAt w bo B → Calls Try.prog 6 #[.slice bo B.length bcap] w fun r w' => r = .returned (.tuple #[.string y, .int .i64 i]) ∧ Below w.heap.size w w'))
    (HZ3 : Hid (∀ co ccap w, ItemsAt w co (A ++ B) → Calls Try.prog 6 #[.slice co (A.length + B.length) ccap] w fun r w' => r = .returned (.tuple #[.string z, .int .i64 j]) ∧ Below w.heap.size w w'))
    (_hs1 : s.size ≤ 100008000) (_hs2 : t.size ≤ 100008000) (_hs3 : x.size ≤ 1048576) (_hs4 : y.size ≤ 1048576) (_hl : A.length + B.length ≤ 1000) (h4 : (i != 0) = true) :
    Calls Try.prog 3 #[.slice ao A.length acap, .slice bo B.length bcap] w fun r w' => r = .returned (.bool true) ∧ Below w.heap.size w w' := by
  go_enter Try.func3, Try.ntmps3
  go_wp2_with fail
  refine (examples_any _).mono ?_
  rintro e w1 ⟨rfl, b1⟩
  have B1 := hide b1
  clear b1
  go_wp2_with (at_builtin; refine wpList_append_items rfl _ _ rfl w.heap.size (.slice none 0 0) [] rfl ⟨rfl, Or.inl ⟨rfl, rfl⟩⟩ ao acap A rfl hna (HA.out.below B1.out) ?_ B1.out.size ?_)
  case _ => simp; omega
  intro v2 w2 hown2 hg2
  have B2 := hide (B1.out.grown hg2 B1.out.size (fun k hk => by simp [Value.ownBlock] at hk))
  have HO2 := hide hown2
  clear hown2 hg2
  go_wp2_with (at_builtin; refine wpList_append_items rfl _ _ rfl w.heap.size v2 A rfl HO2.out bo bcap B rfl hnb (HB.out.below B2.out) ?_ B2.out.size ?_)
  case _ => omega
  intro v3 w3 hown3 hg3
  have B3 := hide (B2.out.grown hg3 B2.out.size (fun k hk => (HO2.out.lt k hk).1))
  obtain ⟨co, ccap, hv3, hco⟩ := items_of_own (l := A ++ B) (by rw [List.length_append]; exact hown3)
  rw [List.length_append] at hv3
  subst hv3
  have HC3 := hide hco
  clear hown3 hg3 hco HO2
  go_wp2_with fail
  refine (HE1.out _ (HA.out.below B3.out)).mono ?_
  rintro e w4 ⟨rfl, b4⟩
  have B4 := hide (B3.out.trans (b4.mono B3.out.size))
  have HC4 := hide (HC3.out.below b4)
  clear b4
  go_wp2_with fail
  refine (HE2.out _ (HB.out.below B4.out)).mono ?_
  rintro e w5 ⟨rfl, b5⟩
  have B5 := hide (B4.out.trans (b5.mono B4.out.size))
  have HC5 := hide (HC4.out.below b5)
  clear b5
  go_wp2_with fail
  refine (HE3.out co ccap _ HC5.out).mono ?_
  rintro e w6 ⟨rfl, b6⟩
  have B6 := hide (B5.out.trans (b6.mono B5.out.size))
  have HC6 := hide (HC5.out.below b6)
  clear b6
  go_wp2_with fail
  refine (HZ1.out _ (HA.out.below B6.out)).mono ?_
  rintro e w7 ⟨rfl, b7⟩
  have B7 := hide (B6.out.trans (b7.mono B6.out.size))
  have HC7 := hide (HC6.out.below b7)
  clear b7
  go_wp2_with fail
  refine (HZ2.out _ (HB.out.below B7.out)).mono ?_
  rintro e w8 ⟨rfl, b8⟩
  have B8 := hide (B7.out.trans (b8.mono B7.out.size))
  have HC8 := hide (HC7.out.below b8)
  clear b8
  go_wp2_with fail
  refine (HZ3.out co ccap _ HC8.out).mono ?_
  rintro e w9 ⟨rfl, b9⟩
  have B9 := hide (B8.out.trans (b9.mono B8.out.size))
  have HC9 := hide (HC8.out.below b9)
  clear b9
  go_wp2
  go_ret
  exact ⟨rfl, B9.out⟩

set_option maxHeartbeats 1000000 in
theorem joins_dr (ao bo : Option Addr) (acap bcap : Nat) (A B : List It) (w : World) (hna : ao = none → acap = 0 ∧ A = []) (hnb : bo = none → bcap = 0 ∧ B = [])
    (_hlen : A.length + B.length ≤ 1048576) (s t x y : ByteArray)
    (HA : Hid (ItemsAt w ao A)) (HB : Hid (ItemsAt w bo B))
    (HE1 : Hid (∀ w, ItemsAt w ao A → Calls Try.prog 5 #[.slice ao A.length acap] w fun r w' => r = .returned (.tuple #[.string s, .int .i64 0]) ∧ Below w.heap.size w w'))
    (HE2 : Hid (∀ w, ItemsAt w bo B → Calls Try.prog 5 #[.slice bo B.length bcap] w fun r w' => r = .returned (.tuple #[.string t, .int .i64 0]) ∧ Below w.heap.size w w'))
    (HE3 : Hid (∀ co ccap w, ItemsAt w co (A ++ B) → Calls Try.prog 5 #[.slice co (A.length + B.length) ccap] w fun r w' => r = .returned (.tuple #[.string (s ++ t), .int .i64 0]) ∧ Below w.heap.size w w'))
    (HZ1 : Hid (∀ w, ItemsAt w ao A → Calls Try.prog 6 #[.slice ao A.length acap] w fun r w' => r = .returned (.tuple #[.string x, .int .i64 0]) ∧ Below w.heap.size w w'))
    (HZ2 : Hid (∀ w, ItemsAt w bo B → Calls Try.prog 6 #[.slice bo B.length bcap] w fun r w' => r = .returned (.tuple #[.string y, .int .i64 0]) ∧ Below w.heap.size w w'))
    (HZ3 : Hid (∀ co ccap w, ItemsAt w co (A ++ B) → Calls Try.prog 6 #[.slice co (A.length + B.length) ccap] w fun r w' => r = .returned (.tuple #[.string (x ++ y), .int .i64 0]) ∧ Below w.heap.size w w'))
    (_hs1 : s.size ≤ 100008000) (_hs2 : t.size ≤ 100008000) (_hs3 : x.size ≤ 1048576) (_hs4 : y.size ≤ 1048576) (_hl : A.length + B.length ≤ 1000) :
    Calls Try.prog 3 #[.slice ao A.length acap, .slice bo B.length bcap] w fun r w' => r = .returned (.bool true) ∧ Below w.heap.size w w' := by
  go_enter Try.func3, Try.ntmps3
  go_wp2_with fail
  refine (examples_any _).mono ?_
  rintro e w1 ⟨rfl, b1⟩
  have B1 := hide b1
  clear b1
  go_wp2_with (at_builtin; refine wpList_append_items rfl _ _ rfl w.heap.size (.slice none 0 0) [] rfl ⟨rfl, Or.inl ⟨rfl, rfl⟩⟩ ao acap A rfl hna (HA.out.below B1.out) ?_ B1.out.size ?_)
  case _ => simp; omega
  intro v2 w2 hown2 hg2
  have B2 := hide (B1.out.grown hg2 B1.out.size (fun k hk => by simp [Value.ownBlock] at hk))
  have HO2 := hide hown2
  clear hown2 hg2
  go_wp2_with (at_builtin; refine wpList_append_items rfl _ _ rfl w.heap.size v2 A rfl HO2.out bo bcap B rfl hnb (HB.out.below B2.out) ?_ B2.out.size ?_)
  case _ => omega
  intro v3 w3 hown3 hg3
  have B3 := hide (B2.out.grown hg3 B2.out.size (fun k hk => (HO2.out.lt k hk).1))
  obtain ⟨co, ccap, hv3, hco⟩ := items_of_own (l := A ++ B) (by rw [List.length_append]; exact hown3)
  rw [List.length_append] at hv3
  subst hv3
  have HC3 := hide hco
  clear hown3 hg3 hco HO2
  go_wp2_with fail
  refine (HE1.out _ (HA.out.below B3.out)).mono ?_
  rintro e w4 ⟨rfl, b4⟩
  have B4 := hide (B3.out.trans (b4.mono B3.out.size))
  have HC4 := hide (HC3.out.below b4)
  clear b4
  go_wp2_with fail
  refine (HE2.out _ (HB.out.below B4.out)).mono ?_
  rintro e w5 ⟨rfl, b5⟩
  have B5 := hide (B4.out.trans (b5.mono B4.out.size))
  have HC5 := hide (HC4.out.below b5)
  clear b5
  go_wp2_with fail
  refine (HE3.out co ccap _ HC5.out).mono ?_
  rintro e w6 ⟨rfl, b6⟩
  have B6 := hide (B5.out.trans (b6.mono B5.out.size))
  have HC6 := hide (HC5.out.below b6)
  clear b6
  go_wp2_with fail
  refine (HZ1.out _ (HA.out.below B6.out)).mono ?_
  rintro e w7 ⟨rfl, b7⟩
  have B7 := hide (B6.out.trans (b7.mono B6.out.size))
  have HC7 := hide (HC6.out.below b7)
  clear b7
  go_wp2_with fail
  refine (HZ2.out _ (HB.out.below B7.out)).mono ?_
  rintro e w8 ⟨rfl, b8⟩
  have B8 := hide (B7.out.trans (b8.mono B7.out.size))
  have HC8 := hide (HC7.out.below b8)
  clear b8
  go_wp2_with fail
  refine (HZ3.out co ccap _ HC8.out).mono ?_
  rintro e w9 ⟨rfl, b9⟩
  have B9 := hide (B8.out.trans (b9.mono B8.out.size))
  have HC9 := hide (HC8.out.below b9)
  clear b9
  go_wp2
  go_ret
  exact ⟨rfl, B9.out⟩

theorem joins_walk (ao bo : Option Addr) (acap bcap : Nat) (A B : List It) (w : World) (HA : ItemsAt w ao A) (HB : ItemsAt w bo B) (hna : ao = none → acap = 0 ∧ A = []) (hnb : bo = none → bcap = 0 ∧ B = [])
    (hokA : ∀ x ∈ A, x.ok) (hokB : ∀ x ∈ B, x.ok) (hlen : A.length + B.length ≤ 1048576) :
    Calls Try.prog 3 #[.slice ao A.length acap, .slice bo B.length bcap] w fun r w' => r = .returned (.bool true) ∧ Below w.heap.size w w' := by
  have hokC : ∀ x ∈ A ++ B, x.ok := fun x hx => (List.mem_append.1 hx).elim (hokA x) (hokB x)
  have hm : (A ++ B).length ≤ maxLen := by rw [List.length_append]; unfold maxLen; omega
  have HE1 := fun w h => encode_any ao acap A w h hokA (by unfold maxLen; omega)
  have HE2 := fun w h => encode_any bo bcap B w h hokB (by unfold maxLen; omega)
  have HE3 := fun co ccap w h => encode_any co ccap (A ++ B) w h hokC hm
  have HZ1 := fun w h => shape_any ao acap A w h (by omega)
  have HZ2 := fun w h => shape_any bo bcap B w h (by omega)
  have HZ3 := fun co ccap w h => shape_any co ccap (A ++ B) w h (by rw [List.length_append]; omega)
  have hs1 := encF_len A
  have hs2 := encF_len B
  have hs3 := Nat.le_trans (shapeF_len A) (by omega : A.length ≤ 1048576)
  have hs4 := Nat.le_trans (shapeF_len B) (by omega : B.length ≤ 1048576)
  have hok1 := joins_ok A B
  have hbad := joins_bad A B
  have hshape := joins_shape A B
  rw [List.length_append] at HE3 HZ3
  generalize encF (A ++ B) = E3 at *
  generalize encF A = E1 at *
  generalize encF B = E2 at *
  generalize shapeF (A ++ B) = Z3 at *
  generalize shapeF A = Z1 at *
  generalize shapeF B = Z2 at *
  obtain ⟨s, e⟩ := E1
  obtain ⟨t, f⟩ := E2
  obtain ⟨u, g⟩ := E3
  obtain ⟨x, h⟩ := Z1
  obtain ⟨y, i⟩ := Z2
  obtain ⟨z, j⟩ := Z3
  obtain ⟨s, rfl⟩ : ∃ q : ByteArray, s = q.data.toList := ⟨⟨s.toArray⟩, by simp⟩
  obtain ⟨t, rfl⟩ : ∃ q : ByteArray, t = q.data.toList := ⟨⟨t.toArray⟩, by simp⟩
  obtain ⟨u, rfl⟩ : ∃ q : ByteArray, u = q.data.toList := ⟨⟨u.toArray⟩, by simp⟩
  obtain ⟨x, rfl⟩ : ∃ q : ByteArray, x = q.data.toList := ⟨⟨x.toArray⟩, by simp⟩
  obtain ⟨y, rfl⟩ : ∃ q : ByteArray, y = q.data.toList := ⟨⟨y.toArray⟩, by simp⟩
  obtain ⟨z, rfl⟩ : ∃ q : ByteArray, z = q.data.toList := ⟨⟨z.toArray⟩, by simp⟩
  simp only [mk_back, size_list] at HE1 HE2 HE3 HZ1 HZ2 HZ3 hs1 hs2 hs3 hs4 hok1 hbad hshape
  have back : ∀ a b c : ByteArray, a.data.toList = b.data.toList ++ c.data.toList → a = b ++ c := by
    intro a b c h
    rw [← mk_back a, h, ← bytes_app, mk_back]
  by_cases he : e = 0
  · subst he
    by_cases hf : f = 0
    · subst hf
      by_cases hl : A.length + B.length ≤ 1000
      · have q := hok1 rfl rfl hl
        simp only [Prod.mk.injEq] at q
        obtain ⟨q1, rfl⟩ := q
        obtain rfl := back _ _ _ q1
        by_cases hh : h = 0
        · subst hh
          by_cases hi : i = 0
          · subst hi
            have q := hshape rfl rfl
            simp only [Prod.mk.injEq] at q
            obtain ⟨q1, rfl⟩ := q
            obtain rfl := back _ _ _ q1
            exact joins_dr ao bo acap bcap A B w hna hnb hlen s t x y  HA HB HE1 HE2 HE3 HZ1 HZ2 HZ3 hs1 hs2 hs3 hs4 hl
          · have h4 : (i != 0) = true := by rw [bne_iff_ne]; exact hi
            exact joins_dq ao bo acap bcap A B w hna hnb hlen s t x y i j z HA HB HE1 HE2 HE3 HZ1 HZ2 HZ3 hs1 hs2 hs3 hs4 hl h4
        · have h4 : (h != 0) = true := by rw [bne_iff_ne]; exact hh
          exact joins_dp ao bo acap bcap A B w hna hnb hlen s t x y h i j z HA HB HE1 HE2 HE3 HZ1 HZ2 HZ3 hs1 hs2 hs3 hs4 hl h4
      · by_cases hh : h = 0
        · subst hh
          by_cases hi : i = 0
          · subst hi
            have q := hshape rfl rfl
            simp only [Prod.mk.injEq] at q
            obtain ⟨q1, rfl⟩ := q
            obtain rfl := back _ _ _ q1
            exact joins_cr ao bo acap bcap A B w hna hnb hlen s t x y g u HA HB HE1 HE2 HE3 HZ1 HZ2 HZ3 hs1 hs2 hs3 hs4 hl
          · have h4 : (i != 0) = true := by rw [bne_iff_ne]; exact hi
            exact joins_cq ao bo acap bcap A B w hna hnb hlen s t x y g i j u z HA HB HE1 HE2 HE3 HZ1 HZ2 HZ3 hs1 hs2 hs3 hs4 hl h4
        · have h4 : (h != 0) = true := by rw [bne_iff_ne]; exact hh
          exact joins_cp ao bo acap bcap A B w hna hnb hlen s t x y g h i j u z HA HB HE1 HE2 HE3 HZ1 HZ2 HZ3 hs1 hs2 hs3 hs4 hl h4
    · have h1 : (f == 0) = false := by rw [beq_eq_false_iff_ne]; exact hf
      by_cases hh : h = 0
      · subst hh
        by_cases hi : i = 0
        · subst hi
          have q := hshape rfl rfl
          simp only [Prod.mk.injEq] at q
          obtain ⟨q1, rfl⟩ := q
          obtain rfl := back _ _ _ q1
          exact joins_br ao bo acap bcap A B w hna hnb hlen s t x y f g u HA HB HE1 HE2 HE3 HZ1 HZ2 HZ3 hs1 hs2 hs3 hs4 h1
        · have h4 : (i != 0) = true := by rw [bne_iff_ne]; exact hi
          exact joins_bq ao bo acap bcap A B w hna hnb hlen s t x y f g i j u z HA HB HE1 HE2 HE3 HZ1 HZ2 HZ3 hs1 hs2 hs3 hs4 h1 h4
      · have h4 : (h != 0) = true := by rw [bne_iff_ne]; exact hh
        exact joins_bp ao bo acap bcap A B w hna hnb hlen s t x y f g h i j u z HA HB HE1 HE2 HE3 HZ1 HZ2 HZ3 hs1 hs2 hs3 hs4 h1 h4
  · have h1 : (e == 0) = false := by rw [beq_eq_false_iff_ne]; exact he
    have h2 : (e != 0) = true := by rw [bne_iff_ne]; exact he
    have h3 : (g == 0) = false := by rw [beq_eq_false_iff_ne]; exact hbad he
    by_cases hh : h = 0
    · subst hh
      by_cases hi : i = 0
      · subst hi
        have q := hshape rfl rfl
        simp only [Prod.mk.injEq] at q
        obtain ⟨q1, rfl⟩ := q
        obtain rfl := back _ _ _ q1
        exact joins_ar ao bo acap bcap A B w hna hnb hlen s t x y e f g u HA HB HE1 HE2 HE3 HZ1 HZ2 HZ3 hs1 hs2 hs3 hs4 h1 h2 h3
      · have h4 : (i != 0) = true := by rw [bne_iff_ne]; exact hi
        exact joins_aq ao bo acap bcap A B w hna hnb hlen s t x y e f g i j u z HA HB HE1 HE2 HE3 HZ1 HZ2 HZ3 hs1 hs2 hs3 hs4 h1 h2 h3 h4
    · have h4 : (h != 0) = true := by rw [bne_iff_ne]; exact hh
      exact joins_ap ao bo acap bcap A B w hna hnb hlen s t x y e f g h i j u z HA HB HE1 HE2 HE3 HZ1 HZ2 HZ3 hs1 hs2 hs3 hs4 h1 h2 h3 h4

theorem small_items {H : Type} {d0 d1 : DataW H} {n0 n1 : Nat} (hk : Rows.uptoSmall H [d0, d1] = true) (h0 : (d0 = .nil ∧ n0 = 0) ∨ ∃ el sp, d0 = .slice el sp ∧ el.length = n0) (h1 : (d1 = .nil ∧ n1 = 0) ∨ ∃ el sp, d1 = .slice el sp ∧ el.length = n1) : n0 + n1 ≤ 1048576 := by
  have h : Rows.uptoBulkAll [d0, d1] ≤ 1048576 := of_decide_eq_true hk
  simp only [Rows.uptoBulkAll] at h
  have one : ∀ d : DataW H, 1 ≤ Rows.uptoBulk d := by
    intro d
    cases d with
    | lit l => cases l <;> simp [Rows.uptoBulk]
    | nil => simp [Rows.uptoBulk]
    | ptr d => simp [Rows.uptoBulk]
    | slice elems spare => simp [Rows.uptoBulk]
    | agg parts => simp [Rows.uptoBulk]
    | iface t d => simp [Rows.uptoBulk]
    | map entries => simp [Rows.uptoBulk]
    | held h => simp [Rows.uptoBulk]
  have all : ∀ l : List (DataW H), l.length ≤ Rows.uptoBulkAll l := by
    intro l
    induction l with
    | nil => simp [Rows.uptoBulkAll]
    | cons x r ih => have := one x; simp only [Rows.uptoBulkAll, List.length_cons]; omega
  have key : ∀ (d : DataW H) (n : Nat), ((d = .nil ∧ n = 0) ∨ ∃ el sp, d = .slice el sp ∧ el.length = n) → n ≤ Rows.uptoBulk d := by
    rintro d n (⟨_, rfl⟩ | ⟨el, sp, rfl, rfl⟩)
    · omega
    · have := all el
      simp only [Rows.uptoBulk]
      omega
  have g0 := key d0 n0 h0
  have g1 := key d1 n1 h1
  omega

set_option maxRecDepth 100000 in
theorem joins_lifted (os : Os) (started : os.Started) (H : Type) (enc : TypeId × Value → H) (F : Stop.Interp) :
    ReturnsInHanded {} Try.checked os 3 .any ((Rows.OpenSpec.upto Rows.codecJoinsSpec).pre6 enc Try.prog Try.f3 Rows.codecJoinsUptoRow.domain false) (((Rows.OpenSpec.upto Rows.codecJoinsSpec).at F).post enc Try.prog Try.f3 false true false false) := by
  refine returnsInHanded_of_cond (C := Try.checked) (s := Rows.OpenSpec.upto Rows.codecJoinsSpec) (k := Rows.uptoSmall) rfl own started (by kernel_rfl) Try.func3
    (OpenSpec.witness (enc := enc) (C := Try.checked) (s := Rows.OpenSpec.upto Rows.codecJoinsSpec) (k := Rows.uptoSmall) rfl false ⟨#[], #[.slice none 0 0, .slice none 0 0], []⟩ 8 (by kernel_rfl) (by kernel_rfl) (by kernel_rfl)
      (x := ([.nil, .nil], [], [])) (by kernel_rfl) rfl (by kernel_rfl)) ?_
  intro W base args ds gs before hval0 hW _ hk _
  have hval : ∀ (j : Nat) t v, Try.f3.params[j]? = some t → args[j]? = some v → Value.okWide Try.prog W .any base t v := hval0
  have hW' := hW
  obtain ⟨p, q, hA0, hV, rfl, hfz, hnd⟩ := hW
  have hA : DataW.TrodAll enc Try.prog W 0 (fun _ => true) true Try.f3.params.toList args.toList ds p := hA0
  rw [Try.params3] at hA hval
  obtain ⟨v0, vs0, d0, ds0, p0, q0, hargs, rfl, rfl, h0, r0⟩ := trodAll_cons hA
  obtain ⟨v1, vs1, d1, ds1, p1, q1, rfl, rfl, rfl, h1, r1⟩ := trodAll_cons r0
  obtain ⟨rfl, rfl, rfl⟩ := trodAll_nil r1
  obtain rfl : args = #[v0, v1] := by cases args; simp_all
  obtain ⟨rfl, rfl⟩ := trodVars_none hV
  obtain ⟨a0, len0, cap0, rfl⟩ := okWide_slice Try.underlying22 (hval 0 22 v0 rfl rfl)
  obtain ⟨a1, len1, cap1, rfl⟩ := okWide_slice Try.underlying22 (hval 1 22 v1 rfl rfl)
  have k0 := h0
  have k1 := h1
  have lt0 : ∀ x ∈ p0, x.block < W.heap.size := by obtain ⟨m, hm⟩ := k0; exact DataW.trod_lt m _ _ _ hm
  have lt1 : ∀ x ∈ p1, x.block < W.heap.size := by obtain ⟨m, hm⟩ := k1; exact DataW.trod_lt m _ _ _ hm
  have n0 := nil_open h0
  have n1 := nil_open h1
  obtain ⟨l0, rfl, at0, ok0, dd0⟩ := items_open h0
  obtain ⟨l1, rfl, at1, ok1, dd1⟩ := items_open h1
  have hlen := small_items (by simpa using hk) dd0 dd1
  clear hA0 hval0
  refine (joins_walk a0 a1 cap0 cap1 l0 l1 W at0 at1 (fun e => ⟨(n0 e).1, List.eq_nil_of_length_eq_zero (n0 e).2⟩) (fun e => ⟨(n1 e).1, List.eq_nil_of_length_eq_zero (n1 e).2⟩) ok0 ok1 hlen).mono fun e W' ⟨he, bel⟩ => ?_
  subst he
  exact ⟨_, rfl, _, _, _, [], _, [], hW', trodAll_mk1 (shut_bool Try.underlying4 _), (trodAll_cons_mk (Below.trod laidOut (by kernel_rfl) (of_decide_eq_true (by kernel_rfl)) k0 bel lt0) (trodAll_cons_mk (Below.trod laidOut (by kernel_rfl) (of_decide_eq_true (by kernel_rfl)) k1 bel lt1) trodAll_mk0)), rfl, bel.frame _, fun h => by cases h⟩

/-- THE STATEMENT, in its second form. -/
theorem codecJoins_upto : Rows.CodecJoinsUptoSaid :=
  OpenClaim.holds_of_cond 3 Try.f3 rfl rfl rfl rfl rfl rfl rfl ⟨rfl, rfl, rfl, rfl, rfl⟩ rfl rfl rfl rfl rfl (by kernel_rfl) Try.func3 (by kernel_rfl)
    (of_decide_eq_true (by kernel_rfl)) (by unfold Func.isWrapper; first | (rw [if_pos (by decide +kernel)]; kernel_rfl) | (rw [if_neg (by decide +kernel)]; exact ⟨rfl, rfl⟩))
    (fun os started H enc _ F => joins_lifted os started H enc F)

#print axioms codecJoins_upto
end Go.Proofs.Ytnbomaalncjkeab
