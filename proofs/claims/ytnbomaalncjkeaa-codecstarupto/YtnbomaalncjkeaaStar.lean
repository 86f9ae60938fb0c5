/-
  CodecStar: for all shapes, groups, numbers and texts that together hold at most 1048576 values and letters the law's call returns true and leaves them as they were.
-/
import Derived.Test.YtnbomaalncjkeaaW15
import Derived.Test.YtnbomaalncjkeaaPure5
import Derived.Test.YtnbomaalncjkeaaRep
import Derived.JoinedCond
namespace Go.Proofs.Ytnbomaalncjkeaa
open Go.ChangeShapes Go.WideShapes Go.ChangeAt Go.RowKit
open Go.ChangeMaps (open_string shut_string)

set_option maxHeartbeats 400000 in
theorem index2_star (s : ByteArray) (w : World) :
    Calls Try.prog 32 #[.string s, .string { data := #[42] }] w fun e w' => e = .returned (.int .i64 (starI s)) ∧ w' = w := by
  go_enter Try.func32, Try.ntmps32
  go_wp2_with (go_at_call 48; refine (index_star _ _).mono ?_; rintro e w' ⟨rfl, rfl⟩)
  go_ret
  exact ⟨rfl, rfl⟩

set_option maxHeartbeats 400000 in
theorem contains_star (s : ByteArray) (w : World) :
    Calls Try.prog 17 #[.string s, .string { data := #[42] }] w fun e w' => e = .returned (.bool (decide (0 ≤ starI s))) ∧ w' = w := by
  go_enter Try.func17, Try.ntmps17
  go_wp2_with (go_at_call 32; refine (index2_star _ _).mono ?_; rintro e w' ⟨rfl, rfl⟩)
  go_ret
  exact ⟨rfl, rfl⟩

theorem bytes_add (a b : ByteArray) : (a ++ b).data.toList = a.data.toList ++ b.data.toList := by
  simp [ByteArray.data_append]
theorem three_size (A G : ByteArray) : (A ++ ({ data := #[42] } : ByteArray) ++ G).size = A.size + 1 + G.size := by
  rw [ByteArray.size_append, ByteArray.size_append]
  rfl
theorem three_list (A G : ByteArray) : (A ++ ({ data := #[42] } : ByteArray) ++ G).data.toList = A.data.toList ++ 42 :: G.data.toList := by
  rw [bytes_add, bytes_add]
  simp

set_option maxHeartbeats 1000000 in
theorem star_nega (A G s : ByteArray) (d : Nat) (n0 : Int) (w : World)
    (HN : Hid (∀ w, Calls Try.prog 16 #[.string G, .string { data := #[] }] w fun e w' => ∃ v, e = .returned (.tuple #[v, .int .i64 n0]) ∧ Below w.heap.size w w'))
    (HT : Hid (∀ w, Calls Try.prog 17 #[.string (A ++ G), .string { data := #[42] }] w fun e w' => e = .returned (.bool true) ∧ w' = w))
    (_hA : A.size ≤ 1048576) (_hG : G.size ≤ 1048576) (_hd : d ≤ 9223372036854775807) :
    Calls Try.prog 8 #[.string A, .string G, .int .i64 (-(d : Int) - 1), .string s] w fun e w' => e = .returned (.bool true) ∧ Below w.heap.size w w' := by
  go_enter Try.func8, Try.ntmps8
  go_wp2_with fail
  refine (examples_any _).mono ?_
  rintro e w1 ⟨rfl, b1⟩
  have B1 := hide b1
  clear b1
  go_wp2_with fail
  refine (HN.out _).mono ?_
  rintro e w2 ⟨v2, rfl, b2⟩
  have B2 := hide (B1.out.trans (b2.mono B1.out.size))
  clear b2
  go_wp2_with fail
  refine (HT.out _).mono ?_
  rintro e w3 ⟨rfl, rfl⟩
  go_wp2
  go_ret
  exact ⟨rfl, B2.out⟩

set_option maxHeartbeats 1000000 in
theorem star_negb (A G s : ByteArray) (d : Nat) (n0 : Int) (w : World)
    (HN : Hid (∀ w, Calls Try.prog 16 #[.string G, .string { data := #[] }] w fun e w' => ∃ v, e = .returned (.tuple #[v, .int .i64 n0]) ∧ Below w.heap.size w w'))
    (HT : Hid (∀ w, Calls Try.prog 17 #[.string (A ++ G), .string { data := #[42] }] w fun e w' => e = .returned (.bool false) ∧ w' = w))
    (_hA : A.size ≤ 1048576) (_hG : G.size ≤ 1048576) (_hd : d ≤ 9223372036854775807) (hg : G.toList.isEmpty = true) :
    Calls Try.prog 8 #[.string A, .string G, .int .i64 (-(d : Int) - 1), .string s] w fun e w' => e = .returned (.bool true) ∧ Below w.heap.size w w' := by
  go_enter Try.func8, Try.ntmps8
  go_wp2_with fail
  refine (examples_any _).mono ?_
  rintro e w1 ⟨rfl, b1⟩
  have B1 := hide b1
  clear b1
  go_wp2_with fail
  refine (HN.out _).mono ?_
  rintro e w2 ⟨v2, rfl, b2⟩
  have B2 := hide (B1.out.trans (b2.mono B1.out.size))
  clear b2
  go_wp2_with fail
  refine (HT.out _).mono ?_
  rintro e w3 ⟨rfl, rfl⟩
  go_wp2
  go_ret
  exact ⟨rfl, B2.out⟩

set_option maxHeartbeats 1000000 in
theorem star_negc (A G s : ByteArray) (d : Nat) (n0 : Int) (w : World)
    (HN : Hid (∀ w, Calls Try.prog 16 #[.string G, .string { data := #[] }] w fun e w' => ∃ v, e = .returned (.tuple #[v, .int .i64 n0]) ∧ Below w.heap.size w w'))
    (HT : Hid (∀ w, Calls Try.prog 17 #[.string (A ++ G), .string { data := #[42] }] w fun e w' => e = .returned (.bool false) ∧ w' = w))
    (_hA : A.size ≤ 1048576) (_hG : G.size ≤ 1048576) (_hd : d ≤ 9223372036854775807) (hg : G.toList.isEmpty = false) (hn : (n0 == 1) = true) :
    Calls Try.prog 8 #[.string A, .string G, .int .i64 (-(d : Int) - 1), .string s] w fun e w' => e = .returned (.bool true) ∧ Below w.heap.size w w' := by
  go_enter Try.func8, Try.ntmps8
  go_wp2_with fail
  refine (examples_any _).mono ?_
  rintro e w1 ⟨rfl, b1⟩
  have B1 := hide b1
  clear b1
  go_wp2_with fail
  refine (HN.out _).mono ?_
  rintro e w2 ⟨v2, rfl, b2⟩
  have B2 := hide (B1.out.trans (b2.mono B1.out.size))
  clear b2
  go_wp2_with fail
  refine (HT.out _).mono ?_
  rintro e w3 ⟨rfl, rfl⟩
  go_wp2
  go_ret
  exact ⟨rfl, B2.out⟩

set_option maxHeartbeats 1000000 in
theorem star_negd (A G s : ByteArray) (d : Nat) (n0 : Int) (l : List It) (er : Int) (Rp : ByteArray) (w : World)
    (HN : Hid (∀ w, Calls Try.prog 16 #[.string G, .string { data := #[] }] w fun e w' => ∃ v, e = .returned (.tuple #[v, .int .i64 n0]) ∧ Below w.heap.size w w'))
    (HT : Hid (∀ w, Calls Try.prog 17 #[.string (A ++ G), .string { data := #[42] }] w fun e w' => e = .returned (.bool false) ∧ w' = w))
    (HR : Hid (∀ w, Calls Try.prog 18 #[.string G, .int .i64 ((d : Int) % 101)] w fun e w' => e = .returned (.string Rp) ∧ Below w.heap.size w w'))
    (HD1 : Hid (∀ w, Calls Try.prog 16 #[.string (A ++ Rp), .string s] w fun e w' => ∃ v, e = .returned (.tuple #[v, .int .i64 er]) ∧ w'.ownsRow w.heap.size 39 3 v l.length (itemCells l) ∧ Below w.heap.size w w'))
    (_hA : A.size ≤ 1048576) (_hG : G.size ≤ 1048576) (_hd : d ≤ 9223372036854775807) (hg : G.toList.isEmpty = false) (hn : (n0 == 1) = false) (he : (er != 0) = true) (_hR : Rp.size ≤ 104857600) :
    Calls Try.prog 8 #[.string A, .string G, .int .i64 (-(d : Int) - 1), .string s] w fun e w' => e = .returned (.bool true) ∧ Below w.heap.size w w' := by
  go_enter Try.func8, Try.ntmps8
  go_wp2_with fail
  refine (examples_any _).mono ?_
  rintro e w1 ⟨rfl, b1⟩
  have B1 := hide b1
  clear b1
  go_wp2_with fail
  refine (HN.out _).mono ?_
  rintro e w2 ⟨v2, rfl, b2⟩
  have B2 := hide (B1.out.trans (b2.mono B1.out.size))
  clear b2
  go_wp2_with fail
  refine (HT.out _).mono ?_
  rintro e w3 ⟨rfl, rfl⟩
  go_wp2_with fail
  refine (HR.out _).mono ?_
  rintro e w4 ⟨rfl, b4⟩
  have B4 := hide (B2.out.trans (b4.mono B2.out.size))
  clear b4
  go_wp2_with fail
  refine (HD1.out _).mono ?_
  rintro e w5 ⟨v5, rfl, hown5, b5⟩
  have B5 := hide (B4.out.trans (b5.mono B4.out.size))
  obtain ⟨co, cap, rfl, hco⟩ := items_of_own hown5
  have HO5 := hide hco
  clear b5 hown5 hco
  go_wp2
  go_ret
  exact ⟨rfl, B5.out⟩

set_option maxHeartbeats 1000000 in
theorem star_nege (A G s : ByteArray) (d : Nat) (n0 : Int) (l : List It) (Rp : ByteArray) (w : World)
    (HN : Hid (∀ w, Calls Try.prog 16 #[.string G, .string { data := #[] }] w fun e w' => ∃ v, e = .returned (.tuple #[v, .int .i64 n0]) ∧ Below w.heap.size w w'))
    (HT : Hid (∀ w, Calls Try.prog 17 #[.string (A ++ G), .string { data := #[42] }] w fun e w' => e = .returned (.bool false) ∧ w' = w))
    (HR : Hid (∀ w, Calls Try.prog 18 #[.string G, .int .i64 ((d : Int) % 101)] w fun e w' => e = .returned (.string Rp) ∧ Below w.heap.size w w'))
    (HD1 : Hid (∀ w, Calls Try.prog 16 #[.string (A ++ Rp), .string s] w fun e w' => ∃ v, e = .returned (.tuple #[v, .int .i64 0]) ∧ w'.ownsRow w.heap.size 39 3 v l.length (itemCells l) ∧ Below w.heap.size w w'))
    (HD2 : Hid (∀ w, Calls Try.prog 16 #[.string (A ++ { data := #[42] } ++ G), .string s] w fun e w' => ∃ v, e = .returned (.tuple #[v, .int .i64 0]) ∧ w'.ownsRow w.heap.size 39 3 v l.length (itemCells l) ∧ Below w.heap.size w w'))
    (HM : Hid (∀ co dap ao cap w, ItemsAt w co l → ItemsAt w ao l → Calls Try.prog 14 #[.slice co l.length dap, .slice ao l.length cap] w fun e w' => e = .returned (.bool true) ∧ ∃ n, w' = w.drewN n))
    (_hA : A.size ≤ 1048576) (_hG : G.size ≤ 1048576) (_hd : d ≤ 9223372036854775807) (hg : G.toList.isEmpty = false) (hn : (n0 == 1) = false) (_hR : Rp.size ≤ 104857600) :
    Calls Try.prog 8 #[.string A, .string G, .int .i64 (-(d : Int) - 1), .string s] w fun e w' => e = .returned (.bool true) ∧ Below w.heap.size w w' := by
  go_enter Try.func8, Try.ntmps8
  go_wp2_with fail
  refine (examples_any _).mono ?_
  rintro e w1 ⟨rfl, b1⟩
  have B1 := hide b1
  clear b1
  go_wp2_with fail
  refine (HN.out _).mono ?_
  rintro e w2 ⟨v2, rfl, b2⟩
  have B2 := hide (B1.out.trans (b2.mono B1.out.size))
  clear b2
  go_wp2_with fail
  refine (HT.out _).mono ?_
  rintro e w3 ⟨rfl, rfl⟩
  go_wp2_with fail
  refine (HR.out _).mono ?_
  rintro e w4 ⟨rfl, b4⟩
  have B4 := hide (B2.out.trans (b4.mono B2.out.size))
  clear b4
  go_wp2_with fail
  refine (HD1.out _).mono ?_
  rintro e w5 ⟨v5, rfl, hown5, b5⟩
  have B5 := hide (B4.out.trans (b5.mono B4.out.size))
  obtain ⟨co, cap, rfl, hco⟩ := items_of_own hown5
  have HO5 := hide hco
  clear b5 hown5 hco
  go_wp2_with fail
  refine (HD2.out _).mono ?_
  rintro e w6 ⟨v6, rfl, hown6, b6⟩
  have B6 := hide (B5.out.trans (b6.mono B5.out.size))
  have HO6 := hide (HO5.out.below b6)
  obtain ⟨bo, bcap, rfl, hbo⟩ := items_of_own hown6
  have HP6 := hide hbo
  clear b6 hown6 hbo HO5
  go_wp2_with fail
  refine (HM.out bo bcap co cap _ HP6.out HO6.out).mono ?_
  rintro e w7 ⟨rfl, nq, rfl⟩
  go_wp2
  go_ret
  exact ⟨rfl, below_drewN B6.out nq⟩

set_option maxHeartbeats 1000000 in
theorem star_posa (A G s : ByteArray) (d : Nat) (n0 : Int) (w : World)
    (HN : Hid (∀ w, Calls Try.prog 16 #[.string G, .string { data := #[] }] w fun e w' => ∃ v, e = .returned (.tuple #[v, .int .i64 n0]) ∧ Below w.heap.size w w'))
    (HT : Hid (∀ w, Calls Try.prog 17 #[.string (A ++ G), .string { data := #[42] }] w fun e w' => e = .returned (.bool true) ∧ w' = w))
    (_hA : A.size ≤ 1048576) (_hG : G.size ≤ 1048576) (_hd : d ≤ 9223372036854775807) :
    Calls Try.prog 8 #[.string A, .string G, .int .i64 ((d : Int)), .string s] w fun e w' => e = .returned (.bool true) ∧ Below w.heap.size w w' := by
  go_enter Try.func8, Try.ntmps8
  go_wp2_with fail
  refine (examples_any _).mono ?_
  rintro e w1 ⟨rfl, b1⟩
  have B1 := hide b1
  clear b1
  go_wp2_with fail
  refine (HN.out _).mono ?_
  rintro e w2 ⟨v2, rfl, b2⟩
  have B2 := hide (B1.out.trans (b2.mono B1.out.size))
  clear b2
  go_wp2_with fail
  refine (HT.out _).mono ?_
  rintro e w3 ⟨rfl, rfl⟩
  go_wp2
  go_ret
  exact ⟨rfl, B2.out⟩

set_option maxHeartbeats 1000000 in
theorem star_posb (A G s : ByteArray) (d : Nat) (n0 : Int) (w : World)
    (HN : Hid (∀ w, Calls Try.prog 16 #[.string G, .string { data := #[] }] w fun e w' => ∃ v, e = .returned (.tuple #[v, .int .i64 n0]) ∧ Below w.heap.size w w'))
    (HT : Hid (∀ w, Calls Try.prog 17 #[.string (A ++ G), .string { data := #[42] }] w fun e w' => e = .returned (.bool false) ∧ w' = w))
    (_hA : A.size ≤ 1048576) (_hG : G.size ≤ 1048576) (_hd : d ≤ 9223372036854775807) (hg : G.toList.isEmpty = true) :
    Calls Try.prog 8 #[.string A, .string G, .int .i64 ((d : Int)), .string s] w fun e w' => e = .returned (.bool true) ∧ Below w.heap.size w w' := by
  go_enter Try.func8, Try.ntmps8
  go_wp2_with fail
  refine (examples_any _).mono ?_
  rintro e w1 ⟨rfl, b1⟩
  have B1 := hide b1
  clear b1
  go_wp2_with fail
  refine (HN.out _).mono ?_
  rintro e w2 ⟨v2, rfl, b2⟩
  have B2 := hide (B1.out.trans (b2.mono B1.out.size))
  clear b2
  go_wp2_with fail
  refine (HT.out _).mono ?_
  rintro e w3 ⟨rfl, rfl⟩
  go_wp2
  go_ret
  exact ⟨rfl, B2.out⟩

set_option maxHeartbeats 1000000 in
theorem star_posc (A G s : ByteArray) (d : Nat) (n0 : Int) (w : World)
    (HN : Hid (∀ w, Calls Try.prog 16 #[.string G, .string { data := #[] }] w fun e w' => ∃ v, e = .returned (.tuple #[v, .int .i64 n0]) ∧ Below w.heap.size w w'))
    (HT : Hid (∀ w, Calls Try.prog 17 #[.string (A ++ G), .string { data := #[42] }] w fun e w' => e = .returned (.bool false) ∧ w' = w))
    (_hA : A.size ≤ 1048576) (_hG : G.size ≤ 1048576) (_hd : d ≤ 9223372036854775807) (hg : G.toList.isEmpty = false) (hn : (n0 == 1) = true) :
    Calls Try.prog 8 #[.string A, .string G, .int .i64 ((d : Int)), .string s] w fun e w' => e = .returned (.bool true) ∧ Below w.heap.size w w' := by
  go_enter Try.func8, Try.ntmps8
  go_wp2_with fail
  refine (examples_any _).mono ?_
  rintro e w1 ⟨rfl, b1⟩
  have B1 := hide b1
  clear b1
  go_wp2_with fail
  refine (HN.out _).mono ?_
  rintro e w2 ⟨v2, rfl, b2⟩
  have B2 := hide (B1.out.trans (b2.mono B1.out.size))
  clear b2
  go_wp2_with fail
  refine (HT.out _).mono ?_
  rintro e w3 ⟨rfl, rfl⟩
  go_wp2
  go_ret
  exact ⟨rfl, B2.out⟩

set_option maxHeartbeats 1000000 in
theorem star_posd (A G s : ByteArray) (d : Nat) (n0 : Int) (l : List It) (er : Int) (Rp : ByteArray) (w : World)
    (HN : Hid (∀ w, Calls Try.prog 16 #[.string G, .string { data := #[] }] w fun e w' => ∃ v, e = .returned (.tuple #[v, .int .i64 n0]) ∧ Below w.heap.size w w'))
    (HT : Hid (∀ w, Calls Try.prog 17 #[.string (A ++ G), .string { data := #[42] }] w fun e w' => e = .returned (.bool false) ∧ w' = w))
    (HR : Hid (∀ w, Calls Try.prog 18 #[.string G, .int .i64 ((d : Int) % 101)] w fun e w' => e = .returned (.string Rp) ∧ Below w.heap.size w w'))
    (HD1 : Hid (∀ w, Calls Try.prog 16 #[.string (A ++ Rp), .string s] w fun e w' => ∃ v, e = .returned (.tuple #[v, .int .i64 er]) ∧ w'.ownsRow w.heap.size 39 3 v l.length (itemCells l) ∧ Below w.heap.size w w'))
    (_hA : A.size ≤ 1048576) (_hG : G.size ≤ 1048576) (_hd : d ≤ 9223372036854775807) (hg : G.toList.isEmpty = false) (hn : (n0 == 1) = false) (he : (er != 0) = true) (_hR : Rp.size ≤ 104857600) :
    Calls Try.prog 8 #[.string A, .string G, .int .i64 ((d : Int)), .string s] w fun e w' => e = .returned (.bool true) ∧ Below w.heap.size w w' := by
  go_enter Try.func8, Try.ntmps8
  go_wp2_with fail
  refine (examples_any _).mono ?_
  rintro e w1 ⟨rfl, b1⟩
  have B1 := hide b1
  clear b1
  go_wp2_with fail
  refine (HN.out _).mono ?_
  rintro e w2 ⟨v2, rfl, b2⟩
  have B2 := hide (B1.out.trans (b2.mono B1.out.size))
  clear b2
  go_wp2_with fail
  refine (HT.out _).mono ?_
  rintro e w3 ⟨rfl, rfl⟩
  go_wp2_with fail
  refine (HR.out _).mono ?_
  rintro e w4 ⟨rfl, b4⟩
  have B4 := hide (B2.out.trans (b4.mono B2.out.size))
  clear b4
  go_wp2_with fail
  refine (HD1.out _).mono ?_
  rintro e w5 ⟨v5, rfl, hown5, b5⟩
  have B5 := hide (B4.out.trans (b5.mono B4.out.size))
  obtain ⟨co, cap, rfl, hco⟩ := items_of_own hown5
  have HO5 := hide hco
  clear b5 hown5 hco
  go_wp2
  go_ret
  exact ⟨rfl, B5.out⟩

set_option maxHeartbeats 1000000 in
theorem star_pose (A G s : ByteArray) (d : Nat) (n0 : Int) (l : List It) (Rp : ByteArray) (w : World)
    (HN : Hid (∀ w, Calls Try.prog 16 #[.string G, .string { data := #[] }] w fun e w' => ∃ v, e = .returned (.tuple #[v, .int .i64 n0]) ∧ Below w.heap.size w w'))
    (HT : Hid (∀ w, Calls Try.prog 17 #[.string (A ++ G), .string { data := #[42] }] w fun e w' => e = .returned (.bool false) ∧ w' = w))
    (HR : Hid (∀ w, Calls Try.prog 18 #[.string G, .int .i64 ((d : Int) % 101)] w fun e w' => e = .returned (.string Rp) ∧ Below w.heap.size w w'))
    (HD1 : Hid (∀ w, Calls Try.prog 16 #[.string (A ++ Rp), .string s] w fun e w' => ∃ v, e = .returned (.tuple #[v, .int .i64 0]) ∧ w'.ownsRow w.heap.size 39 3 v l.length (itemCells l) ∧ Below w.heap.size w w'))
    (HD2 : Hid (∀ w, Calls Try.prog 16 #[.string (A ++ { data := #[42] } ++ G), .string s] w fun e w' => ∃ v, e = .returned (.tuple #[v, .int .i64 0]) ∧ w'.ownsRow w.heap.size 39 3 v l.length (itemCells l) ∧ Below w.heap.size w w'))
    (HM : Hid (∀ co dap ao cap w, ItemsAt w co l → ItemsAt w ao l → Calls Try.prog 14 #[.slice co l.length dap, .slice ao l.length cap] w fun e w' => e = .returned (.bool true) ∧ ∃ n, w' = w.drewN n))
    (_hA : A.size ≤ 1048576) (_hG : G.size ≤ 1048576) (_hd : d ≤ 9223372036854775807) (hg : G.toList.isEmpty = false) (hn : (n0 == 1) = false) (_hR : Rp.size ≤ 104857600) :
    Calls Try.prog 8 #[.string A, .string G, .int .i64 ((d : Int)), .string s] w fun e w' => e = .returned (.bool true) ∧ Below w.heap.size w w' := by
  go_enter Try.func8, Try.ntmps8
  go_wp2_with fail
  refine (examples_any _).mono ?_
  rintro e w1 ⟨rfl, b1⟩
  have B1 := hide b1
  clear b1
  go_wp2_with fail
  refine (HN.out _).mono ?_
  rintro e w2 ⟨v2, rfl, b2⟩
  have B2 := hide (B1.out.trans (b2.mono B1.out.size))
  clear b2
  go_wp2_with fail
  refine (HT.out _).mono ?_
  rintro e w3 ⟨rfl, rfl⟩
  go_wp2_with fail
  refine (HR.out _).mono ?_
  rintro e w4 ⟨rfl, b4⟩
  have B4 := hide (B2.out.trans (b4.mono B2.out.size))
  clear b4
  go_wp2_with fail
  refine (HD1.out _).mono ?_
  rintro e w5 ⟨v5, rfl, hown5, b5⟩
  have B5 := hide (B4.out.trans (b5.mono B4.out.size))
  obtain ⟨co, cap, rfl, hco⟩ := items_of_own hown5
  have HO5 := hide hco
  clear b5 hown5 hco
  go_wp2_with fail
  refine (HD2.out _).mono ?_
  rintro e w6 ⟨v6, rfl, hown6, b6⟩
  have B6 := hide (B5.out.trans (b6.mono B5.out.size))
  have HO6 := hide (HO5.out.below b6)
  obtain ⟨bo, bcap, rfl, hbo⟩ := items_of_own hown6
  have HP6 := hide hbo
  clear b6 hown6 hbo HO5
  go_wp2_with fail
  refine (HM.out bo bcap co cap _ HP6.out HO6.out).mono ?_
  rintro e w7 ⟨rfl, nq, rfl⟩
  go_wp2
  go_ret
  exact ⟨rfl, below_drewN B6.out nq⟩

set_option maxHeartbeats 800000 in
theorem star_walk (A G s : ByteArray) (c : Int) (w : World) (hA : A.size ≤ 1048576) (hG : G.size ≤ 1048576) (hs : s.size ≤ 1048576) (c0 : -9223372036854775808 ≤ c) (c1 : c ≤ 9223372036854775807) :
    Calls Try.prog 8 #[.string A, .string G, .int .i64 c, .string s] w fun e w' => e = .returned (.bool true) ∧ Below w.heap.size w w' := by
  have HN : ∀ w, Calls Try.prog 16 #[.string G, .string { data := #[] }] w fun e w' => ∃ v, e = .returned (.tuple #[v, .int .i64 (decF G.data.toList []).2]) ∧ Below w.heap.size w w' := by
    intro w
    refine (decode_any G { data := #[] } w (by unfold maxLen; omega) (by decide) _ rfl).mono ?_
    rintro e w' ⟨v, rfl, _, b⟩
    exact ⟨v, rfl, b⟩
  have HT := fun w => contains_star (A ++ G) w
  obtain ⟨d, hd, hc⟩ : ∃ d : Nat, d ≤ 9223372036854775807 ∧ (c = -(d : Int) - 1 ∨ c = (d : Int)) := by
    by_cases hneg : c < 0
    · exact ⟨(-(c + 1)).toNat, by omega, Or.inl (by omega)⟩
    · exact ⟨c.toNat, by omega, Or.inr (by omega)⟩
  by_cases hst : 0 ≤ starI (A ++ G)
  · have e : decide (0 ≤ starI (A ++ G)) = true := by simpa using hst
    rw [e] at HT
    rcases hc with rfl | rfl
    · exact star_nega A G s d _ w HN HT hA hG hd
    · exact star_posa A G s d _ w HN HT hA hG hd
  · have e : decide (0 ≤ starI (A ++ G)) = false := by simpa using hst
    rw [e] at HT
    have hstar := indexByte_neg (A ++ G).data.toList 42 (by unfold starI at hst; omega)
    rw [bytes_add] at hstar
    cases hg : G.toList.isEmpty with
    | true =>
      rcases hc with rfl | rfl
      · exact star_negb A G s d _ w HN HT hA hG hd hg
      · exact star_posb A G s d _ w HN HT hA hG hd hg
    | false =>
      have hne : G.data.toList ≠ [] := by
        intro e
        rw [Lib.toList_data, e] at hg
        cases hg
      by_cases hno : (decF G.data.toList []).2 = 1
      · have hn : ((decF G.data.toList []).2 == 1) = true := by rw [beq_iff_eq]; exact hno
        rcases hc with rfl | rfl
        · exact star_negc A G s d _ w HN HT hA hG hd hg hn
        · exact star_posc A G s d _ w HN HT hA hG hd hg hn
      · have hn : ((decF G.data.toList []).2 == 1) = false := by rw [beq_eq_false_iff_ne]; exact hno
        have hk : d % 101 ≤ 100 := by omega
        have hmul : G.size * (d % 101) ≤ 104857600 := Nat.le_trans (Nat.mul_le_mul hG hk) (by omega)
        have hRs : (⟨(Lib.repeatL G.data.toList (d % 101)).toArray⟩ : ByteArray).size ≤ 104857600 := by
          show (Lib.repeatL G.data.toList (d % 101)).toArray.size ≤ 104857600
          rw [List.size_toArray, Lib.repeatL_length, size_list, Nat.mul_comm]
          exact hmul
        have HR : ∀ w, Calls Try.prog 18 #[.string G, .int .i64 ((d : Int) % 101)] w fun e w' => e = .returned (.string ⟨(Lib.repeatL G.data.toList (d % 101)).toArray⟩) ∧ Below w.heap.size w w' := by
          intro w
          have h := Try.strings_Repeat G (d % 101) w (by omega) (by omega)
          have e : ((d % 101 : Nat) : Int) = (d : Int) % 101 := by omega
          rw [e] at h
          exact h
        have hRl : (⟨(Lib.repeatL G.data.toList (d % 101)).toArray⟩ : ByteArray).data.toList = Lib.repeatL G.data.toList (d % 101) := by simp
        have hsp := star_pure A.data.toList G.data.toList s.data.toList (d % 101) (fun x hx => hstar x (List.mem_append_left _ hx)) (fun x hx => hstar x (List.mem_append_right _ hx)) hne hno
        rw [← hRl, ← bytes_add] at hsp
        generalize (⟨(Lib.repeatL G.data.toList (d % 101)).toArray⟩ : ByteArray) = Rp at *
        have hsm : s.size ≤ maxLen := by unfold maxLen; omega
        have hsz1 : (A ++ Rp).size ≤ maxLen := by rw [ByteArray.size_append]; unfold maxLen; omega
        have hsz3 : (A ++ ({ data := #[42] } : ByteArray) ++ G).size ≤ maxLen := by rw [three_size]; unfold maxLen; omega
        obtain ⟨R, hRR⟩ : ∃ R, decF (A ++ Rp).data.toList s.data.toList = R := ⟨_, rfl⟩
        have HD1 := fun w => decode_any (A ++ Rp) s w hsz1 hsm R hRR
        have hok := again_pure (A ++ Rp).data.toList s.data.toList
        rw [hRR] at hsp hok
        rw [← three_list] at hsp
        obtain ⟨l, er⟩ := R
        by_cases he : er = 0
        · subst he
          have HD2 := fun w => decode_any (A ++ ({ data := #[42] } : ByteArray) ++ G) s w hsz3 hsm (l, 0) (hsp rfl)
          have hl := (hok rfl).2.2
          have HM := fun co dap ao cap w h1 h2 => same_any co ao dap cap l w h1 h2 (by unfold maxLen; simp only at hl; omega)
          rcases hc with rfl | rfl
          · exact star_nege A G s d _ l Rp w HN HT HR HD1 HD2 HM hA hG hd hg hn hRs
          · exact star_pose A G s d _ l Rp w HN HT HR HD1 HD2 HM hA hG hd hg hn hRs
        · have he2 : (er != 0) = true := by rw [bne_iff_ne]; exact he
          rcases hc with rfl | rfl
          · exact star_negd A G s d _ l er Rp w HN HT HR HD1 hA hG hd hg hn he2 hRs
          · exact star_posd A G s d _ l er Rp w HN HT HR HD1 hA hG hd hg hn he2 hRs

theorem small_strings {H : Type} {a b s : List UInt8} {d : DataW H} (hk : Rows.uptoSmall H [.lit (.string a), .lit (.string b), d, .lit (.string s)] = true) : a.length ≤ 1048576 ∧ b.length ≤ 1048576 ∧ s.length ≤ 1048576 := by
  have h : Rows.uptoBulkAll [DataW.lit (H := H) (.string a), .lit (.string b), d, .lit (.string s)] ≤ 1048576 := of_decide_eq_true hk
  simp only [Rows.uptoBulkAll, Rows.uptoBulk] at h
  omega

set_option maxRecDepth 100000 in
theorem star_lifted (os : Os) (started : os.Started) (H : Type) (enc : TypeId × Value → H) (F : Stop.Interp) :
    ReturnsInHanded {} Try.checked os 8 .any ((Rows.OpenSpec.upto Rows.codecStarSpec).pre6 enc Try.prog Try.f8 Rows.codecStarUptoRow.domain false) (((Rows.OpenSpec.upto Rows.codecStarSpec).at F).post enc Try.prog Try.f8 false true false false) := by
  refine returnsInHanded_of_cond (C := Try.checked) (s := Rows.OpenSpec.upto Rows.codecStarSpec) (k := Rows.uptoSmall) rfl own started (by kernel_rfl) Try.func8
    (OpenSpec.witness (enc := enc) (C := Try.checked) (s := Rows.OpenSpec.upto Rows.codecStarSpec) (k := Rows.uptoSmall) rfl false ⟨#[], #[.string .empty, .string .empty, .int .i64 0, .string .empty], []⟩ 8 (by kernel_rfl) (by kernel_rfl) (by kernel_rfl)
      (x := ([.lit (.string []), .lit (.string []), .lit (.int .i64 0), .lit (.string [])], [], [])) (by kernel_rfl) rfl (by kernel_rfl)) ?_
  intro W base args ds gs before hval0 hW _ hk _
  have hval : ∀ (j : Nat) t v, Try.f8.params[j]? = some t → args[j]? = some v → Value.okWide Try.prog W .any base t v := hval0
  have hW' := hW
  obtain ⟨p, q, hA0, hV, rfl, hfz, hnd⟩ := hW
  have hA : DataW.TrodAll enc Try.prog W 0 (fun _ => true) true Try.f8.params.toList args.toList ds p := hA0
  rw [Try.params8] at hA hval
  obtain ⟨v0, vs0, d0, ds0, p0, q0, hargs, rfl, rfl, h0, r0⟩ := trodAll_cons hA
  obtain ⟨v1, vs1, d1, ds1, p1, q1, rfl, rfl, rfl, h1, r1⟩ := trodAll_cons r0
  obtain ⟨v2, vs2, d2, ds2, p2, q2, rfl, rfl, rfl, h2, r2⟩ := trodAll_cons r1
  obtain ⟨v3, vs3, d3, ds3, p3, q3, rfl, rfl, rfl, h3, r3⟩ := trodAll_cons r2
  obtain ⟨rfl, rfl, rfl⟩ := trodAll_nil r3
  obtain rfl : args = #[v0, v1, v2, v3] := by cases args; simp_all
  obtain ⟨rfl, rfl⟩ := trodVars_none hV
  obtain ⟨a0, rfl, rfl, rfl, w0⟩ := open_string Try.underlying9 (hval 0 9 v0 rfl rfl) h0
  obtain ⟨a1, rfl, rfl, rfl, w1⟩ := open_string Try.underlying9 (hval 1 9 v1 rfl rfl) h1
  obtain ⟨a2, rfl, rfl, rfl, w2⟩ := open_int Try.underlying3 (hval 2 3 v2 rfl rfl) h2
  obtain ⟨a3, rfl, rfl, rfl, w3⟩ := open_string Try.underlying9 (hval 3 9 v3 rfl rfl) h3
  have hsm := small_strings (a := a0.data.toList) (b := a1.data.toList) (s := a3.data.toList) (by simpa using hk)
  simp only [size_list] at hsm
  have b2 := bounds_i64 w2
  clear hA0 hval0
  refine (star_walk a0 a1 a3 a2 W hsm.1 hsm.2.1 hsm.2.2 (by omega) (by omega)).mono fun e W' ⟨he, bel⟩ => ?_
  subst he
  exact ⟨_, rfl, _, _, _, [], _, [], hW', trodAll_mk1 (shut_bool Try.underlying4 _), (trodAll_cons_mk (shut_string Try.underlying9 w0) (trodAll_cons_mk (shut_string Try.underlying9 w1) (trodAll_cons_mk (shut_int Try.underlying3 w2) (trodAll_cons_mk (shut_string Try.underlying9 w3) trodAll_mk0)))), rfl, bel.frame _, fun h => by cases h⟩

/-- THE STATEMENT, in its second form. -/
theorem codecStar_upto : Rows.CodecStarUptoSaid :=
  OpenClaim.holds_of_cond 8 Try.f8 rfl rfl rfl rfl rfl rfl rfl ⟨rfl, rfl, rfl, rfl, rfl⟩ rfl rfl rfl rfl rfl (by kernel_rfl) Try.func8 (by kernel_rfl)
    (of_decide_eq_true (by kernel_rfl)) (by unfold Func.isWrapper; first | (rw [if_pos (by decide +kernel)]; kernel_rfl) | (rw [if_neg (by decide +kernel)]; exact ⟨rfl, rfl⟩))
    (fun os started H enc _ F => star_lifted os started H enc F)

#print axioms codecStar_upto
end Go.Proofs.Ytnbomaalncjkeaa
