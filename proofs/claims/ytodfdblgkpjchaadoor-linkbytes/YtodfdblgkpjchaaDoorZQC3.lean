/-
  The document's own Frame and Take, as they run.
-/
import Derived.Test.YtodfdblgkpjchaaDoorZQC2
namespace Go.Proofs.YtodfdblgkpjchaaDoor
open Go.RowKit

theorem size_list (s : ByteArray) : s.data.toList.length = s.size := by simp
theorem mk_list (s : ByteArray) : (⟨s.data.toList.toArray⟩ : ByteArray) = s := by obtain ⟨d⟩ := s; rfl
theorem mk_append (a b : List UInt8) : (⟨a.toArray⟩ : ByteArray) ++ ⟨b.toArray⟩ = ⟨(a ++ b).toArray⟩ := by
  apply ByteArray.ext
  simp [ByteArray.data_append]
theorem list_append (a b : ByteArray) : (a ++ b).data.toList = a.data.toList ++ b.data.toList := by simp [ByteArray.data_append]
theorem mk_size (a : List UInt8) : (⟨a.toArray⟩ : ByteArray).size = a.length := by show a.toArray.size = _; simp
theorem mk_data (a : List UInt8) : (⟨a.toArray⟩ : ByteArray).data.toList = a := by simp
theorem ext_data (s : ByteArray) (i j : Nat) : (s.extract i j).data.toList = (s.data.toList.drop i).take (j - i) := by
  rw [Lib.extract_data]

set_option maxHeartbeats 1000000 in
theorem rframe_long (body : ByteArray) (w : World) (h : 400000 < body.size) (_h63 : body.size ≤ 9223372036854775807) :
    Calls Tryd.prog 21 #[.string body] w fun e w' => e = .returned (.tuple #[.string ⟨#[]⟩, .bool false]) ∧ Below w.heap.size w w' := by
  go_enter Tryd.func21, Tryd.ntmps21
  go_wp2
  go_ret2
  exact ⟨rfl, Below.refl _ _⟩

set_option maxHeartbeats 1000000 in
theorem rframe_ok (body n4 s4 : ByteArray) (m : Nat) (w : World) (h : body.size ≤ 400000) (h4 : n4.size = 4) (hs4 : s4.size = 4)
    (HW1 : Hid (∀ w, Calls Tryd.prog 42 #[.int .u32 body.size] w fun e w' => e = .returned (.string n4) ∧ Below w.heap.size w w'))
    (HS : Hid (∀ w, Calls Tryd.prog 43 #[.string (n4 ++ body)] w fun e w' => e = .returned (.int .u32 m) ∧ w' = w))
    (HW2 : Hid (∀ w, Calls Tryd.prog 42 #[.int .u32 m] w fun e w' => e = .returned (.string s4) ∧ Below w.heap.size w w')) :
    Calls Tryd.prog 21 #[.string body] w fun e w' => e = .returned (.tuple #[.string (n4 ++ s4 ++ body), .bool true]) ∧ Below w.heap.size w w' := by
  go_enter Tryd.func21, Tryd.ntmps21
  go_wp2_with fail
  refine (HW1.out _).mono ?_
  rintro e w1 ⟨rfl, b1⟩
  have B1 := hide b1
  clear b1
  go_wp2_with fail
  refine (HS.out _).mono ?_
  rintro e w2 ⟨rfl, rfl⟩
  go_wp2_with fail
  refine (HW2.out _).mono ?_
  rintro e w3 ⟨rfl, b3⟩
  have B3 := hide (B1.out.trans (b3.mono B1.out.size))
  clear b3
  go_wp2
  go_ret2
  exact ⟨rfl, B3.out⟩


theorem frame_mk (body : ByteArray) : (⟨(lenB body.data.toList).toArray⟩ : ByteArray) ++ ⟨(sumB body.data.toList).toArray⟩ ++ body = ⟨(frameB body.data.toList).toArray⟩ := by
  conv => lhs; rw [← mk_list body]
  rw [mk_append, mk_append, List.append_assoc]
  rfl

theorem rframe_any (body : ByteArray) (w : World) (h63 : body.size ≤ 9223372036854775807) :
    Calls Tryd.prog 21 #[.string body] w fun e w' => e = .returned (.tuple #[.string ⟨(frameF body.data.toList).1.toArray⟩, .bool (decide (body.size ≤ 400000))]) ∧ Below w.heap.size w w' := by
  unfold frameF
  rw [size_list]
  by_cases h : 400000 < body.size
  · rw [if_pos h, decide_eq_false (by omega)]
    exact rframe_long body w h h63
  · rw [if_neg h, decide_eq_true (by omega), ← frame_mk]
    refine rframe_ok body _ _ (sumF (lenB body.data.toList ++ body.data.toList)) w (by omega) (by rw [mk_size, lenB_length]) (by rw [mk_size, sumB_length]) ?_ ?_ ?_
    · intro w
      have := rword_any body.size w (by omega)
      rw [← size_list] at this
      exact this
    · intro w
      have := rsum_any (⟨(lenB body.data.toList).toArray⟩ ++ body) w (by rw [ByteArray.size_append, mk_size, lenB_length]; omega)
      rw [list_append, mk_data] at this
      exact this
    · intro w
      exact rword_any _ w (sumF_lt _)

set_option maxHeartbeats 1000000 in
theorem rtake_short (s : ByteArray) (w : World) (_h63 : s.size ≤ 9223372036854775807) (h : s.size < 4) :
    Calls Tryd.prog 24 #[.string s] w fun e w' => e = .returned (.tuple #[.string ⟨#[]⟩, .int .i64 0, .int .i64 2]) ∧ Below w.heap.size w w' := by
  go_enter Tryd.func24, Tryd.ntmps24
  go_wp2
  refine bodyPost_ret (v := .tuple #[.string ⟨#[]⟩, .int .i64 0, .int .i64 2]) (by simp [results, Tryd.results24, go_sem]) rfl ⟨rfl, Below.refl _ _⟩

set_option maxHeartbeats 1000000 in
theorem rtake_long (s : ByteArray) (w : World) (_h63 : s.size ≤ 9223372036854775807) (m : Nat) (h : 4 ≤ s.size) (HV : Hid (∀ w, Calls Tryd.prog 47 #[.string (s.extract 0 4)] w fun e w' => e = .returned (.int .u32 m) ∧ ∃ n, w' = w.drewN n)) (hm : 400000 < m) :
    Calls Tryd.prog 24 #[.string s] w fun e w' => e = .returned (.tuple #[.string ⟨#[]⟩, .int .i64 0, .int .i64 3]) ∧ Below w.heap.size w w' := by
  go_enter Tryd.func24, Tryd.ntmps24
  go_wp2_with fail
  refine (HV.out _).mono ?_
  rintro e w1 ⟨rfl, hw1⟩
  have B1 : Hid (Below w.heap.size w w1) := by
    obtain ⟨n1, rfl⟩ := hw1
    exact below_drewN (Below.refl _ _) n1
  clear hw1
  go_wp2
  refine bodyPost_ret (v := .tuple #[.string ⟨#[]⟩, .int .i64 0, .int .i64 3]) (by simp [results, Tryd.results24, go_sem]) rfl ⟨rfl, B1.out⟩

set_option maxHeartbeats 1000000 in
theorem rtake_torn (s : ByteArray) (w : World) (_h63 : s.size ≤ 9223372036854775807) (m : Nat) (h : 4 ≤ s.size) (HV : Hid (∀ w, Calls Tryd.prog 47 #[.string (s.extract 0 4)] w fun e w' => e = .returned (.int .u32 m) ∧ ∃ n, w' = w.drewN n)) (hm : m ≤ 400000) (h2 : s.size < 8 + m) :
    Calls Tryd.prog 24 #[.string s] w fun e w' => e = .returned (.tuple #[.string ⟨#[]⟩, .int .i64 0, .int .i64 2]) ∧ Below w.heap.size w w' := by
  go_enter Tryd.func24, Tryd.ntmps24
  go_wp2_with fail
  refine (HV.out _).mono ?_
  rintro e w1 ⟨rfl, hw1⟩
  have B1 : Hid (Below w.heap.size w w1) := by
    obtain ⟨n1, rfl⟩ := hw1
    exact below_drewN (Below.refl _ _) n1
  clear hw1
  go_wp2
  refine bodyPost_ret (v := .tuple #[.string ⟨#[]⟩, .int .i64 0, .int .i64 2]) (by simp [results, Tryd.results24, go_sem]) rfl ⟨rfl, B1.out⟩

set_option maxHeartbeats 1000000 in
theorem rtake_sum (s : ByteArray) (w : World) (_h63 : s.size ≤ 9223372036854775807) (m q p : Nat) (HV : Hid (∀ w, Calls Tryd.prog 47 #[.string (s.extract 0 4)] w fun e w' => e = .returned (.int .u32 m) ∧ ∃ n, w' = w.drewN n)) (hm : m ≤ 400000) (h2 : 8 + m ≤ s.size)
    (HQ : Hid (∀ w, Calls Tryd.prog 47 #[.string (s.extract 4 8)] w fun e w' => e = .returned (.int .u32 q) ∧ ∃ n, w' = w.drewN n))
    (HS : Hid (∀ w, Calls Tryd.prog 43 #[.string (s.extract 0 4 ++ s.extract 8 (8 + m))] w fun e w' => e = .returned (.int .u32 p) ∧ w' = w)) (hqp : ((q : Int) != (p : Int)) = true) :
    Calls Tryd.prog 24 #[.string s] w fun e w' => e = .returned (.tuple #[.string ⟨#[]⟩, .int .i64 0, .int .i64 4]) ∧ Below w.heap.size w w' := by
  go_enter Tryd.func24, Tryd.ntmps24
  go_wp2_with fail
  refine (HV.out _).mono ?_
  rintro e w1 ⟨rfl, hw1⟩
  have B1 : Hid (Below w.heap.size w w1) := by
    obtain ⟨n1, rfl⟩ := hw1
    exact below_drewN (Below.refl _ _) n1
  clear hw1
  go_wp2_with fail
  have i4 : (4 : Int) ≤ s.size := by omega
  have i8 : (8 : Int) ≤ s.size := by omega
  have im : 8 + (m : Int) ≤ s.size := by omega
  have j8 : (8 : Int) ≤ 8 + (m : Int) := by omega
  have n8 : 8 ≤ s.size := by omega
  go_quiet ((first | (go_at_call 47; exact Calls.quiet_of (HQ.out _)) | (go_at_call 43; exact Calls.quiet_of_same (HS.out _))))
  go_wp2
  refine bodyPost_ret (v := .tuple #[.string ⟨#[]⟩, .int .i64 0, .int .i64 4]) (by simp [results, Tryd.results24, go_sem]) rfl ⟨rfl, below_drewN B1.out nq⟩

set_option maxHeartbeats 1000000 in
theorem rtake_ok (s : ByteArray) (w : World) (_h63 : s.size ≤ 9223372036854775807) (m q p : Nat) (HV : Hid (∀ w, Calls Tryd.prog 47 #[.string (s.extract 0 4)] w fun e w' => e = .returned (.int .u32 m) ∧ ∃ n, w' = w.drewN n)) (hm : m ≤ 400000) (h2 : 8 + m ≤ s.size)
    (HQ : Hid (∀ w, Calls Tryd.prog 47 #[.string (s.extract 4 8)] w fun e w' => e = .returned (.int .u32 q) ∧ ∃ n, w' = w.drewN n))
    (HS : Hid (∀ w, Calls Tryd.prog 43 #[.string (s.extract 0 4 ++ s.extract 8 (8 + m))] w fun e w' => e = .returned (.int .u32 p) ∧ w' = w)) (hqp : ((q : Int) != (p : Int)) = false) :
    Calls Tryd.prog 24 #[.string s] w fun e w' => e = .returned (.tuple #[.string (s.extract 8 (8 + m)), .int .i64 (8 + m), .int .i64 0]) ∧ Below w.heap.size w w' := by
  go_enter Tryd.func24, Tryd.ntmps24
  go_wp2_with fail
  refine (HV.out _).mono ?_
  rintro e w1 ⟨rfl, hw1⟩
  have B1 : Hid (Below w.heap.size w w1) := by
    obtain ⟨n1, rfl⟩ := hw1
    exact below_drewN (Below.refl _ _) n1
  clear hw1
  go_wp2_with fail
  have i4 : (4 : Int) ≤ s.size := by omega
  have i8 : (8 : Int) ≤ s.size := by omega
  have im : 8 + (m : Int) ≤ s.size := by omega
  have j8 : (8 : Int) ≤ 8 + (m : Int) := by omega
  have n8 : 8 ≤ s.size := by omega
  go_quiet ((first | (go_at_call 47; exact Calls.quiet_of (HQ.out _)) | (go_at_call 43; exact Calls.quiet_of_same (HS.out _))))
  go_wp2
  refine bodyPost_ret (v := .tuple #[.string (s.extract 8 (8 + m)), .int .i64 (8 + m), .int .i64 0]) (by simp [results, Tryd.results24, go_sem]) rfl ⟨rfl, below_drewN B1.out nq⟩

theorem rtake_any (s : ByteArray) (w : World) (h63 : s.size ≤ 9223372036854775807) :
    Calls Tryd.prog 24 #[.string s] w fun e w' => e = .returned (.tuple #[.string ⟨(takeF s.data.toList).1.toArray⟩, .int .i64 (takeF s.data.toList).2.1, .int .i64 (takeF s.data.toList).2.2]) ∧ Below w.heap.size w w' := by
  by_cases h : s.size < 4
  · rw [show takeF s.data.toList = ([], 0, 2) by unfold takeF; rw [if_pos (by rw [size_list]; exact h)]]
    exact rtake_short s w h63 h
  · have x4 : (s.extract 0 4).data.toList = s.data.toList.take 4 := by rw [ext_data]; simp
    have x8 : (s.extract 4 8).data.toList = (s.data.toList.drop 4).take 4 := by rw [ext_data]
    obtain ⟨m, hm⟩ : ∃ m, Lib.beNat (s.data.toList.take 4) = m := ⟨_, rfl⟩
    have HV : Hid (∀ w, Calls Tryd.prog 47 #[.string (s.extract 0 4)] w fun e w' => e = .returned (.int .u32 m) ∧ ∃ n, w' = w.drewN n) := by
      intro w
      have := rvalue_any (s.extract 0 4) w (by simp; omega)
      rw [x4, hm] at this
      exact this
    by_cases h1 : 400000 < m
    · rw [show takeF s.data.toList = ([], 0, 3) by unfold takeF; rw [if_neg (by rw [size_list]; exact h), hm, if_pos h1]]
      exact rtake_long s w h63 m (by omega) HV h1
    · by_cases h2 : s.size < 8 + m
      · rw [show takeF s.data.toList = ([], 0, 2) by unfold takeF; rw [if_neg (by rw [size_list]; exact h), hm, if_neg h1, if_pos (by rw [size_list]; exact h2)]]
        exact rtake_torn s w h63 m (by omega) HV (by omega) h2
      · have xb : (s.extract 8 (8 + m)).data.toList = (s.data.toList.drop 8).take m := by rw [ext_data]; simp
        obtain ⟨q, hq⟩ : ∃ q, Lib.beNat ((s.data.toList.drop 4).take 4) = q := ⟨_, rfl⟩
        obtain ⟨p, hp⟩ : ∃ p, sumF (s.data.toList.take 4 ++ (s.data.toList.drop 8).take m) = p := ⟨_, rfl⟩
        have HQ : Hid (∀ w, Calls Tryd.prog 47 #[.string (s.extract 4 8)] w fun e w' => e = .returned (.int .u32 q) ∧ ∃ n, w' = w.drewN n) := by
          intro w
          have := rvalue_any (s.extract 4 8) w (by simp; omega)
          rw [x8, hq] at this
          exact this
        have HS : Hid (∀ w, Calls Tryd.prog 43 #[.string (s.extract 0 4 ++ s.extract 8 (8 + m))] w fun e w' => e = .returned (.int .u32 p) ∧ w' = w) := by
          intro w
          have := rsum_any (s.extract 0 4 ++ s.extract 8 (8 + m)) w (by rw [ByteArray.size_append]; simp; omega)
          rw [list_append, x4, xb, hp] at this
          exact this
        by_cases hqp : q = p
        · rw [show takeF s.data.toList = ((s.data.toList.drop 8).take m, 8 + m, 0) by unfold takeF; rw [if_neg (by rw [size_list]; exact h), hm, if_neg h1, if_neg (by rw [size_list]; exact h2), hq, hp, if_neg (by simpa using hqp)]]
          have := rtake_ok s w h63 m q p HV (by omega) (by omega) HQ HS (by subst hqp; simp)
          rw [← mk_list (s.extract 8 (8 + m)), xb] at this
          exact this
        · rw [show takeF s.data.toList = ([], 0, 4) by unfold takeF; rw [if_neg (by rw [size_list]; exact h), hm, if_neg h1, if_neg (by rw [size_list]; exact h2), hq, hp, if_pos hqp]]
          exact rtake_sum s w h63 m q p HV (by omega) (by omega) HQ HS (by rw [bne_iff_ne]; omega)

end Go.Proofs.YtodfdblgkpjchaaDoor
