/-
  The program's Take, as it runs.
-/
import Derived.Test.YtodfdblgkpjchaaDoorZQD2
namespace Go.Proofs.YtodfdblgkpjchaaDoor
open Go.RowKit

set_option maxHeartbeats 1000000 in
theorem take_short (s : ByteArray) (w : World) (_h63 : s.size ≤ 9223372036854775807) (h : s.size < 4) :
    Calls Tryd.prog 22 #[.string s] w fun e w' => e = .returned (.tuple #[.string ⟨#[]⟩, .int .i64 0, .int .i64 2]) ∧ Below w.heap.size w w' := by
  go_enter Tryd.func22, Tryd.ntmps22
  go_wp2
  refine bodyPost_ret (v := .tuple #[.string ⟨#[]⟩, .int .i64 0, .int .i64 2]) (by simp [results, Tryd.results22, go_sem]) rfl ⟨rfl, Below.refl _ _⟩

set_option maxHeartbeats 1000000 in
theorem take_long (s : ByteArray) (w : World) (_h63 : s.size ≤ 9223372036854775807) (m : Nat) (h : 4 ≤ s.size) (HV : Hid (∀ w, Calls Tryd.prog 44 #[.string s] w fun e w' => e = .returned (.int .u32 m) ∧ ∃ n, w' = w.drewN n)) (hm : 400000 < m) :
    Calls Tryd.prog 22 #[.string s] w fun e w' => e = .returned (.tuple #[.string ⟨#[]⟩, .int .i64 0, .int .i64 3]) ∧ Below w.heap.size w w' := by
  go_enter Tryd.func22, Tryd.ntmps22
  go_wp2_with fail
  refine (HV.out _).mono ?_
  rintro e w1 ⟨rfl, hw1⟩
  have B1 : Hid (Below w.heap.size w w1) := by
    obtain ⟨n1, rfl⟩ := hw1
    exact below_drewN (Below.refl _ _) n1
  clear hw1
  go_wp2
  refine bodyPost_ret (v := .tuple #[.string ⟨#[]⟩, .int .i64 0, .int .i64 3]) (by simp [results, Tryd.results22, go_sem]) rfl ⟨rfl, B1.out⟩

set_option maxHeartbeats 1000000 in
theorem ptake_torn (s : ByteArray) (w : World) (_h63 : s.size ≤ 9223372036854775807) (m : Nat) (h : 4 ≤ s.size) (HV : Hid (∀ w, Calls Tryd.prog 44 #[.string s] w fun e w' => e = .returned (.int .u32 m) ∧ ∃ n, w' = w.drewN n)) (hm : m ≤ 400000) (h2 : s.size < 8 + m) :
    Calls Tryd.prog 22 #[.string s] w fun e w' => e = .returned (.tuple #[.string ⟨#[]⟩, .int .i64 0, .int .i64 2]) ∧ Below w.heap.size w w' := by
  go_enter Tryd.func22, Tryd.ntmps22
  go_wp2_with fail
  refine (HV.out _).mono ?_
  rintro e w1 ⟨rfl, hw1⟩
  have B1 : Hid (Below w.heap.size w w1) := by
    obtain ⟨n1, rfl⟩ := hw1
    exact below_drewN (Below.refl _ _) n1
  clear hw1
  go_wp2
  refine bodyPost_ret (v := .tuple #[.string ⟨#[]⟩, .int .i64 0, .int .i64 2]) (by simp [results, Tryd.results22, go_sem]) rfl ⟨rfl, B1.out⟩

set_option maxHeartbeats 1000000 in
theorem ptake_sum (s : ByteArray) (w : World) (hT : Tab w) (_h63 : s.size ≤ 9223372036854775807) (m q p : Nat) (HV : Hid (∀ w, Calls Tryd.prog 44 #[.string s] w fun e w' => e = .returned (.int .u32 m) ∧ ∃ n, w' = w.drewN n)) (hm : m ≤ 400000) (h2 : 8 + m ≤ s.size)
    (HQ : Hid (∀ w, Calls Tryd.prog 44 #[.string (s.extract 4 s.size)] w fun e w' => e = .returned (.int .u32 q) ∧ ∃ n, w' = w.drewN n))
    (HS : Hid (∀ w, Tab w → Calls Tryd.prog 40 #[.string (s.extract 0 4), .string (s.extract 8 (8 + m))] w fun e w' => e = .returned (.int .u32 p) ∧ w' = w)) (hqp : ((p : Int) != (q : Int)) = true) :
    Calls Tryd.prog 22 #[.string s] w fun e w' => e = .returned (.tuple #[.string ⟨#[]⟩, .int .i64 0, .int .i64 4]) ∧ Below w.heap.size w w' := by
  have HT := hide hT
  clear hT
  go_enter Tryd.func22, Tryd.ntmps22
  go_wp2_with fail
  refine (HV.out _).mono ?_
  rintro e w1 ⟨rfl, hw1⟩
  have B1 : Hid (Below w.heap.size w w1) := by
    obtain ⟨n1, rfl⟩ := hw1
    exact below_drewN (Below.refl _ _) n1
  have HT1 := hide (HT.out.below B1.out)
  clear hw1
  have i4 : (4 : Int) ≤ s.size := by omega
  have i8 : (8 : Int) ≤ s.size := by omega
  have im : 8 + (m : Int) ≤ s.size := by omega
  have j8 : (8 : Int) ≤ 8 + (m : Int) := by omega
  have n8 : 8 ≤ s.size := by omega
  go_wp2_with fail
  go_quiet ((first | (go_at_call 44; exact Calls.quiet_of (HQ.out _)) | (go_at_call 40; exact Calls.quiet_of_same (HS.out _ HT1.out))))
  go_wp2
  refine bodyPost_ret (v := .tuple #[.string ⟨#[]⟩, .int .i64 0, .int .i64 4]) (by simp [results, Tryd.results22, go_sem]) rfl ⟨rfl, below_drewN B1.out nq⟩

set_option maxHeartbeats 1000000 in
theorem ptake_ok (s : ByteArray) (w : World) (hT : Tab w) (_h63 : s.size ≤ 9223372036854775807) (m q p : Nat) (HV : Hid (∀ w, Calls Tryd.prog 44 #[.string s] w fun e w' => e = .returned (.int .u32 m) ∧ ∃ n, w' = w.drewN n)) (hm : m ≤ 400000) (h2 : 8 + m ≤ s.size)
    (HQ : Hid (∀ w, Calls Tryd.prog 44 #[.string (s.extract 4 s.size)] w fun e w' => e = .returned (.int .u32 q) ∧ ∃ n, w' = w.drewN n))
    (HS : Hid (∀ w, Tab w → Calls Tryd.prog 40 #[.string (s.extract 0 4), .string (s.extract 8 (8 + m))] w fun e w' => e = .returned (.int .u32 p) ∧ w' = w)) (hqp : ((p : Int) != (q : Int)) = false) :
    Calls Tryd.prog 22 #[.string s] w fun e w' => e = .returned (.tuple #[.string (s.extract 8 (8 + m)), .int .i64 (8 + m), .int .i64 0]) ∧ Below w.heap.size w w' := by
  have HT := hide hT
  clear hT
  have HC : Hid (∀ w, Calls Tryd.prog 45 #[.string (s.extract 8 (8 + m))] w fun e w' => e = .returned (.string (s.extract 8 (8 + m))) ∧ Below w.heap.size w w') := fun w => clone_any _ w (by simp; omega)
  go_enter Tryd.func22, Tryd.ntmps22
  go_wp2_with fail
  refine (HV.out _).mono ?_
  rintro e w1 ⟨rfl, hw1⟩
  have B1 : Hid (Below w.heap.size w w1) := by
    obtain ⟨n1, rfl⟩ := hw1
    exact below_drewN (Below.refl _ _) n1
  have HT1 := hide (HT.out.below B1.out)
  clear hw1
  have i4 : (4 : Int) ≤ s.size := by omega
  have i8 : (8 : Int) ≤ s.size := by omega
  have im : 8 + (m : Int) ≤ s.size := by omega
  have j8 : (8 : Int) ≤ 8 + (m : Int) := by omega
  have n8 : 8 ≤ s.size := by omega
  go_wp2_with fail
  go_quiet ((first | (go_at_call 44; exact Calls.quiet_of (HQ.out _)) | (go_at_call 40; exact Calls.quiet_of_same (HS.out _ HT1.out))))
  have B2 := hide (below_drewN B1.out nq)
  generalize w1.drewN nq = w2 at *
  go_wp2_with fail
  refine (HC.out _).mono ?_
  rintro e w3 ⟨rfl, b3⟩
  have B3 := hide (B2.out.trans (b3.mono B2.out.size))
  clear b3
  go_wp2
  refine bodyPost_ret (v := .tuple #[.string (s.extract 8 (8 + m)), .int .i64 (8 + m), .int .i64 0]) (by simp [results, Tryd.results22, go_sem]) rfl ⟨rfl, B3.out⟩

theorem take_any (s : ByteArray) (w : World) (hT : Tab w) (h63 : s.size ≤ 9223372036854775807) :
    Calls Tryd.prog 22 #[.string s] w fun e w' => e = .returned (.tuple #[.string ⟨(takeF s.data.toList).1.toArray⟩, .int .i64 (takeF s.data.toList).2.1, .int .i64 (takeF s.data.toList).2.2]) ∧ Below w.heap.size w w' := by
  by_cases h : s.size < 4
  · rw [show takeF s.data.toList = ([], 0, 2) by unfold takeF; rw [if_pos (by rw [size_list]; exact h)]]
    exact take_short s w h63 h
  · obtain ⟨m, hm⟩ : ∃ m, Lib.beNat (s.data.toList.take 4) = m := ⟨_, rfl⟩
    have HV : Hid (∀ w, Calls Tryd.prog 44 #[.string s] w fun e w' => e = .returned (.int .u32 m) ∧ ∃ n, w' = w.drewN n) := by
      intro w
      have := word_any s w (by omega)
      rw [hm] at this
      exact this
    by_cases h1 : 400000 < m
    · rw [show takeF s.data.toList = ([], 0, 3) by unfold takeF; rw [if_neg (by rw [size_list]; exact h), hm, if_pos h1]]
      exact take_long s w h63 m (by omega) HV h1
    · by_cases h2 : s.size < 8 + m
      · rw [show takeF s.data.toList = ([], 0, 2) by unfold takeF; rw [if_neg (by rw [size_list]; exact h), hm, if_neg h1, if_pos (by rw [size_list]; exact h2)]]
        exact ptake_torn s w h63 m (by omega) HV (by omega) h2
      · have x4 : (s.extract 0 4).data.toList = s.data.toList.take 4 := by rw [ext_data]; simp
        have x8 : (s.extract 4 s.size).data.toList.take 4 = (s.data.toList.drop 4).take 4 := by rw [ext_data, List.take_take, Nat.min_eq_left (by omega)]
        have xb : (s.extract 8 (8 + m)).data.toList = (s.data.toList.drop 8).take m := by rw [ext_data]; simp
        obtain ⟨q, hq⟩ : ∃ q, Lib.beNat ((s.data.toList.drop 4).take 4) = q := ⟨_, rfl⟩
        obtain ⟨p, hp⟩ : ∃ p, sumF (s.data.toList.take 4 ++ (s.data.toList.drop 8).take m) = p := ⟨_, rfl⟩
        have HQ : Hid (∀ w, Calls Tryd.prog 44 #[.string (s.extract 4 s.size)] w fun e w' => e = .returned (.int .u32 q) ∧ ∃ n, w' = w.drewN n) := by
          intro w
          have := word_any (s.extract 4 s.size) w (by simp; omega)
          rw [x8, hq] at this
          exact this
        have HS : Hid (∀ w, Tab w → Calls Tryd.prog 40 #[.string (s.extract 0 4), .string (s.extract 8 (8 + m))] w fun e w' => e = .returned (.int .u32 p) ∧ w' = w) := by
          intro w hT
          have := fsum_any (s.extract 0 4) (s.extract 8 (8 + m)) w (by simp; omega) (by simp; omega) hT
          rw [x4, xb, hp] at this
          exact this
        by_cases hqp : q = p
        · rw [show takeF s.data.toList = ((s.data.toList.drop 8).take m, 8 + m, 0) by unfold takeF; rw [if_neg (by rw [size_list]; exact h), hm, if_neg h1, if_neg (by rw [size_list]; exact h2), hq, hp, if_neg (by simpa using hqp)]]
          have := ptake_ok s w hT h63 m q p HV (by omega) (by omega) HQ HS (by subst hqp; simp)
          rw [← mk_list (s.extract 8 (8 + m)), xb] at this
          exact this
        · rw [show takeF s.data.toList = ([], 0, 4) by unfold takeF; rw [if_neg (by rw [size_list]; exact h), hm, if_neg h1, if_neg (by rw [size_list]; exact h2), hq, hp, if_pos hqp]]
          exact ptake_sum s w hT h63 m q p HV (by omega) (by omega) HQ HS (by rw [bne_iff_ne]; omega)

end Go.Proofs.YtodfdblgkpjchaaDoor
