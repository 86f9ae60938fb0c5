import Derived.Test.YtnbomaalncjkeaaW3
namespace Go.Proofs.Ytnbomaalncjkeaa
open Go.RowKit

set_option maxHeartbeats 400000 in
theorem readItem_short (c : UInt8) (k : Int) (z : Nat) (s : ByteArray) (w : World)
    (HK : Hid (∀ w, Calls Try.prog 54 #[.string { data := #[98, 119, 108, 116] }, .int .u8 (c.toNat : Int)] w fun e w' => e = .returned (.int .i64 (k - 1)) ∧ w' = w))
    (HW : Hid (∀ w, Calls Try.prog 20 #[.int .i64 k] w fun e w' => e = .returned (.int .i64 z) ∧ w' = w))
    (k0 : 0 ≤ k) (k4 : k ≤ 4) (h : s.size < z) (_hz : z ≤ 8) :
    Calls Try.prog 47 #[.int .u8 (c.toNat : Int), .string s] w fun e w' => e = .returned (.tuple #[It.zero.v, .string ⟨#[]⟩, .int .i64 2]) ∧ Below w.heap.size w w' := by
  go_enter Try.func47, Try.ntmps47
  go_wp2_with fail
  refine (HK.out _).mono ?_
  rintro e w' ⟨rfl, rfl⟩
  go_wp2_with fail
  refine (HW.out _).mono ?_
  rintro e w' ⟨rfl, rfl⟩
  go_wp2
  refine bodyPost_ret (v := .tuple #[.agg #[.int .i64 0, .int .u64 0, .string ⟨#[]⟩], .string ⟨#[]⟩, .int .i64 2]) (by simp [results, Try.results47, go_sem]) rfl ⟨rfl, ?_⟩
  exact (Below.refl _ _).alloc (Nat.le_refl _) _

theorem below3 {w w1 : World} {B : Nat} (hb : Below B w w1) (b : Nat) (h : B ≤ b) (v0 v1 v2 : Value) :
    Below B w (((w1.setCell ⟨b, 0, none⟩ v0).setCell ⟨b, 1, none⟩ v1).setCell ⟨b, 2, none⟩ v2) :=
  ((hb.setCell (p := ⟨b, 0, none⟩) h _).setCell (p := ⟨b, 1, none⟩) h _).setCell (p := ⟨b, 2, none⟩) h _

theorem num_ok (s : ByteArray) (z : Nat) (hz : z ≤ 8) : (s.extract 0 z).size ≤ 8 := by simp; omega

set_option maxHeartbeats 400000 in
theorem readItem_num (c : UInt8) (k : Int) (z : Nat) (s : ByteArray) (w : World) (_hs : s.size ≤ maxLen)
    (HK : Hid (∀ w, Calls Try.prog 54 #[.string { data := #[98, 119, 108, 116] }, .int .u8 (c.toNat : Int)] w fun e w' => e = .returned (.int .i64 (k - 1)) ∧ w' = w))
    (HW : Hid (∀ w, Calls Try.prog 20 #[.int .i64 k] w fun e w' => e = .returned (.int .i64 z) ∧ w' = w))
    (k0 : 0 ≤ k) (k4 : k < 4) (h : z ≤ s.size) (hz : z ≤ 8) :
    Calls Try.prog 47 #[.int .u8 (c.toNat : Int), .string s] w fun e w' => e = .returned (.tuple #[It.v ⟨k, Lib.beNat (s.extract 0 z).data.toList, ⟨#[]⟩⟩, .string (s.extract z s.size), .int .i64 0]) ∧ Below w.heap.size w w' := by
  unfold maxLen at _hs
  have kne : (k == 4) = false := beq_eq_false_iff_ne.2 (by omega)
  have HN : Hid (∀ w, Calls Try.prog 55 #[.string (s.extract 0 z)] w fun e w' => e = .returned (.int .u64 (Lib.beNat (s.extract 0 z).data.toList)) ∧ w' = w) := fun w => number_any _ w (num_ok s z hz)
  generalize Lib.beNat (s.extract 0 z).data.toList = m at HN ⊢
  go_enter Try.func47, Try.ntmps47
  go_wp2_with fail
  refine (HK.out _).mono ?_
  rintro e w' ⟨rfl, rfl⟩
  go_wp2_with fail
  refine (HW.out _).mono ?_
  rintro e w' ⟨rfl, rfl⟩
  go_wp2
  go_quiet ((go_at_call 55; exact Calls.quiet_of_same (HN.out _)))
  go_wp2
  refine bodyPost_ret (v := .tuple #[It.v ⟨k, m, ⟨#[]⟩⟩, .string (s.extract z s.size), .int .i64 0]) (by simp [results, Try.results47, go_sem, It.v]) rfl ⟨rfl, ?_⟩
  exact below3 (below_drewN ((Below.refl _ _).alloc (Nat.le_refl _) _) nq) _ (Nat.le_refl _) _ _ _

set_option maxHeartbeats 400000 in
theorem readItem_text (c : UInt8) (z : Nat) (s : ByteArray) (w : World) (hs : s.size ≤ maxLen)
    (HK : Hid (∀ w, Calls Try.prog 54 #[.string { data := #[98, 119, 108, 116] }, .int .u8 (c.toNat : Int)] w fun e w' => e = .returned (.int .i64 3) ∧ w' = w))
    (HW : Hid (∀ w, Calls Try.prog 20 #[.int .i64 4] w fun e w' => e = .returned (.int .i64 z) ∧ w' = w))
    (h : z ≤ s.size) (hz : z ≤ 8) :
    Calls Try.prog 47 #[.int .u8 (c.toNat : Int), .string s] w fun e w' => e = .returned (.tuple #[(textG (Lib.beNat (s.extract 0 z).data.toList) (s.extract z s.size)).1.v, .string (textG (Lib.beNat (s.extract 0 z).data.toList) (s.extract z s.size)).2.1, .int .i64 (textG (Lib.beNat (s.extract 0 z).data.toList) (s.extract z s.size)).2.2]) ∧ Below w.heap.size w w' := by
  have HT : Hid (∀ (n : Nat) (w : World), Calls Try.prog 56 #[.int .u64 n, .string (s.extract z s.size)] w fun e w' => e = .returned (.tuple #[(textG n (s.extract z s.size)).1.v, .string (textG n (s.extract z s.size)).2.1, .int .i64 (textG n (s.extract z s.size)).2.2]) ∧ Below w.heap.size w w') := fun n w => readText_any n _ w (by simp; omega)
  unfold maxLen at hs
  have HN : Hid (∀ w, Calls Try.prog 55 #[.string (s.extract 0 z)] w fun e w' => e = .returned (.int .u64 (Lib.beNat (s.extract 0 z).data.toList)) ∧ w' = w) := fun w => number_any _ w (num_ok s z hz)
  generalize Lib.beNat (s.extract 0 z).data.toList = m at HN ⊢
  have HT1 := HT.out m
  clear HT
  generalize textG m (s.extract z s.size) = r at HT1 ⊢
  obtain ⟨⟨rk, rn, rs⟩, rr, re⟩ := r
  have HT : Hid (∀ (w : World), Calls Try.prog 56 #[.int .u64 m, .string (s.extract z s.size)] w fun e w' => e = .returned (.tuple #[.agg #[.int .i64 rk, .int .u64 rn, .string rs], .string rr, .int .i64 re]) ∧ Below w.heap.size w w') := HT1
  clear HT1
  go_enter Try.func47, Try.ntmps47
  go_wp2_with fail
  refine (HK.out _).mono ?_
  rintro e w' ⟨rfl, rfl⟩
  go_wp2_with fail
  refine (HW.out _).mono ?_
  rintro e w' ⟨rfl, rfl⟩
  go_wp2
  go_quiet ((go_at_call 55; exact Calls.quiet_of_same (HN.out _)))
  go_wp2_with fail
  refine (HT.out _).mono ?_
  rintro e w' ⟨rfl, hb⟩
  have hz1 := hb.size
  obtain ⟨hc, hf⟩ := bcell hb
  simp at hz1 hc hf
  have c0 := hc w.heap.size 0 (by omega)
  have c1 := hc w.heap.size 1 (by omega)
  have c2 := hc w.heap.size 2 (by omega)
  have f0 := hf w.heap.size 0 (by omega)
  have f1 := hf w.heap.size 1 (by omega)
  have f2 := hf w.heap.size 2 (by omega)
  clear hc hf
  simp at c0 c1 c2 f0 f1 f2
  go_wp2
  refine bodyPost_ret (v := .tuple #[.agg #[.int .i64 rk, .int .u64 rn, .string rs], .string rr, .int .i64 re]) (by simp [results, Try.results47, go_sem, c0, c1, c2]) rfl ⟨rfl, ?_⟩
  have hb1 : Below w.heap.size w w' := (below_drewN ((Below.refl _ _).alloc (Nat.le_refl _) _) nq).trans (hb.mono (by simp))
  exact below3 hb1 _ (Nat.le_refl _) _ _ _

theorem widthN_le (k : Int) : widthN k ≤ 8 := by
  unfold widthN
  split
  · omega
  · split <;> omega

theorem readItem_any (c : UInt8) (s : ByteArray) (w : World) (hs : s.size ≤ maxLen) :
    Calls Try.prog 47 #[.int .u8 (c.toNat : Int), .string s] w fun e w' => e = .returned (.tuple #[(itemG (kindOfL c) (widthN (kindOfL c)) s).1.v, .string (itemG (kindOfL c) (widthN (kindOfL c)) s).2.1, .int .i64 (itemG (kindOfL c) (widthN (kindOfL c)) s).2.2]) ∧ Below w.heap.size w w' := by
  have k0 := kindOfL_ge c
  have k4 := kindOfL_le c
  have HK := fun w => letterIdx c w
  have HW := fun w => width_any (kindOfL c) w
  have hz := widthN_le (kindOfL c)
  generalize widthN (kindOfL c) = z at *
  generalize kindOfL c = k at *
  unfold itemG
  by_cases h : s.size < z
  · rw [if_pos h]; exact readItem_short c k z s w HK HW k0 k4 h hz
  · rw [if_neg h]
    by_cases h4 : k = 4
    · subst h4
      rw [if_pos rfl]; exact readItem_text c z s w hs HK HW (by omega) hz
    · rw [if_neg h4]; exact readItem_num c k z s w hs HK HW k0 (by omega) (by omega) hz

theorem itemG_eq (c : UInt8) (s : ByteArray) :
    (itemG (kindOfL c) (widthN (kindOfL c)) s).1 = (itemF c s.data.toList).1 ∧ (itemG (kindOfL c) (widthN (kindOfL c)) s).2.1.data.toList = (itemF c s.data.toList).2.1 ∧ (itemG (kindOfL c) (widthN (kindOfL c)) s).2.2 = (itemF c s.data.toList).2.2 := by
  unfold itemG itemF textG
  have e0 : s.data.toList.length = s.size := by simp
  have e1 : ∀ z, (s.extract 0 z).data.toList = s.data.toList.take z := fun z => by rw [Lib.extract_data]; simp
  have e2 : ∀ z, (s.extract z s.size).data.toList = s.data.toList.drop z := fun z => Lib.extract_to_end s z
  have e3 : ∀ z, (s.extract z s.size).size = (s.data.toList.drop z).length := fun z => by rw [← e2]; simp
  rw [e0]
  by_cases h : s.size < widthN (kindOfL c)
  · simp [h]
  · rw [if_neg h, if_neg h]
    by_cases h4 : kindOfL c = 4
    · rw [if_pos h4, if_pos h4, h4]
      have w4 : widthN 4 = 4 := rfl
      rw [w4, e1, e3]
      by_cases h5 : 100000 < Lib.beNat (s.data.toList.take 4)
      · simp [h5]
      · rw [if_neg h5, if_neg h5]
        by_cases h6 : (s.data.toList.drop 4).length < Lib.beNat (s.data.toList.take 4)
        · rw [if_pos h6, if_pos h6]; simp
        · rw [if_neg h6, if_neg h6]
          refine ⟨?_, ?_, rfl⟩
          · simp only [It.mk.injEq, true_and]
            rw [Lib.extract_eq, e2]; simp
          · show ((s.extract 4 s.size).extract _ _).data.toList = _
            rw [← e3, Lib.extract_to_end, e2]
    · rw [if_neg h4, if_neg h4, e1]
      exact ⟨rfl, e2 _, rfl⟩

end Go.Proofs.Ytnbomaalncjkeaa
