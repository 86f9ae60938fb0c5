/-
  The program's fourBytes, word, frameSum and Frame, as they run.
-/
import Derived.Test.YtodfdblgkpjchaaDoorZQClone
namespace Go.Proofs.YtodfdblgkpjchaaDoor
open Go.RowKit

set_option maxHeartbeats 1000000 in
theorem four_any (v : Nat) (w : World) (hv : v < 2 ^ 32) :
    Calls Tryd.prog 39 #[.int .u32 v] w fun e w' => e = .returned (.string ⟨(Lib.beBytes 4 v).toArray⟩) ∧ Below w.heap.size w w' := by
  have hcv := conv4 w _ _ _ _ ((v : Int) / 16777216) ((v : Int) / 65536 % 256) ((v : Int) / 256 % 256) ((v : Int) % 256) (byte_of (v / 16777216) _ (by omega)) (byte_of (v / 65536) _ (by omega)) (byte_of (v / 256) _ (by omega)) (byte_of v _ (by omega))
  have HE : Hid ((⟨(Lib.beBytes 4 v).toArray⟩ : ByteArray) = ⟨#[(v / 16777216 % 256).toUInt8, (v / 65536 % 256).toUInt8, (v / 256 % 256).toUInt8, (v % 256).toUInt8]⟩) := by rw [be4]; rfl
  rw [← HE.out] at hcv
  generalize (⟨(Lib.beBytes 4 v).toArray⟩ : ByteArray) = L at *
  clear HE
  go_enter Tryd.func39, Tryd.ntmps39
  go_wp2
  go_ret
  exact ⟨rfl, (Below.refl _ _).alloc (Nat.le_refl _) _⟩

theorem take_four (s : ByteArray) (h : 4 ≤ s.size) : s.data.toList.take 4 = [s[0], s[1], s[2], s[3]] := by
  obtain ⟨⟨l⟩⟩ := s
  have h4 : 4 ≤ l.length := h
  match l, h4 with
  | a :: b :: c :: d :: r, _ => rfl

set_option maxHeartbeats 1000000 in
theorem word_any (s : ByteArray) (w : World) (hs : 4 ≤ s.size) :
    Calls Tryd.prog 44 #[.string s] w fun e w' => e = .returned (.int .u32 (Lib.beNat (s.data.toList.take 4))) ∧ ∃ n, w' = w.drewN n := by
  have h0 : 0 < s.size := by omega
  have h1 : 1 < s.size := by omega
  have h2 : 2 < s.size := by omega
  have h3 : 3 < s.size := by omega
  have j1 : (1 : Int) < s.size := by omega
  have j2 : (2 : Int) < s.size := by omega
  have j3 : (3 : Int) < s.size := by omega
  go_enter Tryd.func44, Tryd.ntmps44
  go_wp2
  go_quiet (fail)
  go_wp2
  go_ret
  refine ⟨ret_u32 ?_, nq, rfl⟩
  have h := val4 s[0].toNat s[1].toNat s[2].toNat s[3].toNat s[0].toNat_lt s[1].toNat_lt s[2].toNat_lt s[3].toNat_lt
  refine Eq.trans ?_ (h.trans ?_)
  · rfl
  · rw [take_four s hs]
    simp [Lib.beNat, Lib.beFrom]

set_option maxHeartbeats 400000 in
theorem fsum_any (n4 body : ByteArray) (w : World) (h1 : n4.size ≤ 9223372036854775807) (h2 : body.size ≤ 9223372036854775807) (hT : Tab w) :
    Calls Tryd.prog 40 #[.string n4, .string body] w fun e w' => e = .returned (.int .u32 (sumF (n4.data.toList ++ body.data.toList))) ∧ w' = w := by
  have HS := hide (sum_any n4 w h1 hT)
  have HM := hide (more_any (sumF n4.data.toList) body w (sumF_lt _) h2 hT)
  rw [sumF_join] at HM
  clear hT
  generalize sumF (n4.data.toList ++ body.data.toList) = m at *
  generalize sumF n4.data.toList = k at *
  go_enter Tryd.func40, Tryd.ntmps40
  go_wp2_with fail
  refine HS.out.mono ?_
  rintro e w' ⟨rfl, rfl⟩
  go_wp2_with fail
  refine HM.out.mono ?_
  rintro e w' ⟨rfl, rfl⟩
  go_wp2
  go_ret
  exact ⟨rfl, rfl⟩

set_option maxHeartbeats 1000000 in
theorem frame_long (body : ByteArray) (w : World) (h : 400000 < body.size) (_h63 : body.size ≤ 9223372036854775807) :
    Calls Tryd.prog 18 #[.string body] w fun e w' => e = .returned (.tuple #[.string ⟨#[]⟩, .int .i64 3]) ∧ Below w.heap.size w w' := by
  go_enter Tryd.func18, Tryd.ntmps18
  go_wp2
  go_ret2
  exact ⟨rfl, Below.refl _ _⟩

set_option maxHeartbeats 1000000 in
theorem frame_ok (body n4 s4 : ByteArray) (m : Nat) (w : World) (hT : Tab w) (h : body.size ≤ 400000) (h4 : n4.size = 4) (hs4 : s4.size = 4)
    (HW1 : Hid (∀ w, Calls Tryd.prog 39 #[.int .u32 body.size] w fun e w' => e = .returned (.string n4) ∧ Below w.heap.size w w'))
    (HS : Hid (∀ w, Tab w → Calls Tryd.prog 40 #[.string n4, .string body] w fun e w' => e = .returned (.int .u32 m) ∧ w' = w))
    (HW2 : Hid (∀ w, Calls Tryd.prog 39 #[.int .u32 m] w fun e w' => e = .returned (.string s4) ∧ Below w.heap.size w w')) :
    Calls Tryd.prog 18 #[.string body] w fun e w' => e = .returned (.tuple #[.string (n4 ++ s4 ++ body), .int .i64 0]) ∧ Below w.heap.size w w' := by
  have HT := hide hT
  clear hT
  go_enter Tryd.func18, Tryd.ntmps18
  go_wp2_with fail
  refine (HW1.out _).mono ?_
  rintro e w1 ⟨rfl, b1⟩
  have HT1 := hide (HT.out.below b1)
  have B1 := hide b1
  clear b1
  go_wp2_with fail
  refine (HS.out _ HT1.out).mono ?_
  rintro e w2 ⟨rfl, rfl⟩
  go_wp2_with fail
  refine (HW2.out _).mono ?_
  rintro e w3 ⟨rfl, b3⟩
  have B3 := hide (B1.out.trans (b3.mono B1.out.size))
  clear b3
  go_wp2
  go_ret2
  exact ⟨rfl, B3.out⟩

theorem frame_any (body : ByteArray) (w : World) (hT : Tab w) (h63 : body.size ≤ 9223372036854775807) :
    Calls Tryd.prog 18 #[.string body] w fun e w' => e = .returned (.tuple #[.string ⟨(frameF body.data.toList).1.toArray⟩, .int .i64 (frameF body.data.toList).2]) ∧ Below w.heap.size w w' := by
  unfold frameF
  rw [size_list]
  by_cases h : 400000 < body.size
  · rw [if_pos h]
    exact frame_long body w h h63
  · rw [if_neg h]
    simp only
    rw [← frame_mk]
    refine frame_ok body _ _ (sumF (lenB body.data.toList ++ body.data.toList)) w hT (by omega) (by rw [mk_size, lenB_length]) (by rw [mk_size, sumB_length]) ?_ ?_ ?_
    · intro w
      have := four_any body.size w (by omega)
      rw [← size_list] at this
      exact this
    · intro w hT
      have := fsum_any ⟨(lenB body.data.toList).toArray⟩ body w (by rw [mk_size, lenB_length]; omega) h63 hT
      rw [mk_data] at this
      exact this
    · intro w
      exact four_any _ w (sumF_lt _)

end Go.Proofs.YtodfdblgkpjchaaDoor
