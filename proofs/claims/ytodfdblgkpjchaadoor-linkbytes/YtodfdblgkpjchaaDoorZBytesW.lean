/-
  LinkBytes, as it runs.
-/
import Derived.Test.YtodfdblgkpjchaaDoorZBackW
import Derived.Test.YtodfdblgkpjchaaDoorZB7
namespace Go.Proofs.YtodfdblgkpjchaaDoor
open Go.RowKit

theorem xdec_any (s : ByteArray) (h63 : s.size ≤ 9223372036854775807) (w : World) :
    Calls Tryd.prog 9 #[.string s] w fun e w' => e = .returned (.tuple #[(decL s.data.toList).1.v, .int .i64 (decL s.data.toList).2]) ∧ Below w.heap.size w w' := by
  have hsz : s.data.toList.length = s.size := by simp
  by_cases h1 : (takeF s.data.toList).2.2 = 0
  · by_cases h2 : (K.decF shapeL (takeF s.data.toList).1).2 ≠ 0 ∨ (takeF s.data.toList).2.1 ≠ s.size
    · have e : decL s.data.toList = (FR.zero, 10) := by
        by_cases h3 : (takeF s.data.toList).2.1 = s.size
        · have h4 := h2.resolve_right (fun x => x h3)
          exact decL_none h1 (by rw [hsz]; exact h3) (by unfold readL; rw [if_neg h4])
        · exact decL_left h1 (by rw [hsz]; exact h3)
      rw [e]
      exact xdec_left s h63 w h1 h2
    · have h3 : (K.decF shapeL (takeF s.data.toList).1).2 = 0 := Decidable.not_not.1 fun x => h2 (.inl x)
      have h4 : (takeF s.data.toList).2.1 = s.size := Decidable.not_not.1 fun x => h2 (.inr x)
      obtain ⟨a, b, c, d, e, h5⟩ := dec_five _ h3
      obtain ⟨_, hok, _⟩ := K.again_pure shapeL (takeF s.data.toList).1 h3
      rw [h5] at hok
      obtain ⟨_, _, a1, a2, _⟩ := hok a (by simp)
      obtain ⟨_, _, b1, b2, _⟩ := hok b (by simp)
      obtain ⟨_, _, c1, c2, _⟩ := hok c (by simp)
      obtain ⟨_, _, d1, d2, _⟩ := hok d (by simp)
      obtain ⟨_, _, _, _, es⟩ := hok e (by simp)
      refine xdec_five s h63 w h1 h4 a b c d e (Prod.ext h5 h3) ⟨a.n, b.n, c.n, d.n, e.s⟩ rfl es a1 b1 c1 d1 _ _ (fun hr => ?_) (fun hr => ?_)
      · have e6 : readL (takeF s.data.toList).1 = some ⟨a.n, b.n, c.n, d.n, e.s⟩ := by
          unfold readL
          rw [if_pos h3, h5]
          exact if_pos hr
        rw [decL_some h1 (by rw [hsz]; exact h4) e6]
        exact ⟨rfl, rfl⟩
      · have e6 : readL (takeF s.data.toList).1 = none := by
          unfold readL
          rw [if_pos h3, h5]
          exact if_neg hr
        rw [decL_none h1 (by rw [hsz]; exact h4) e6]
        exact ⟨rfl, rfl⟩
  · rw [decL_fault h1]
    exact xdec_fault s h63 w h1
set_option maxHeartbeats 8000000 in
set_option maxRecDepth 100000 in
theorem bytes_walk (f : FR) (hf : f.ok) (s : ByteArray) (h63 : s.size ≤ 9223372036854775807) (w : World) (hT : Tab w) :
    Calls Tryd.prog 3 #[f.v, .string s] w fun e w' => e = .returned (.bool true) ∧ Below w.heap.size w w' := by
  have HT := hide hT
  have HD := hide (fun W hW => pdec_any s h63 W hW)
  have HX := hide (fun W => xdec_any s h63 W)
  generalize decL s.data.toList = DD at *
  obtain ⟨x, er⟩ := DD
  simp only at HD HX
  have K0 : Hid (BK w (w.alloc (.cells #[.int .i64 f.epoch, .int .i64 f.peer, .int .i64 f.seq, .int .i64 f.ack, .string f.body] 23)) f) := ⟨(Below.refl _ w).alloc (Nat.le_refl _) _, heap_alloc_new w _⟩
  clear hT
  by_cases hr : f.rightP
  · have HE := hide (fun W hW => enc_good f hr W hW)
    have HF := hide (fun W => xenc_good f hr W)
    generalize (⟨(oneL f).toArray⟩ : ByteArray) = tt at *
    obtain ⟨ep, pe, sq, ak, bo⟩ := f
    obtain ⟨xe, xp, xs, xa, xb⟩ := x
    clear hr hf
    simp only [FR.v] at *
    go_enter Tryd.func3, Tryd.ntmps3
    go_wp2_with fail
    refine (examples_any _).mono ?_
    rintro e w1 ⟨rfl, b1⟩
    have K1 := hide (K0.out.to b1)
    clear b1 K0
    obtain ⟨⟨c0, c1, c2, c3, c4⟩, _⟩ := box5 K1.out.box
    go_wp2_with fail
    refine (HE.out _ (HT.out.below K1.out.below)).mono ?_
    rintro e w2 ⟨rfl, b2⟩
    have K2 := hide (K1.out.to b2)
    clear b2 K1 c0 c1 c2 c3 c4 HE
    obtain ⟨⟨c0, c1, c2, c3, c4⟩, _⟩ := box5 K2.out.box
    go_wp2_with fail
    refine (HF.out _).mono ?_
    rintro e w3 ⟨rfl, b3⟩
    have K3 := hide (K2.out.to b3)
    clear b3 K2 c0 c1 c2 c3 c4 HF
    go_wp2_with fail
    refine (HD.out _ (HT.out.below K3.out.below)).mono ?_
    rintro e w4 ⟨rfl, b4⟩
    have K4 := hide ((K3.out.to b4).alloc (.cells #[.int .i64 xe, .int .i64 xp, .int .i64 xs, .int .i64 xa, .string xb] 23))
    have X4 := hide (heap_alloc_new w4 (.cells #[.int .i64 xe, .int .i64 xp, .int .i64 xs, .int .i64 xa, .string xb] 23))
    clear b4 K3 HD
    go_wp2_with fail
    have hlt4 : w4.heap.size < (w4.alloc (.cells #[.int .i64 xe, .int .i64 xp, .int .i64 xs, .int .i64 xa, .string xb] 23)).heap.size := heap_lt X4.out
    refine (HX.out _).mono ?_
    rintro e w5 ⟨rfl, b5⟩
    have K5 := hide ((K4.out.to b5).alloc (.cells #[.int .i64 xe, .int .i64 xp, .int .i64 xs, .int .i64 xa, .string xb] 23))
    have x5 := (b5.block w4.heap.size hlt4).trans X4.out
    obtain ⟨⟨c0, c1, c2, c3, c4⟩, _⟩ := box5 x5
    have hlt5 := heap_lt x5
    have hne5 : w4.heap.size ≠ w5.heap.size := Nat.ne_of_lt hlt5
    clear b5 K4 HX x5
    go_wp2
    go_ret
    exact ⟨rfl, K5.out.below⟩
  · have HE := hide (fun W => enc_bad f hf hr W)
    have HF := hide (fun W => xenc_bad f hf hr W)
    obtain ⟨ep, pe, sq, ak, bo⟩ := f
    obtain ⟨xe, xp, xs, xa, xb⟩ := x
    clear hr hf
    simp only [FR.v] at *
    go_enter Tryd.func3, Tryd.ntmps3
    go_wp2_with fail
    refine (examples_any _).mono ?_
    rintro e w1 ⟨rfl, b1⟩
    have K1 := hide (K0.out.to b1)
    clear b1 K0
    obtain ⟨⟨c0, c1, c2, c3, c4⟩, _⟩ := box5 K1.out.box
    go_wp2_with fail
    refine (HE.out _).mono ?_
    rintro e w2 ⟨rfl, b2⟩
    have K2 := hide (K1.out.to b2)
    clear b2 K1 c0 c1 c2 c3 c4 HE
    obtain ⟨⟨c0, c1, c2, c3, c4⟩, _⟩ := box5 K2.out.box
    go_wp2_with fail
    refine (HF.out _).mono ?_
    rintro e w3 ⟨rfl, b3⟩
    have K3 := hide (K2.out.to b3)
    clear b3 K2 c0 c1 c2 c3 c4 HF
    go_wp2_with fail
    refine (HD.out _ (HT.out.below K3.out.below)).mono ?_
    rintro e w4 ⟨rfl, b4⟩
    have K4 := hide ((K3.out.to b4).alloc (.cells #[.int .i64 xe, .int .i64 xp, .int .i64 xs, .int .i64 xa, .string xb] 23))
    have X4 := hide (heap_alloc_new w4 (.cells #[.int .i64 xe, .int .i64 xp, .int .i64 xs, .int .i64 xa, .string xb] 23))
    clear b4 K3 HD
    go_wp2_with fail
    have hlt4 : w4.heap.size < (w4.alloc (.cells #[.int .i64 xe, .int .i64 xp, .int .i64 xs, .int .i64 xa, .string xb] 23)).heap.size := heap_lt X4.out
    refine (HX.out _).mono ?_
    rintro e w5 ⟨rfl, b5⟩
    have K5 := hide ((K4.out.to b5).alloc (.cells #[.int .i64 xe, .int .i64 xp, .int .i64 xs, .int .i64 xa, .string xb] 23))
    have x5 := (b5.block w4.heap.size hlt4).trans X4.out
    obtain ⟨⟨c0, c1, c2, c3, c4⟩, _⟩ := box5 x5
    have hlt5 := heap_lt x5
    have hne5 : w4.heap.size ≠ w5.heap.size := Nat.ne_of_lt hlt5
    clear b5 K4 HX x5
    go_wp2
    go_ret
    exact ⟨rfl, K5.out.below⟩
end Go.Proofs.YtodfdblgkpjchaaDoor
