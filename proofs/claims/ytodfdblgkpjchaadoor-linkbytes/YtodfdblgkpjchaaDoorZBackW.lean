/-
  LinkBack, as it runs.
-/
import Derived.Test.YtodfdblgkpjchaaDoorZB4
import Derived.Test.YtodfdblgkpjchaaDoorZE2
import Derived.Laws.StructEq
namespace Go.Proofs.YtodfdblgkpjchaaDoor
open Go.RowKit

theorem decL_zero {s : List UInt8} (h : (decL s).2 ≠ 0) : (decL s).1 = FR.zero := by
  unfold decL at *
  by_cases h1 : (takeF s).2.2 ≠ 0
  · rw [if_pos h1]
  · rw [if_neg h1] at h ⊢
    by_cases h2 : (takeF s).2.1 ≠ s.length
    · rw [if_pos h2]
    · rw [if_neg h2] at h ⊢
      cases hr : readL (takeF s).1 with
      | none => rfl
      | some f => rw [hr] at h; exact absurd rfl h
theorem one_back {s : ByteArray} (h : (decL s.data.toList).2 = 0) : (⟨(oneL (decL s.data.toList).1).toArray⟩ : ByteArray) = s := by
  rw [(decL_back h).2]
theorem pdec_one (f : FR) (h : f.rightP) (w : World) (hT : Tab w) : Calls Tryd.prog 8 #[.string ⟨(oneL f).toArray⟩] w fun e w' => e = .returned (.tuple #[f.v, .int .i64 0]) ∧ Below w.heap.size w w' := by
  have hl : (⟨(oneL f).toArray⟩ : ByteArray).size ≤ 9223372036854775807 := by
    show (oneL f).toArray.size ≤ _
    have := codeL_le h
    rw [List.size_toArray, oneL_len]
    omega
  have := pdec_any ⟨(oneL f).toArray⟩ hl w hT
  rw [show ((⟨(oneL f).toArray⟩ : ByteArray).data.toList) = oneL f by simp, decL_one h] at this
  exact this
/-- A frame's box, and what is below. -/
structure BK (w W : World) (f : FR) : Prop where
  below : Below w.heap.size w W
  box : W.heap[w.heap.size]? = some (.cells #[.int .i64 f.epoch, .int .i64 f.peer, .int .i64 f.seq, .int .i64 f.ack, .string f.body] 23 (0, 0))
theorem BK.to {w W W' : World} {f : FR} (h : BK w W f) (hb : Below W.heap.size W W') : BK w W' f := ⟨h.below.trans (hb.mono h.below.size), (hb.block _ (heap_lt h.box)).trans h.box⟩
theorem BK.alloc {w W : World} {f : FR} (h : BK w W f) (o : Obj) : BK w (W.alloc o) f := h.to ((Below.refl _ W).alloc (Nat.le_refl _) o)
set_option maxHeartbeats 8000000 in
set_option maxRecDepth 100000 in
theorem back_walk (f : FR) (hf : f.ok) (s : ByteArray) (h63 : s.size ≤ 9223372036854775807) (w : World) (hT : Tab w) :
    Calls Tryd.prog 4 #[f.v, .string s] w fun e w' => e = .returned (.bool true) ∧ Below w.heap.size w w' := by
  have HT := hide hT
  have HD := hide (fun W hW => pdec_any s h63 W hW)
  have hz := @decL_zero s.data.toList
  have hk := @one_back s
  have hrt := @decL_back s.data.toList
  generalize decL s.data.toList = DD at *
  obtain ⟨x, er⟩ := DD
  simp only at HD hz hk hrt
  have K0 : Hid (BK w (w.alloc (.cells #[.int .i64 f.epoch, .int .i64 f.peer, .int .i64 f.seq, .int .i64 f.ack, .string f.body] 23)) f) := ⟨(Below.refl _ w).alloc (Nat.le_refl _) _, heap_alloc_new w _⟩
  clear hT
  by_cases hr : f.rightP
  · have HE := hide (fun W hW => enc_good f hr W hW)
    have HO := hide (fun W hW => pdec_one f hr W hW)
    generalize (⟨(oneL f).toArray⟩ : ByteArray) = tt at *
    obtain ⟨ep, pe, sq, ak, bo⟩ := f
    clear hr hf
    simp only [FR.v] at *
    go_enter Tryd.func4, Tryd.ntmps4
    go_wp2_with fail
    refine (examples_any _).mono ?_
    rintro e w1 ⟨rfl, b1⟩
    have K1 := hide (K0.out.to b1)
    clear b1 K0
    obtain ⟨⟨c0, c1, c2, c3, c4⟩, _⟩ := box5 K1.out.box
    go_wp2_with fail
    refine (HE.out _ (HT.out.below K1.out.below)).mono ?_
    rintro e w2 ⟨rfl, b2⟩
    have K2 := hide (K1.out.to b2)
    clear b2 K1 c0 c1 c2 c3 c4
    go_wp2_with fail
    refine (HO.out _ (HT.out.below K2.out.below)).mono ?_
    rintro e w3 ⟨rfl, b3⟩
    have K3 := hide (K2.out.to b3)
    clear b3 K2
    have KK := hide (K3.out.alloc (.cells #[.int .i64 ep, .int .i64 pe, .int .i64 sq, .int .i64 ak, .string bo] 23))
    have X3 := hide (heap_alloc_new w3 (.cells #[.int .i64 ep, .int .i64 pe, .int .i64 sq, .int .i64 ak, .string bo] 23))
    obtain ⟨⟨c0, c1, c2, c3, c4⟩, _⟩ := box5 K3.out.box
    have hlt := heap_lt K3.out.box
    have hne := Nat.ne_of_lt hlt
    clear HE HO K3
    go_wp2_with fail
    refine (HD.out _ (HT.out.below KK.out.below)).mono ?_
    rintro e w5 ⟨rfl, b5⟩
    have K5 := hide (KK.out.to b5)
    clear b5 HD KK
    by_cases he : er = 0
    · subst he
      obtain ⟨hr, _⟩ := hrt rfl
      have hks := hk rfl
      have HE := hide (fun W hW => enc_good x hr W hW)
      rw [hks] at HE
      have K6 := hide (K5.out.alloc (.cells #[.int .i64 x.epoch, .int .i64 x.peer, .int .i64 x.seq, .int .i64 x.ack, .string x.body] 23))
      have X6 := hide (heap_alloc_new w5 (.cells #[.int .i64 x.epoch, .int .i64 x.peer, .int .i64 x.seq, .int .i64 x.ack, .string x.body] 23))
      clear hz hk hrt hks hr
      obtain ⟨xe, xp, xs, xa, xb⟩ := x
      simp only [FR.v] at *
      go_wp2_with fail
      refine (HE.out _ (HT.out.below K6.out.below)).mono ?_
      rintro e w7 ⟨rfl, b7⟩
      have K7 := hide (K6.out.to b7)
      clear b7
      go_wp2
      go_ret
      exact ⟨rfl, K7.out.below⟩
    · have hx := hz he
      subst hx
      have K6 := hide (K5.out.alloc (.cells #[.int .i64 0, .int .i64 0, .int .i64 0, .int .i64 0, .string ⟨#[]⟩] 23))
      have hne : (er == 0) = false := by rw [beq_eq_false_iff_ne]; exact he
      have hne2 : (er != 0) = true := by rw [bne_iff_ne]; exact he
      clear hz hk hrt he
      simp only [FR.zero] at *
      go_wp2
      go_ret
      exact ⟨rfl, K6.out.below⟩
  · have HE := hide (fun W => enc_bad f hf hr W)
    obtain ⟨ep, pe, sq, ak, bo⟩ := f
    clear hr hf
    simp only [FR.v] at *
    go_enter Tryd.func4, Tryd.ntmps4
    go_wp2_with fail
    refine (examples_any _).mono ?_
    rintro e w1 ⟨rfl, b1⟩
    have K1 := hide (K0.out.to b1)
    clear b1 K0
    obtain ⟨⟨c0, c1, c2, c3, c4⟩, _⟩ := box5 K1.out.box
    go_wp2_with fail
    refine (HE.out _).mono ?_
    rintro e w2 ⟨rfl, b2⟩
    have KK := hide (K1.out.to b2)
    clear b2 K1 c0 c1 c2 c3 c4 HE
    go_wp2_with fail
    refine (HD.out _ (HT.out.below KK.out.below)).mono ?_
    rintro e w5 ⟨rfl, b5⟩
    have K5 := hide (KK.out.to b5)
    clear b5 HD KK
    by_cases he : er = 0
    · subst he
      obtain ⟨hr, _⟩ := hrt rfl
      have hks := hk rfl
      have HE := hide (fun W hW => enc_good x hr W hW)
      rw [hks] at HE
      have K6 := hide (K5.out.alloc (.cells #[.int .i64 x.epoch, .int .i64 x.peer, .int .i64 x.seq, .int .i64 x.ack, .string x.body] 23))
      have X6 := hide (heap_alloc_new w5 (.cells #[.int .i64 x.epoch, .int .i64 x.peer, .int .i64 x.seq, .int .i64 x.ack, .string x.body] 23))
      clear hz hk hrt hks hr
      obtain ⟨xe, xp, xs, xa, xb⟩ := x
      simp only [FR.v] at *
      go_wp2_with fail
      refine (HE.out _ (HT.out.below K6.out.below)).mono ?_
      rintro e w7 ⟨rfl, b7⟩
      have K7 := hide (K6.out.to b7)
      clear b7
      go_wp2
      go_ret
      exact ⟨rfl, K7.out.below⟩
    · have hx := hz he
      subst hx
      have K6 := hide (K5.out.alloc (.cells #[.int .i64 0, .int .i64 0, .int .i64 0, .int .i64 0, .string ⟨#[]⟩] 23))
      have hne : (er == 0) = false := by rw [beq_eq_false_iff_ne]; exact he
      have hne2 : (er != 0) = true := by rw [bne_iff_ne]; exact he
      clear hz hk hrt he
      simp only [FR.zero] at *
      go_wp2
      go_ret
      exact ⟨rfl, K6.out.below⟩
end Go.Proofs.YtodfdblgkpjchaaDoor
