/-
  ViewBack, as it runs, of what the program answers (mklb.py).
-/
import Derived.Test.YtjnbfopipmglgaaZLK1
namespace Go.Proofs.Ytjnbfopipmglgaa
open Go.RowKit

attribute [local go_sem ↓] Go.wp_at_zero Go.wp_at_succ
set_option linter.unusedSimpArgs false
set_option linter.unusedVariables false
theorem lk_ret {w W : World} {a : Act} {v : Vlk} {r : Bool} (hF : Flk a v) (h4 : v.v4 = .bool r) (hB : Below w.heap.size w W) :
    bodyPost Try.prog Try.f4 (fun e w' => e = .returned (.bool r) ∧ Below w.heap.size w w') .ret a W := by
  have g4 := slot_get (hF.s4.trans h4)
  refine bodyPost_ret (v := .bool r) ?_ hF.defers ⟨rfl, hB⟩
  simp [results, Try.results4, go_sem, g4]
set_option maxHeartbeats 16000000 in
set_option maxRecDepth 100000 in
theorem vback_walk (HX : ExSays) (HE : EncodeSays) (HD : DecodeSays) (x : VW) (t : ByteArray) (ao : Option Addr) (cp : Nat) (w : World) (hM : MemsAt w ao x.mem) (hl : x.mem.length ≤ 4611686018427387903) (hs : t.size ≤ 9223372036854775807) :
    Calls Try.prog 4 #[x.v ao cp, .string t] w fun e w' => e = .returned (.bool true) ∧ Below w.heap.size w w' := by
  have HXX := hide HX
  have HM := hide hM
  have HEE := hide HE
  have HDD := hide HD
  have E1 := hide (fun W (b : Below w.heap.size w W) => HE x ao cp W (hM.below b) hl)
  have G1 := hide (fun W => HD t W hs)
  have hTl := decV_len t.data.toList
  have hback := hide (@decV_back t.data.toList)
  have hnone := hide (@decV_none t.data.toList)
  generalize decV t.data.toList = T at *
  simp only [VW.v] at E1
  have X0 := hide (heap_alloc_new w (.cells #[.int .i64 x.num, .slice ao x.mem.length cp] tView))
  have HB := hide ((Below.refl w.heap.size w).alloc (Nat.le_refl _) (.cells #[.int .i64 x.num, .slice ao x.mem.length cp] tView))
  clear hM HX HE HD hs
  simp only [VW.v]
  go_enter Try.func4, Try.ntmps4
  go_upto_region 1 with fail
  rename_i Ko hKo
  generalize w.alloc (.cells #[.int .i64 x.num, .slice ao x.mem.length cp] tView) = w1 at *
  refine reg_mono (lk_r1 (by kernel_rfl) _ (v := ⟨_, _, _, _, _, _, _, _, _, _, _, _, _⟩) ⟨rfl, rfl, rfl, rfl, rfl, rfl, rfl, rfl, rfl, rfl, rfl, rfl, rfl, rfl, rfl⟩ (HXX.out w1) ?_)
  intro a2 w2 F2 b2
  refine hKo _ _ ?_
  have D2 := (b2.block _ (heap_lt X0.out)).trans X0.out
  have B2 := HB.out.trans (b2.mono HB.out.size)
  refine wp_seq (reg_mono (lk_r2 (by kernel_rfl) _ F2 rfl D2 (E1.out w2 B2) ?_))
  intro a3 w3 F3 b3
  have D3 := (b3.block _ (heap_lt D2)).trans D2
  have B3 := B2.trans (b3.mono B2.size)
  refine wp_mid (fun a W => ∃ v : Vlk, Flk a v ∧ v.v1 = .string t ∧ v.v2 = .pointer (some ⟨w.heap.size, 0, none⟩) ∧ v.v5 = .bool true ∧ Below w.heap.size w W) ?_ ?_
  · refine wp_seq (reg_mono (lk_r3 (by kernel_rfl) _ F3 rfl ?_))
    intro a4 F4 h22
    by_cases c : x.right
    · rw [if_pos c] at h22
      refine wp_cond_true h22 ?_
      have hg := HDD.out ⟨(codeV x).toArray⟩ w3 (by have := codeV_len c; show (codeV x).toArray.size ≤ _; simp; omega)
      rw [show decV (⟨(codeV x).toArray⟩ : ByteArray).data.toList = (x, 0) by simp [decV_code c]] at hg
      refine wp_seq (reg_mono (lk_r4 (r := (x, 0)) (by kernel_rfl) _ F4 (by rw [if_pos c]) hg ?_))
      intro a5 w5 ro rc F5 N5 b5
      have B5' := B3.trans (b5.mono B3.size)
      have B5 := B5'.alloc B5'.size (.cells #[.int .i64 (x, (0 : Int)).1.num, .slice ro (x, (0 : Int)).1.mem.length rc] tView)
      have P5 := heap_alloc_new w5 (.cells #[.int .i64 (x, (0 : Int)).1.num, .slice ro (x, (0 : Int)).1.mem.length rc] tView)
      have M5 := mems_of_row (World.ownsRow.alloc N5 (.cells #[.int .i64 (x, (0 : Int)).1.num, .slice ro (x, (0 : Int)).1.mem.length rc] tView)) rfl
      have A5 : Below w3.heap.size w3 (w5.alloc (.cells #[.int .i64 (x, (0 : Int)).1.num, .slice ro (x, (0 : Int)).1.mem.length rc] tView)) := b5.alloc b5.size _
      clear N5 B5'
      generalize w5.alloc (.cells #[.int .i64 (x, (0 : Int)).1.num, .slice ro (x, (0 : Int)).1.mem.length rc] tView) = w6 at *
      generalize w5.heap.size = p at *
      have D6 := (A5.block _ (heap_lt D3)).trans D3
      refine wp_seq (reg_mono (lk_r5 (x := x) (by kernel_rfl) _ F5 rfl rfl P5 D6 M5 (HM.out.below B5) (by omega) ?_))
      intro a7 w7 F7 b7
      refine wp_seq (reg_mono (lk_r6 (by kernel_rfl) _ F7 rfl rfl ?_))
      intro a8 F8 h36
      refine wp_cond_false h36 (wp_skip ?_)
      exact ⟨_, F8, rfl, rfl, rfl, B5.trans (b7.mono B5.size)⟩
    · rw [if_neg c] at h22
      refine wp_cond_false h22 (wp_skip ?_)
      exact ⟨_, F4, rfl, rfl, rfl, B3⟩
  clear F2 F3 D2 D3 B2 B3 b2 b3
  rintro a4 w4 ⟨v4, F4, g1, g2, g5, B4⟩
  refine wp_seq (reg_mono (lk_r8 (by kernel_rfl) _ F4 g1 (G1.out w4) ?_))
  intro a5 w5 ro rc F5 N5 b5
  have B5' := B4.trans (b5.mono B4.size)
  have B5 := B5'.alloc B5'.size (.cells #[.int .i64 T.1.num, .slice ro T.1.mem.length rc] tView)
  have P5 := heap_alloc_new w5 (.cells #[.int .i64 T.1.num, .slice ro T.1.mem.length rc] tView)
  have M5 := mems_of_row (World.ownsRow.alloc N5 (.cells #[.int .i64 T.1.num, .slice ro T.1.mem.length rc] tView)) rfl
  have A5 : Below w4.heap.size w4 (w5.alloc (.cells #[.int .i64 T.1.num, .slice ro T.1.mem.length rc] tView)) := b5.alloc b5.size _
  clear N5 B5'
  generalize w5.alloc (.cells #[.int .i64 T.1.num, .slice ro T.1.mem.length rc] tView) = w6 at *
  generalize w5.heap.size = p at *
  refine wp_seq (wp_seq (reg_mono (lk_r9 (by kernel_rfl) _ F5 rfl ?_)))
  intro a7 F7 h43
  by_cases c : T.2 = 0
  · rw [show (T.2 != 0) = false by simp [c]] at h43
    refine wp_cond_false h43 (wp_skip ?_)
    show Code.wp _ _ _ _ _
    obtain ⟨k1, k2⟩ := hback.out c
    have hE := HEE.out T.1 ro rc w6 M5 (by omega)
    rw [if_pos k1, if_pos k1, k2] at hE
    simp only [VW.v] at hE
    rw [show (⟨t.data.toList.toArray⟩ : ByteArray) = t by simp] at hE
    refine wp_seq (reg_mono (lk_r11 (by kernel_rfl) _ F7 rfl P5 hE ?_))
    intro a8 w8 F8 b8
    refine wp_seq (reg_mono (lk_r12 (by kernel_rfl) _ F8 g1 g5 rfl rfl ?_))
    intro a9 F9
    exact wp_ret (lk_ret F9 rfl (B5.trans (b8.mono B5.size)))
  · rw [show (T.2 != 0) = true by rw [bne_iff_ne]; exact c] at h43
    have hz := hnone.out c
    rw [hz] at P5
    refine wp_cond_true h43 (wp_seq (reg_mono (lk_r10 (by kernel_rfl) _ F7 g5 rfl P5 ?_)))
    intro a8 F8
    exact wp_ret (lk_ret F8 rfl B5)
end Go.Proofs.Ytjnbfopipmglgaa
