/-
  ViewBytes, as it runs, of what the program answers (mklb.py).
-/
import Derived.Test.YtjnbfopipmglgaaZLB1
namespace Go.Proofs.Ytjnbfopipmglgaa
open Go.RowKit

attribute [local go_sem ↓] Go.wp_at_zero Go.wp_at_succ
set_option linter.unusedSimpArgs false
set_option linter.unusedVariables false
theorem lb_ret {w W : World} {a : Act} {v : Vlb} {r : Bool} (hF : Flb a v) (h4 : v.v4 = .bool r) (hB : Below w.heap.size w W) :
    bodyPost Try.prog Try.f3 (fun e w' => e = .returned (.bool r) ∧ Below w.heap.size w w') .ret a W := by
  have g4 := slot_get (hF.s4.trans h4)
  refine bodyPost_ret (v := .bool r) ?_ hF.defers ⟨rfl, hB⟩
  simp [results, Try.results3, go_sem, g4]
set_option maxHeartbeats 16000000 in
set_option maxRecDepth 100000 in
theorem bytes_walk (HX : ExSays) (HE : EncodeSays) (HD : DecodeSays) (RE : EncSays) (RD : DecSays) (x : VW) (t : ByteArray) (ao : Option Addr) (cp : Nat) (w : World) (hM : MemsAt w ao x.mem) (hl : x.mem.length ≤ 4611686018427387903) (hs : t.size ≤ 9223372036854775807) :
    Calls Try.prog 3 #[x.v ao cp, .string t] w fun e w' => e = .returned (.bool true) ∧ Below w.heap.size w w' := by
  have HXX := hide HX
  have HM := hide hM
  have E1 := hide (fun W (b : Below w.heap.size w W) => HE x ao cp W (hM.below b) hl)
  have E2 := hide (fun W (b : Below w.heap.size w W) => rencV RE x ao cp W (hM.below b))
  have G1 := hide (fun W => HD t W hs)
  have G2 := hide (fun W => rdecV RD t W hs)
  have hTl := decV_len t.data.toList
  generalize decV t.data.toList = T at *
  simp only [VW.v] at E1 E2
  have X0 := hide (heap_alloc_new w (.cells #[.int .i64 x.num, .slice ao x.mem.length cp] tView))
  have HB := hide ((Below.refl w.heap.size w).alloc (Nat.le_refl _) (.cells #[.int .i64 x.num, .slice ao x.mem.length cp] tView))
  clear hM HX HE HD RE RD hs
  simp only [VW.v]
  go_enter Try.func3, Try.ntmps3
  go_upto_region 1 with fail
  rename_i Ko hKo
  generalize w.alloc (.cells #[.int .i64 x.num, .slice ao x.mem.length cp] tView) = w1 at *
  refine reg_mono (lb_r1 (by kernel_rfl) _ (v := ⟨_, _, _, _, _, _, _, _, _, _, _, _, _⟩) ⟨rfl, rfl, rfl, rfl, rfl, rfl, rfl, rfl, rfl, rfl, rfl, rfl, rfl, rfl, rfl⟩ (HXX.out w1) ?_)
  intro a2 w2 F2 b2
  refine hKo _ _ ?_
  have D2 := (b2.block _ (heap_lt X0.out)).trans X0.out
  have B2 := HB.out.trans (b2.mono HB.out.size)
  refine wp_seq (reg_mono (lb_r2 (by kernel_rfl) _ F2 rfl D2 (E1.out w2 B2) ?_))
  intro a3 w3 F3 b3
  have D3 := (b3.block _ (heap_lt D2)).trans D2
  have B3 := B2.trans (b3.mono B2.size)
  refine wp_seq (reg_mono (lb_r3 (by kernel_rfl) _ F3 rfl D3 (E2.out w3 B3) ?_))
  intro a4 w4 F4 b4
  have B4 := B3.trans (b4.mono B3.size)
  refine wp_seq (reg_mono (lb_r4 (by kernel_rfl) _ F4 rfl (G1.out w4) ?_))
  intro a5 w5 ro rc F5 N5 b5
  have B5' := B4.trans (b5.mono B4.size)
  have B5 := B5'.alloc B5'.size (.cells #[.int .i64 T.1.num, .slice ro T.1.mem.length rc] tView)
  have P5 := heap_alloc_new w5 (.cells #[.int .i64 T.1.num, .slice ro T.1.mem.length rc] tView)
  have M5 := mems_of_row (World.ownsRow.alloc N5 (.cells #[.int .i64 T.1.num, .slice ro T.1.mem.length rc] tView)) rfl
  have A5 : Below w4.heap.size w4 (w5.alloc (.cells #[.int .i64 T.1.num, .slice ro T.1.mem.length rc] tView)) := b5.alloc b5.size _
  clear N5 B5'
  generalize w5.alloc (.cells #[.int .i64 T.1.num, .slice ro T.1.mem.length rc] tView) = w6 at *
  generalize w5.heap.size = p at *
  refine wp_seq (reg_mono (lb_r5 (by kernel_rfl) _ F5 rfl (G2.out w6) ?_))
  intro a7 w7 so sc F7 N7 b7
  have B7' := B5.trans (b7.mono B5.size)
  have B7 := B7'.alloc B7'.size (.cells #[.int .i64 T.1.num, .slice so T.1.mem.length sc] tView)
  have P7 := heap_alloc_new w7 (.cells #[.int .i64 T.1.num, .slice so T.1.mem.length sc] tView)
  have M7 := mems_of_row (World.ownsRow.alloc N7 (.cells #[.int .i64 T.1.num, .slice so T.1.mem.length sc] tView)) rfl
  have A7 : Below w6.heap.size w6 (w7.alloc (.cells #[.int .i64 T.1.num, .slice so T.1.mem.length sc] tView)) := b7.alloc b7.size _
  clear N7 B7'
  generalize w7.alloc (.cells #[.int .i64 T.1.num, .slice so T.1.mem.length sc] tView) = w8 at *
  generalize w7.heap.size = q at *
  have P8 := (A7.block _ (heap_lt P5)).trans P5
  refine wp_seq (reg_mono (lb_r6 (x := T.1) (by kernel_rfl) _ F7 rfl rfl P8 P7 (M5.below A7) M7 (by omega) ?_))
  intro a9 w9 F9 b9
  have B9 := B7.trans (b9.mono B7.size)
  by_cases c : x.right
  · refine wp_seq (reg_mono (lb_r7 (by kernel_rfl) _ F9 rfl rfl (by simp [c]) rfl (by simp [c]) rfl rfl rfl ?_))
    intro a10 F10
    exact wp_ret (lb_ret F10 rfl B9)
  · refine wp_seq (reg_mono (lb_r7n (by kernel_rfl) _ F9 rfl rfl (by simp [c]) rfl (by simp [c]) rfl rfl rfl ?_))
    intro a10 F10
    exact wp_ret (lb_ret F10 rfl B9)
end Go.Proofs.Ytjnbfopipmglgaa
