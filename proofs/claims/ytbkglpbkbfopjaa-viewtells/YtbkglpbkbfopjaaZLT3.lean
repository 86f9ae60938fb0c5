/-
  ViewTells, as it runs, of what the program answers (mklt.py).
-/
import Derived.Test.YtbkglpbkbfopjaaZLT2
namespace Go.Proofs.Ytbkglpbkbfopjaa
open Go.RowKit

attribute [local go_sem ↓] Go.wp_at_zero Go.wp_at_succ
set_option linter.unusedSimpArgs false
set_option linter.unusedVariables false
theorem lt_ret {w W : World} {a : Act} {v : Vlt} {r : Bool} (hF : Flt a v) (h6 : v.v6 = .bool r) (hB : Below w.heap.size w W) :
    bodyPost Try.prog Try.f3 (fun e w' => e = .returned (.bool r) ∧ Below w.heap.size w w') .ret a W := by
  have g6 := slot_get (hF.s6.trans h6)
  refine bodyPost_ret (v := .bool r) ?_ hF.defers ⟨rfl, hB⟩
  simp [results, Try.results3, go_sem, g6]
set_option maxHeartbeats 16000000 in
set_option maxRecDepth 100000 in
theorem tells_walk (HX : ExSays) (HF : FirstSays) (HRm : MemberSays) (HR : RightSays) (HJ : MajSays) (HH : HasSays) (HC : CommonSays) (x y : VW) (m : MB) (ao bo : Option Addr) (cp cq : Nat) (w : World) (hM : MemsAt w ao x.mem) (hN : MemsAt w bo y.mem) (hl : x.mem.length ≤ 4611686018427387903) (hl2 : y.mem.length ≤ 4611686018427387903) :
    Calls Try.prog 3 #[x.v ao cp, y.v bo cq, m.v] w fun e w' => e = .returned (.bool true) ∧ Below w.heap.size w w' := by
  have HXX := hide HX
  have HFF := hide HF
  have HM := hide hM
  have HMN := hide hN
  have H0 := hide HRm
  have H2 := hide HR
  have H3 := hide HJ
  have H5 := hide HH
  have H7 := hide HC
  have X0 := heap_alloc_new w (.cells #[.int .i64 x.num, .slice ao x.mem.length cp] tView)
  have s1 : (w.alloc (.cells #[.int .i64 x.num, .slice ao x.mem.length cp] tView)).heap.size = w.heap.size + 1 := by simp
  have X1 := heap_alloc_new (w.alloc (.cells #[.int .i64 x.num, .slice ao x.mem.length cp] tView)) (.cells #[.int .i64 y.num, .slice bo y.mem.length cq] tView)
  have s2 : ((w.alloc (.cells #[.int .i64 x.num, .slice ao x.mem.length cp] tView)).alloc (.cells #[.int .i64 y.num, .slice bo y.mem.length cq] tView)).heap.size = w.heap.size + 1 + 1 := by simp
  have X2 := heap_alloc_new ((w.alloc (.cells #[.int .i64 x.num, .slice ao x.mem.length cp] tView)).alloc (.cells #[.int .i64 y.num, .slice bo y.mem.length cq] tView)) (.cells #[.int .i64 m.node, .int .i64 m.life] tMember)
  have Y0 := hide (box_alloc (box_alloc X0 (.cells #[.int .i64 y.num, .slice bo y.mem.length cq] tView)) (.cells #[.int .i64 m.node, .int .i64 m.life] tMember))
  rw [s1] at X1
  have Y1 := hide (box_alloc X1 (.cells #[.int .i64 m.node, .int .i64 m.life] tMember))
  rw [s2] at X2
  have Y2 := hide X2
  have HB := hide ((((Below.refl w.heap.size w).alloc (Nat.le_refl _) (.cells #[.int .i64 x.num, .slice ao x.mem.length cp] tView)).alloc (by simp) (.cells #[.int .i64 y.num, .slice bo y.mem.length cq] tView)).alloc (by simp; omega) (.cells #[.int .i64 m.node, .int .i64 m.life] tMember))
  clear hM hN HX HF HRm HR HJ HH HC X0 X1 X2 s1 s2
  simp only [VW.v, MB.v]
  go_enter Try.func3, Try.ntmps3
  go_upto_region 1 with fail
  rename_i Ko hKo
  generalize ((w.alloc (.cells #[.int .i64 x.num, .slice ao x.mem.length cp] tView)).alloc (.cells #[.int .i64 y.num, .slice bo y.mem.length cq] tView)).alloc (.cells #[.int .i64 m.node, .int .i64 m.life] tMember) = w1 at *
  refine reg_mono (lt_r1 (by kernel_rfl) _ (v := ⟨_, _, _, _, _, _, _, _⟩) ⟨rfl, rfl, rfl, rfl, rfl, rfl, rfl, rfl, rfl, rfl⟩ (HXX.out w1) ?_)
  intro a2 w2 F2 b2
  refine hKo _ _ ?_
  have D2 := (b2.block _ (heap_lt Y0.out)).trans Y0.out
  have E2 := (b2.block _ (heap_lt Y1.out)).trans Y1.out
  have G2 := (b2.block _ (heap_lt Y2.out)).trans Y2.out
  have B2 := HB.out.trans (b2.mono HB.out.size)
  have hE := HFF.out x ao cp w2 (HM.out.below B2) hl
  simp only [VW.v, MB.v] at hE
  refine wp_seq (reg_mono (lt_r2 (by kernel_rfl) _ F2 rfl D2 hE ?_))
  intro a3 w3 F3 b3
  have D3 := box_alloc ((b3.block _ (heap_lt D2)).trans D2) (.cells #[.int .i64 (firstOf x).node, .int .i64 (firstOf x).life] tMember)
  have E3 := box_alloc ((b3.block _ (heap_lt E2)).trans E2) (.cells #[.int .i64 (firstOf x).node, .int .i64 (firstOf x).life] tMember)
  have G3 := box_alloc ((b3.block _ (heap_lt G2)).trans G2) (.cells #[.int .i64 (firstOf x).node, .int .i64 (firstOf x).life] tMember)
  have P3 := heap_alloc_new w3 (.cells #[.int .i64 (firstOf x).node, .int .i64 (firstOf x).life] tMember)
  have B3' := B2.trans (b3.mono B2.size)
  have B3 := B3'.alloc B3'.size (.cells #[.int .i64 (firstOf x).node, .int .i64 (firstOf x).life] tMember)
  generalize w3.alloc (.cells #[.int .i64 (firstOf x).node, .int .i64 (firstOf x).life] tMember) = w4 at *
  generalize w3.heap.size = p at *
  have hR := rright x ao cp w4 (HM.out.below B3)
  simp only [VW.v] at hR
  refine wp_seq (reg_mono (lt_r3 (by kernel_rfl) _ F3 rfl D3 hR ?_))
  intro a5 w5 F5 b5
  have D5 := (b5.block _ (heap_lt D3)).trans D3
  have E5 := (b5.block _ (heap_lt E3)).trans E3
  have G5 := (b5.block _ (heap_lt G3)).trans G3
  have P5 := (b5.block _ (heap_lt P3)).trans P3
  have B5 := B3.trans (b5.mono B3.size)
  refine wp_seq ?_
  refine wp_mid (fun a W => Flt a ⟨.pointer (some ⟨w.heap.size, 0, none⟩), .pointer (some ⟨w.heap.size + 1, 0, none⟩), .pointer (some ⟨w.heap.size + 1 + 1, 0, none⟩), .bool false, .bool true, .pointer (some ⟨p, 0, none⟩), .int .i64 (if x.right then 0 else 1), .bool (decide x.right)⟩ ∧ a.tmps.getD 44 undef = .bool false ∧ Below w5.heap.size w5 W) ?_ ?_
  · by_cases c : x.right
    · have hn1 : 0 < x.mem.length := c.2.2.1
      obtain ⟨b, off, hao, _, y0, y1⟩ := HM.out.below B5 0 hn1
      have hf : firstOf x = x.mem[0] := by
        unfold firstOf
        rw [if_pos c]
        exact head_at x.mem hn1
      rw [hf] at P5
      refine lt_r4 (b := b) (off := off) (by kernel_rfl) _ F5 rfl rfl (by rw [if_pos c]) (by rw [decide_eq_true c]) (by rw [← hao]; exact D5) P5 hn1 (by simpa using y0) (by simpa using y1) ?_
      intro a6 w6 F6 h44 b6
      exact ⟨F6, h44, b6⟩
    · have hf : firstOf x = ⟨0, 0⟩ := by unfold firstOf; rw [if_neg c]
      rw [hf] at P5
      refine lt_r4n (by kernel_rfl) _ F5 rfl (by rw [if_neg c]) (by rw [decide_eq_false c]) P5 ?_
      intro a6 w6 F6 h44 b6
      exact ⟨F6, h44, b6⟩
  rintro a6 w6 ⟨F6, h44, b6⟩
  refine wp_cond_false h44 (wp_skip ?_)
  show Code.wp _ _ _ _ _
  have D6 := (b6.block _ (heap_lt D5)).trans D5
  have E6 := (b6.block _ (heap_lt E5)).trans E5
  have G6 := (b6.block _ (heap_lt G5)).trans G5
  have B6 := B5.trans (b6.mono B5.size)
  refine wp_seq (reg_mono (lt_r6 (by kernel_rfl) _ F6 rfl rfl rfl rfl rfl D6 E6 G6 (fun W b => H0.out m W) (fun W b => rmember m W) (fun W b => H2.out x ao cp W (HM.out.below (B6.trans (b.mono B6.size))) hl) (fun W b => H3.out x ao cp W hl) (fun W b => rmajority x ao cp W (by omega)) (fun W b => H5.out x m ao cp W (HM.out.below (B6.trans (b.mono B6.size))) hl) (fun W b => rhas x m ao cp W (HM.out.below (B6.trans (b.mono B6.size))) (by omega)) (fun W b => H7.out x y ao bo cp cq W (HM.out.below (B6.trans (b.mono B6.size))) (HMN.out.below (B6.trans (b.mono B6.size))) hl hl2) (fun W b => rcommon x y ao bo cp cq W (HM.out.below (B6.trans (b.mono B6.size))) (HMN.out.below (B6.trans (b.mono B6.size))) (by omega) (by omega)) ?_))
  intro a7 w7 F7 b7
  exact wp_ret (lt_ret F7 rfl (B6.trans (b7.mono B6.size)))
end Go.Proofs.Ytbkglpbkbfopjaa
