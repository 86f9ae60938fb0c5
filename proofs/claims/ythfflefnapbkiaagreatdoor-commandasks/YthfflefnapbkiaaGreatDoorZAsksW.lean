/-
  CommandAsks, its walk (mkasks.py)
-/
import Derived.Test.YthfflefnapbkiaaGreatDoorZAK
import Derived.Test.YthfflefnapbkiaaGreatDoorZCN
import Derived.Test.YthfflefnapbkiaaGreatDoorZHL
namespace Go.Proofs.YthfflefnapbkiaaGreatDoor
open Go.RowKit

attribute [local go_sem ↓] Go.wp_at_zero Go.wp_at_succ
set_option linter.unusedSimpArgs false
set_option linter.unusedVariables false
set_option maxHeartbeats 4000000 in
set_option maxRecDepth 100000 in
theorem asks_walk (x : CM) (hx : x.ok) (s : ByteArray) (h63 : s.size ≤ 9223372036854775807) (w : World) (hT : Tab w) :
    Calls Tryz.prog 3 #[x.v, .string s] w fun e w' => e = .returned (.bool true) ∧ Below w.heap.size w w' := by
  have HT := hide hT
  have TB : Hid (∀ {W W' : World}, Below w.heap.size w W → Below W.heap.size W W' → Tab W') := fun h1 h2 => HT.out.below (h1.trans (h2.mono h1.size))
  clear hT
  obtain ⟨er, hE, hz⟩ : ∃ (er : Int), (∀ W, Tab W → Calls Tryz.prog 6 #[x.v] W fun e w' => e = .returned (.tuple #[.string (reqP x), .int .i64 er]) ∧ Below W.heap.size W w') ∧ (er = if x.right && !(x.node != 0) then 0 else 1) := by
    unfold reqP
    by_cases hr : x.right = true ∧ x.node = 0
    · rw [if_pos (by rw [hr.1, hr.2]; rfl), if_pos (by rw [hr.1, hr.2]; rfl)]
      exact ⟨0, fun W hT => preq_good x hr.1 hr.2 W hT, rfl⟩
    · have hn : ¬ (x.right && !(x.node != 0)) = true := fun h => hr (by simpa using h)
      rw [if_neg hn, if_neg hn]
      refine ⟨1, fun W _ => preq_bad x hx ?_ W, rfl⟩
      by_cases h1 : x.right = true
      · exact .inr fun h2 => hr ⟨h1, h2⟩
      · exact .inl (Bool.not_eq_true _ ▸ h1)
  have hE2 := fun W => rreq x hx W
  have hD := fun W hT => pasked s h63 W hT
  have hD2 := fun W => rasked s h63 W
  generalize reqP x = T at *
  generalize askC s.data.toList = D at *
  obtain ⟨d, dr⟩ := D
  simp only at hD hD2
  generalize (x.right && !(x.node != 0)) = rr at *
  go_enter Tryz.func3, Tryz.ntmps3
  refine wp_seq (reg_mono (ak_r0 (x := x) (by kernel_rfl) _ (v := ⟨_, _, _, _, _, _, _, _, _, _, _, _, _⟩) ⟨rfl, rfl, rfl, rfl, rfl, rfl, rfl, rfl, rfl, rfl, rfl, rfl, rfl, rfl, rfl⟩ rfl ?_))
  intro a1 w1 b F1 D1 B1
  refine wp_seq (reg_mono (ak_r1 (by kernel_rfl) _ F1 (fun W hW => examples_any W (TB.out B1 hW)) ?_))
  intro a2 w2 F2 b2
  have D2 := (b2.block _ (heap_lt D1)).trans D1
  have B2 := B1.trans (b2.mono B1.size)
  refine wp_seq (reg_mono (ak_r2 (by kernel_rfl) _ F2 rfl D2 (fun W hW => hE W (TB.out B2 hW)) ?_))
  intro a3 w3 F3 b3
  have D3 := (b3.block _ (heap_lt D2)).trans D2
  have B3 := B2.trans (b3.mono B2.size)
  refine wp_seq (reg_mono (ak_r3 (by kernel_rfl) _ F3 rfl D3 (fun W _ => hE2 W) ?_))
  intro a4 w4 F4 b4
  have B4 := B3.trans (b4.mono B3.size)
  refine wp_seq (reg_mono (ak_r4 (by kernel_rfl) _ F4 rfl (fun W hW => hD W (TB.out B4 hW)) ?_))
  intro a5 w5 b1 F5 X5 c5
  have B5 := B4.trans (c5.mono B4.size)
  refine wp_seq (reg_mono (ak_r5 (by kernel_rfl) _ F5 rfl (fun W _ => hD2 W) ?_))
  intro a6 w6 b2' F6 Y6 c6
  have X6 := (c6.block _ (heap_lt X5)).trans X5
  have B6 := B5.trans (c6.mono B5.size)
  cases rr with
  | true =>
    obtain rfl : er = 0 := hz
    refine wp_seq (reg_mono (ak_r6t (by kernel_rfl) _ F6 rfl rfl rfl rfl rfl rfl rfl rfl rfl X6 Y6 ?_))
    intro a7 F7
    refine wp_ret ?_
    exact ak_ret (R := fun e w' => e = .returned (.bool true) ∧ Below w.heap.size w w') F7 rfl ⟨rfl, B6⟩
  | false =>
    obtain rfl : er = 1 := hz
    refine wp_seq (reg_mono (ak_r6f (by kernel_rfl) _ F6 rfl rfl rfl rfl rfl rfl rfl rfl rfl X6 Y6 ?_))
    intro a7 F7
    refine wp_ret ?_
    exact ak_ret (R := fun e w' => e = .returned (.bool true) ∧ Below w.heap.size w w') F7 rfl ⟨rfl, B6⟩
end Go.Proofs.YthfflefnapbkiaaGreatDoor
