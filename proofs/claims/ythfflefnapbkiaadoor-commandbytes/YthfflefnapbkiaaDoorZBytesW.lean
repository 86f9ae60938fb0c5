/-
  CommandBytes, its walk (mkbytes.py)
-/
import Derived.Test.YthfflefnapbkiaaDoorZBY
import Derived.Test.YthfflefnapbkiaaDoorZCN
import Derived.Test.YthfflefnapbkiaaDoorZHJ
import Derived.Test.YthfflefnapbkiaaDoorZHK
import Derived.Test.YthfflefnapbkiaaDoorZCA
namespace Go.Proofs.YthfflefnapbkiaaDoor
open Go.RowKit

attribute [local go_sem ↓] Go.wp_at_zero Go.wp_at_succ
set_option linter.unusedSimpArgs false
set_option linter.unusedVariables false
set_option maxHeartbeats 4000000 in
set_option maxRecDepth 100000 in
theorem bytes_walk (x : CM) (hx : x.ok) (s : ByteArray) (h63 : s.size ≤ 9223372036854775807) (w : World) (hT : Tab w) :
    Calls Tryd.prog 3 #[x.v, .string s] w fun e w' => e = .returned (.bool true) ∧ Below w.heap.size w w' := by
  have HT := hide hT
  have TB : Hid (∀ {W W' : World}, Below w.heap.size w W → Below W.heap.size W W' → Tab W') := fun h1 h2 => HT.out.below (h1.trans (h2.mono h1.size))
  clear hT
  obtain ⟨er, hE, hz⟩ : ∃ (er : Int), (∀ W, Calls Tryd.prog 8 #[x.v] W fun e w' => e = .returned (.tuple #[.string (rencP x), .int .i64 er]) ∧ Below W.heap.size W w') ∧ (er = if x.right then 0 else 1) := by
    unfold rencP
    cases hr : x.right with
    | true => exact ⟨0, penc_good x hr, rfl⟩
    | false => exact ⟨1, penc_bad x hx hr, rfl⟩
  have hE2 := fun W => renc x hx W
  have hD := fun W => pdec s h63 W
  have hD2 := fun W => rdec s h63 W
  have hR1 := fun W => pright x hx W
  have hR2 := fun W => rright x hx W
  have hW1 : ∀ W, Calls Tryd.prog 14 #[.string s] W fun e w' => e = .returned (.bool (wordB s)) ∧ Below W.heap.size W w' := fun W => (pword s h63 W).mono fun e w' ⟨h1, h2⟩ => ⟨h1, h2 ▸ Below.refl _ _⟩
  have hW2 : ∀ W, Calls Tryd.prog 15 #[.string s] W fun e w' => e = .returned (.bool (wordB s)) ∧ Below W.heap.size W w' := fun W => (rword s h63 W).mono fun e w' ⟨h1, h2⟩ => ⟨h1, h2 ▸ Below.refl _ _⟩
  generalize wordB s = wb at *
  generalize rencP x = T at *
  generalize decC s.data.toList = D at *
  obtain ⟨d, dr⟩ := D
  simp only at hD hD2
  generalize x.right = rr at *
  go_enter Tryd.func3, Tryd.ntmps3
  refine wp_seq (reg_mono (by_r0 (x := x) (by kernel_rfl) _ (v := ⟨_, _, _, _, _, _, _, _, _, _, _, _, _⟩) ⟨rfl, rfl, rfl, rfl, rfl, rfl, rfl, rfl, rfl, rfl, rfl, rfl, rfl, rfl, rfl⟩ rfl ?_))
  intro a1 w1 b F1 D1 B1
  refine wp_seq (reg_mono (by_r1 (by kernel_rfl) _ F1 (fun W hW => examples_any W (TB.out B1 hW)) ?_))
  intro a2 w2 F2 b2
  have D2 := (b2.block _ (heap_lt D1)).trans D1
  have B2 := B1.trans (b2.mono B1.size)
  refine wp_seq (reg_mono (by_r2 (by kernel_rfl) _ F2 rfl D2 (fun W _ => hE W) ?_))
  intro a3 w3 F3 b3
  have D3 := (b3.block _ (heap_lt D2)).trans D2
  have B3 := B2.trans (b3.mono B2.size)
  refine wp_seq (reg_mono (by_r3 (by kernel_rfl) _ F3 rfl D3 (fun W _ => hE2 W) ?_))
  intro a4 w4 F4 b4
  have D4 := (b4.block _ (heap_lt D3)).trans D3
  have B4 := B3.trans (b4.mono B3.size)
  refine wp_seq (reg_mono (by_r4 (by kernel_rfl) _ F4 rfl (fun W _ => hD W) ?_))
  intro a5 w5 b1 F5 X5 c5
  have D5 := (c5.block _ (heap_lt D4)).trans D4
  have B5 := B4.trans (c5.mono B4.size)
  refine wp_seq (reg_mono (by_r5 (by kernel_rfl) _ F5 rfl (fun W _ => hD2 W) ?_))
  intro a6 w6 b2' F6 Y6 c6
  have D6 := (c6.block _ (heap_lt D5)).trans D5
  have X6 := (c6.block _ (heap_lt X5)).trans X5
  have B6 := B5.trans (c6.mono B5.size)
  obtain ⟨xk, xt, xm, xs, xy, xv, xn, xo, xa⟩ := x
  obtain ⟨dk, dt, dm, ds, dy, dv, dn, doo, da⟩ := d
  cases rr with
  | true =>
    obtain rfl : er = 0 := hz
    refine wp_seq (reg_mono (by_r6t (by kernel_rfl) _ F6 rfl rfl rfl rfl rfl rfl rfl rfl rfl rfl rfl D6 X6 Y6 (fun W _ => hR1 W) (fun W _ => hR2 W) (fun W _ => hW1 W) (fun W _ => hW2 W) ?_))
    intro a7 w7 F7 b7
    refine wp_ret ?_
    exact by_ret (R := fun e w' => e = .returned (.bool true) ∧ Below w.heap.size w w') F7 rfl ⟨rfl, B6.trans (b7.mono B6.size)⟩
  | false =>
    obtain rfl : er = 1 := hz
    refine wp_seq (reg_mono (by_r6f (by kernel_rfl) _ F6 rfl rfl rfl rfl rfl rfl rfl rfl rfl rfl rfl D6 X6 Y6 (fun W _ => hR1 W) (fun W _ => hR2 W) (fun W _ => hW1 W) (fun W _ => hW2 W) ?_))
    intro a7 w7 F7 b7
    refine wp_ret ?_
    exact by_ret (R := fun e w' => e = .returned (.bool true) ∧ Below w.heap.size w w') F7 rfl ⟨rfl, B6.trans (b7.mono B6.size)⟩
end Go.Proofs.YthfflefnapbkiaaDoor
