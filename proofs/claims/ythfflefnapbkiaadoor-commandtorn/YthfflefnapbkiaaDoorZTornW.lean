/-
  CommandTorn, its walk (mktorn.py)
-/
import Derived.Test.YthfflefnapbkiaaDoorZTK
import Derived.Test.YthfflefnapbkiaaDoorZCN
namespace Go.Proofs.YthfflefnapbkiaaDoor
open Go.RowKit

attribute [local go_sem ↓] Go.wp_at_zero Go.wp_at_succ
set_option linter.unusedSimpArgs false
set_option linter.unusedVariables false
theorem ask_torn {x : CM} (hS : x.Small) (j : Nat) (hj : j < (oneC x).length) : askC ((oneC x).take j) = (CM.zero, 2) := by
  have hl := codeC_le hS
  have e := take_torn (codeC x) [] j (by omega) (by rw [oneC_len] at hj; exact hj)
  rw [List.append_nil] at e
  unfold askC
  rw [show takeF ((oneC x).take j) = ([], 0, 2) from e]
  rfl
theorem ask_bit {x : CM} (hS : x.Small) (q : Nat) (h1 : 32 ≤ q) (h2 : q < 8 * (oneC x).length) : askC (flipF (oneC x) q) = (CM.zero, 4) := by
  have hl := codeC_le hS
  rw [oneC_len] at h2
  have e := take_bit (codeC x) q (by omega) h1 h2
  unfold askC
  rw [show takeF (flipF (oneC x) q) = ([], 0, 4) from e]
  rfl
theorem nat_or (k : Int) (h1 : -9223372036854775808 ≤ k) (h2 : k ≤ 9223372036854775807) : (∃ c : Nat, c ≤ 9223372036854775807 ∧ k = (c : Int)) ∨ ∃ c : Nat, c ≤ 9223372036854775807 ∧ k = -(c : Int) - 1 := by
  by_cases h : 0 ≤ k
  · exact .inl ⟨k.toNat, by omega, by omega⟩
  · exact .inr ⟨(-k - 1).toNat, by omega, by omega⟩
set_option maxHeartbeats 4000000 in
set_option maxRecDepth 100000 in
theorem torn_walk (x0 : CM) (hx0 : x0.ok) (cut bit : Int) (c1 : -9223372036854775808 ≤ cut) (c2 : cut ≤ 9223372036854775807) (b1 : -9223372036854775808 ≤ bit) (b2 : bit ≤ 9223372036854775807) (w : World) (hT : Tab w) :
    Calls Tryd.prog 6 #[x0.v, .int .i64 cut, .int .i64 bit] w fun e w' => e = .returned (.bool true) ∧ Below w.heap.size w w' := by
  have HT := hide hT
  have TB : Hid (∀ {W W' : World}, Below w.heap.size w W → Below W.heap.size W W' → Tab W') := fun h1 h2 => HT.out.below (h1.trans (h2.mono h1.size))
  clear hT
  obtain ⟨x, hx⟩ : ∃ x : CM, x = { x0 with node := 0 } := ⟨_, rfl⟩
  have hxo : x.ok := by rw [hx]; exact ⟨hx0.t, hx0.m, hx0.y, hx0.v⟩
  have hxn : x.node = 0 := by rw [hx]
  go_enter Tryd.func6, Tryd.ntmps6
  refine wp_seq (reg_mono (tk_r0 (by kernel_rfl) _ (v := ⟨_, _, _, _, _, _, _, _, _, _, _, _, _, _⟩) ⟨rfl, rfl, rfl, rfl, rfl, rfl, rfl, rfl, rfl, rfl, rfl, rfl, rfl, rfl, rfl, rfl⟩ rfl ?_))
  intro a1 w1 b F1 hbx D1 B1
  refine wp_seq (reg_mono (tk_r1 (by kernel_rfl) _ F1 (fun W hW => examples_any W (TB.out B1 hW)) ?_))
  intro a2 w2 F2 e2
  have D2 := (e2.block _ (heap_lt D1)).trans D1
  have B2 := B1.trans (e2.mono B1.size)
  refine wp_seq (reg_mono (tk_r2 (by kernel_rfl) _ F2 rfl D2 ?_))
  intro a3 w3 F3 D3 t3
  rw [← hx] at D3
  have B3 : Below w.heap.size w w3 := B2.trans (t3.toBelow B2.size fun i hi e => by omega)
  clear hx hx0
  by_cases hr : x.right = true
  · have hS := x.small hr
    have hl := codeC_le hS
    have hl2 := codeC_len x
    have hln := oneC_len x
    refine wp_seq (reg_mono (tk_r3 (by kernel_rfl) _ F3 rfl D3 (fun W hW => preq_good x hr hxn W (TB.out B3 hW)) ?_))
    intro a4 w4 F4 e4
    have B4 := B3.trans (e4.mono B3.size)
    obtain ⟨F, hF⟩ : ∃ F : ByteArray, F = ⟨(oneC x).toArray⟩ := ⟨_, rfl⟩
    have hFl : F.data.toList = oneC x := by rw [hF]
    have hFs : F.size = (oneC x).length := by rw [hF]; show (oneC x).toArray.size = _; simp
    rw [← hF] at F4
    refine wp_seq (wp_seq (reg_mono (tk_r4b (by kernel_rfl) _ F4 rfl rfl (by omega) (by omega) ?_)))
    intro a5 F5
    refine wp_cond_false F5.s28 (wp_skip ?_)
    refine wp_mid (fun a' W => (∃ v, ∃ c : Nat, c ≤ 9223372036854775807 ∧ Ftk a' v ∧ v.v1 = .int .i64 (c : Int) ∧ v.v2 = .int .i64 bit ∧ v.v7 = .bool true ∧ v.v8 = .string F) ∧ W = w4) ?one ?_
    case one =>
      rcases nat_or cut c1 c2 with ⟨c, hc, rfl⟩ | ⟨c, hc, rfl⟩
      · refine wp_seq (reg_mono (tk_r6 (by kernel_rfl) _ F5 rfl (decide_eq_false (show ¬ (c : Int) < 0 by omega)) ?_))
        intro a6 F6
        refine wp_cond_false F6.s35 (wp_skip ?_)
        exact ⟨⟨_, c, hc, F6, rfl, rfl, rfl, rfl⟩, rfl⟩
      · refine wp_seq (reg_mono (tk_r6 (by kernel_rfl) _ F5 rfl (decide_eq_true (show -(c : Int) - 1 < 0 by omega)) ?_))
        intro a6 F6
        refine wp_cond_true F6.s35 ?_
        refine reg_mono (tk_r7 (by kernel_rfl) _ F6 rfl hc ?_)
        intro a7 F7
        exact ⟨⟨_, c, hc, F7, rfl, rfl, rfl, rfl⟩, rfl⟩
    rintro a6 W ⟨⟨v6, c, hc, F6, p1, p2, p7, p8⟩, rfl⟩
    refine wp_mid (fun a' W' => (∃ v, ∃ d : Nat, d ≤ 9223372036854775807 ∧ Ftk a' v ∧ v.v1 = .int .i64 (c : Int) ∧ v.v2 = .int .i64 (d : Int) ∧ v.v7 = .bool true ∧ v.v8 = .string F) ∧ W' = W) ?two ?_
    case two =>
      rcases nat_or bit b1 b2 with ⟨d, hd, rfl⟩ | ⟨d, hd, rfl⟩
      · refine wp_seq (reg_mono (tk_r8 (by kernel_rfl) _ F6 p2 (decide_eq_false (show ¬ (d : Int) < 0 by omega)) ?_))
        intro a7 F7
        refine wp_cond_false F7.s40 (wp_skip ?_)
        exact ⟨⟨_, d, hd, F7, p1, p2, p7, p8⟩, rfl⟩
      · refine wp_seq (reg_mono (tk_r8 (by kernel_rfl) _ F6 p2 (decide_eq_true (show -(d : Int) - 1 < 0 by omega)) ?_))
        intro a7 F7
        refine wp_cond_true F7.s40 ?_
        refine reg_mono (tk_r9 (by kernel_rfl) _ F7 p2 hd ?_)
        intro a8 F8
        exact ⟨⟨_, d, hd, F8, p1, rfl, p7, p8⟩, rfl⟩
    rintro a7 W' ⟨⟨v7, d, hd, F7, p1, p2, p7, p8⟩, rfl⟩
    have hA1 : ∀ W, Tab W → Calls Tryd.prog 17 #[.string (F.extract 0 (c % F.size))] W fun e w' => e = .returned (.tuple #[CM.zero.v, .int .i64 2]) ∧ Below W.heap.size W w' := fun W hT => by
      have hm := Nat.mod_lt c (show 0 < F.size by omega)
      have := pasked (F.extract 0 (c % F.size)) (by rw [ByteArray.size_extract]; omega) W hT
      rw [extract_list, hFl, ask_torn hS _ (by omega)] at this
      exact this
    refine wp_seq (reg_mono (tk_r10 (cn := c) (j := c % F.size) (by kernel_rfl) _ F7 p8 p1 (by omega) (by omega) (by rw [Int.natCast_emod]) (Nat.mod_lt c (by omega)) (fun W hW => hA1 W (TB.out B4 hW)) ?_))
    intro a8 w8 F8 e8
    have B8 := B4.trans (e8.mono B4.size)
    obtain ⟨q, hq, hq1, hq2⟩ : ∃ q : Nat, wrap64 (32 + (d : Int) % (8 * (F.size : Int) - 32)) = (q : Int) ∧ 32 ≤ q ∧ q < 8 * F.size := by
      refine ⟨32 + d % (8 * F.size - 32), ?_, by omega, ?_⟩
      · have e : (8 * (F.size : Int) - 32) = ((8 * F.size - 32 : Nat) : Int) := by omega
        have h := Nat.mod_lt d (show 0 < 8 * F.size - 32 by omega)
        rw [e, ← Int.natCast_emod]
        simp only [wrap64]
        omega
      · have h := Nat.mod_lt d (show 0 < 8 * F.size - 32 by omega)
        omega
    refine wp_seq (reg_mono (tk_r11 (by kernel_rfl) _ F8 p8 p2 (by omega) (by omega) hd hq ?_))
    intro a9 F9
    refine wp_seq (reg_mono (tk_r12 (by kernel_rfl) _ F9 p8 ?_))
    intro a10 w10 cap F10 A10
    refine wp_seq (reg_mono (tk_r13 (by kernel_rfl) _ F10 rfl rfl A10 hq1 hq2 (by omega) ?_))
    intro a11 w11 F11 A11
    have B11 := B8.trans (A11.below.mono B8.size)
    have hA2 : ∀ W, Tab W → Calls Tryd.prog 17 #[.string ⟨(flipF F.data.toList q).toArray⟩] W fun e w' => e = .returned (.tuple #[CM.zero.v, .int .i64 4]) ∧ Below W.heap.size W w' := fun W hT => by
      have := pasked ⟨(flipF F.data.toList q).toArray⟩ (by show (flipF F.data.toList q).toArray.size ≤ _; rw [List.size_toArray, flipF_length, size_listC]; omega) W hT
      rw [show ((⟨(flipF F.data.toList q).toArray⟩ : ByteArray).data.toList) = flipF F.data.toList q by simp, hFl, ask_bit hS q hq1 (by omega)] at this
      rw [hFl]
      exact this
    refine wp_seq (reg_mono (tk_r14 (by kernel_rfl) _ F11 rfl A11 (by rw [flipF_length, size_listC]) (fun W hW => hA2 W (TB.out B11 hW)) ?_))
    intro a12 w12 F12 e12
    refine wp_seq (reg_mono (tk_r15 (by kernel_rfl) _ F12 p7 rfl rfl ?_))
    intro a13 F13
    refine wp_ret ?_
    exact tk_ret F13 rfl ⟨rfl, B11.trans (e12.mono B11.size)⟩
  · rw [Bool.not_eq_true] at hr
    refine wp_seq (reg_mono (tk_r3 (by kernel_rfl) _ F3 rfl D3 (fun W hW => preq_bad x hxo (.inl hr) W) ?_))
    intro a4 w4 F4 e4
    have B4 := B3.trans (e4.mono B3.size)
    refine wp_seq (wp_seq (reg_mono (tk_r4a (by kernel_rfl) _ F4 rfl ?_)))
    intro a5 F5
    refine wp_cond_true F5.s28 ?_
    refine wp_seq (reg_mono (tk_r5 (by kernel_rfl) _ F5 rfl rfl ?_))
    intro a6 F6
    refine wp_ret ?_
    exact tk_ret (R := fun e w' => e = .returned (.bool true) ∧ Below w.heap.size w w') F6 rfl ⟨rfl, B4⟩
end Go.Proofs.YthfflefnapbkiaaDoor
