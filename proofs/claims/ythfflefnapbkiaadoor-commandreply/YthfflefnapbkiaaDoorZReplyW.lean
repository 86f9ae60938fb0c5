/-
  CommandReply, its walk (mkreply.py)
-/
import Derived.Test.YthfflefnapbkiaaDoorZRK
import Derived.Test.YthfflefnapbkiaaDoorZCN
namespace Go.Proofs.YthfflefnapbkiaaDoor
open Go.RowKit

attribute [local go_sem ↓] Go.wp_at_zero Go.wp_at_succ
set_option linter.unusedSimpArgs false
set_option linter.unusedVariables false
theorem list_backR {l : List UInt8} : (⟨l.toArray⟩ : ByteArray).data.toList = l := by simp
theorem mk_textR (s : ByteArray) {l : List UInt8} (h : l = s.data.toList) : (⟨l.toArray⟩ : ByteArray) = s := by rw [h]
/-- What lasts from one of the law's pieces to the next. -/
def RkS (s : ByteArray) (w : World) (a : Act) (W : World) : Prop := (∃ v, Frk a v ∧ v.v2 = .string s ∧ v.v7 = .bool true) ∧ Below w.heap.size w W
set_option maxHeartbeats 4000000 in
set_option maxRecDepth 100000 in
theorem reply_walk (ask : Int) (r : RP) (ao : Option Addr) (cap : Nat) {w : World} (hat : RecsC w ao r.recs) (hok : ∀ x ∈ r.recs, x.ok) (hlen : r.recs.length ≤ 9223372036854775807) (s : ByteArray) (h63 : s.size ≤ 9223372036854775807) (hT : Tab w) :
    Calls Tryd.prog 5 #[.int .i64 ask, r.v ao cap, .string s] w fun e w' => e = .returned (.bool true) ∧ Below w.heap.size w w' := by
  have HT := hide hT
  have TB : Hid (∀ {W W' : World}, Below w.heap.size w W → Below W.heap.size W W' → Tab W') := fun h1 h2 => HT.out.below (h1.trans (h2.mono h1.size))
  have RB' : Hid (∀ {W W' : World}, Below w.heap.size w W → Below W.heap.size W W' → RecsC W' ao r.recs) := fun h1 h2 => hat.below (h1.trans (h2.mono h1.size)) (Nat.le_refl _)
  clear hT
  obtain ⟨T, er, hE, hdec⟩ : ∃ (T : ByteArray) (er : Int), (∀ W, Tab W → RecsC W ao r.recs → Calls Tryd.prog 18 #[.int .i64 ask, r.v ao cap] W fun e w' => e = .returned (.tuple #[.string T, .int .i64 er]) ∧ Below W.heap.size W w') ∧ ((er == 0) = true → ∀ W, Tab W → Calls Tryd.prog 19 #[.string T] W (Gave W ask r 0)) := by
    by_cases hr : askOk ask ∧ r.right
    · refine ⟨_, 0, fun W hT h => pansw_good ask r hr.1 hr.2 ao cap W hT h hok, fun _ W hT => ?_⟩
      have hl := codeP_le (a := ask) hr.2
      have := panswered ⟨(oneP ask r).toArray⟩ (by show (oneP ask r).toArray.size ≤ _; rw [List.size_toArray]; unfold oneP; rw [frameB_length]; omega) W hT
      rw [list_backR, answP_one hr.1 hr.2] at this
      exact this
    · exact ⟨_, 1, fun W _ h => pansw_bad ask r hr ao cap W h hok hlen, fun h => by cases h⟩
  have hA := fun W hT => panswered s h63 W hT
  have hAb := @answP_back s.data.toList
  have hAn := @answP_none s.data.toList
  generalize answP s.data.toList = A at *
  obtain ⟨m, y, yr⟩ := A
  simp only at hA hAb hAn
  have hl0 := hlen
  go_enter Tryd.func5, Tryd.ntmps5
  refine wp_seq (reg_mono (rk_r0 (by kernel_rfl) _ (v := ⟨_, _, _, _, _, _, _, _, _, _, _, _, _, _, _, _, _, _, _, _⟩) ⟨rfl, rfl, rfl, rfl, rfl, rfl, rfl, rfl, rfl, rfl, rfl, rfl, rfl, rfl, rfl, rfl, rfl, rfl, rfl, rfl, rfl, rfl⟩ rfl ?_))
  intro a1 w1 b F1 D1 B1
  refine wp_seq (reg_mono (rk_r1 (by kernel_rfl) _ F1 (fun W hW => examples_any W (TB.out B1 hW)) ?_))
  intro a2 w2 F2 b2
  have D2 := (b2.block _ (heap_lt D1)).trans D1
  have B2 := B1.trans (b2.mono B1.size)
  refine wp_seq (reg_mono (rk_r2 (by kernel_rfl) _ F2 rfl rfl D2 (fun W hW => hE W (TB.out B2 hW) (RB'.out B2 hW)) ?_))
  intro a3 w3 F3 b3
  have D3 := (b3.block _ (heap_lt D2)).trans D2
  have B3 := B2.trans (b3.mono B2.size)
  refine wp_mid (RkS s w) ?one ?_
  case one =>
    obtain ⟨bb, hbb⟩ : ∃ bb, (er == 0) = bb := ⟨_, rfl⟩
    refine wp_seq (reg_mono (rk_r3 (by kernel_rfl) _ F3 rfl hbb ?_))
    intro a4 F4
    cases bb with
    | true =>
      refine wp_cond_true F4.s27 ?_
      refine wp_seq (reg_mono (rk_r4 (aa := ask) (cd := r.code) (nn := r.n) (er := 0) (ll := r.recs.length) (xs := rcCells r.recs) (by kernel_rfl) _ F4 rfl (fun W hW => (hdec hbb W (TB.out B3 hW)).mono fun e w' h => h) ?_))
      intro a5 w5 b5 ro rc F5 X5 row5 c5
      have D5 := (c5.block _ (heap_lt D3)).trans D3
      have B5 := B3.trans (c5.mono B3.size)
      have R5 := recs_of_ownC row5
      refine wp_seq (reg_mono (rk_r5 (by kernel_rfl) _ F5 rfl rfl X5 D5 (fun W hW => preplies r ro ao rc cap W hl0 (R5.below hW (Nat.le_refl _)) (RB'.out B5 hW)) ?_))
      intro a6 w6 F6 b6
      refine wp_seq (reg_mono (rk_r6 (by kernel_rfl) _ F6 rfl rfl rfl rfl ?_))
      intro a7 F7
      refine wp_cond_false F7.s47 (wp_skip ?_)
      exact ⟨⟨_, F7, rfl, rfl⟩, B5.trans (b6.mono B5.size)⟩
    | false =>
      refine wp_cond_false F4.s27 (wp_skip ?_)
      exact ⟨⟨_, F4, rfl, rfl⟩, B3⟩
  rintro a5 w5 ⟨⟨v5, F5, p2, p7⟩, B5⟩
  refine wp_seq (reg_mono (rk_r8 (aa := m) (cd := y.code) (nn := y.n) (er := yr) (ll := y.recs.length) (xs := rcCells y.recs) (by kernel_rfl) _ F5 p2 (fun W hW => (hA W (TB.out B5 hW)).mono fun e w' h => h) ?_))
  intro a6 w6 b6 ro rc F6 X6 row6 c6
  have B6 := B5.trans (c6.mono B5.size)
  obtain ⟨bb, hbb⟩ : ∃ bb, (yr != 0) = bb := ⟨_, rfl⟩
  refine wp_seq (wp_seq (reg_mono (rk_r9 (by kernel_rfl) _ F6 rfl hbb ?_)))
  intro a7 F7
  cases bb with
  | true =>
    obtain ⟨rfl, rfl⟩ := hAn (by simpa using hbb)
    refine wp_cond_true F7.s55 ?_
    refine wp_seq (reg_mono (rk_r10 (by kernel_rfl) _ F7 p7 rfl rfl X6 ?_))
    intro a8 F8
    refine wp_ret ?_
    exact rk_ret (R := fun e w' => e = .returned (.bool true) ∧ Below w.heap.size w w') F8 rfl ⟨rfl, B6⟩
  | false =>
    have h0 : yr = 0 := by simpa using hbb
    obtain ⟨h1, h2, h3⟩ := hAb h0
    have R6 := recs_of_ownC row6
    have hyk : ∀ x ∈ y.recs, x.ok := fun x hx => (h2.2.2.2.2.2 x hx).ok
    have hQ2 : ∀ W, Tab W → RecsC W ro y.recs → Calls Tryd.prog 18 #[.int .i64 m, y.v ro rc] W fun e w' => e = .returned (.tuple #[.string s, .int .i64 0]) ∧ Below W.heap.size W w' := fun W hT h => by
      have := pansw_good m y h1 h2 ro rc W hT h hyk
      rw [mk_textR s h3] at this
      exact this
    refine wp_cond_false F7.s55 (wp_skip ?_)
    refine wp_seq (reg_mono (rk_r11 (by kernel_rfl) _ F7 rfl rfl X6 (fun W hW => hQ2 W (TB.out B6 hW) (R6.below hW (Nat.le_refl _))) ?_))
    intro a8 w8 F8 b8
    refine wp_seq (reg_mono (rk_r12 (by kernel_rfl) _ F8 p7 rfl p2 rfl ?_))
    intro a9 F9
    refine wp_ret ?_
    exact rk_ret F9 rfl ⟨rfl, B6.trans (b8.mono B6.size)⟩
end Go.Proofs.YthfflefnapbkiaaDoor
