/-
  CommandBack, its walk (mkback.py)
-/
import Derived.Test.YthfflefnapbkiaaDoorZBK
import Derived.Test.YthfflefnapbkiaaDoorZCN
namespace Go.Proofs.YthfflefnapbkiaaDoor
open Go.RowKit

attribute [local go_sem ↓] Go.wp_at_zero Go.wp_at_succ
set_option linter.unusedSimpArgs false
set_option linter.unusedVariables false
theorem list_back {l : List UInt8} : (⟨l.toArray⟩ : ByteArray).data.toList = l := by simp
theorem mk_text (s : ByteArray) {l : List UInt8} (h : l = s.data.toList) : (⟨l.toArray⟩ : ByteArray) = s := by rw [h]
/-- What lasts from one of the law's pieces to the next. -/
def BkS (s : ByteArray) (b : Nat) (x : CM) (w : World) (a : Act) (W : World) : Prop := (∃ v, Fbk a v ∧ v.v1 = .string s ∧ v.v2 = .pointer (some ⟨b, 0, none⟩) ∧ v.v5 = .bool true) ∧ W.heap[b]? = some (.cells x.cells 23 (0, 0)) ∧ Below w.heap.size w W
theorem pdec_code (x : CM) (hr : x.right = true) (W : World) : Calls Tryd.prog 10 #[.string ⟨(codeC x).toArray⟩] W fun e w' => e = .returned (.tuple #[x.v, .int .i64 0]) ∧ Below W.heap.size W w' := by
  have hs := codeC_le (x.small hr)
  have := pdec ⟨(codeC x).toArray⟩ (by show (codeC x).toArray.size ≤ _; simp; omega) W
  rw [list_back, decC_code hr] at this
  exact this
theorem pask_one (x : CM) (hr : x.right = true) (h0 : x.node = 0) (W : World) (hT : Tab W) : Calls Tryd.prog 17 #[.string ⟨(oneC x).toArray⟩] W fun e w' => e = .returned (.tuple #[x.v, .int .i64 0]) ∧ Below W.heap.size W w' := by
  have hs := codeC_le (x.small hr)
  have := pasked ⟨(oneC x).toArray⟩ (by show (oneC x).toArray.size ≤ _; rw [List.size_toArray, oneC_len]; omega) W hT
  rw [list_back, askC_one hr h0] at this
  exact this
set_option maxHeartbeats 4000000 in
set_option maxRecDepth 100000 in
theorem back_walk (x : CM) (hx : x.ok) (s : ByteArray) (h63 : s.size ≤ 9223372036854775807) (w : World) (hT : Tab w) :
    Calls Tryd.prog 4 #[x.v, .string s] w fun e w' => e = .returned (.bool true) ∧ Below w.heap.size w w' := by
  have HT := hide hT
  have TB : Hid (∀ {W W' : World}, Below w.heap.size w W → Below W.heap.size W W' → Tab W') := fun h1 h2 => HT.out.below (h1.trans (h2.mono h1.size))
  clear hT
  obtain ⟨T, er, hE, hz, hdec⟩ : ∃ (T : ByteArray) (er : Int), (∀ W, Calls Tryd.prog 8 #[x.v] W fun e w' => e = .returned (.tuple #[.string T, .int .i64 er]) ∧ Below W.heap.size W w') ∧ (er == 0) = x.right ∧ (x.right = true → er = 0 ∧ ∀ W, Calls Tryd.prog 10 #[.string T] W fun e w' => e = .returned (.tuple #[x.v, .int .i64 0]) ∧ Below W.heap.size W w') := by
    by_cases hr : x.right = true
    · exact ⟨_, 0, penc_good x hr, by rw [hr]; rfl, fun _ => ⟨rfl, pdec_code x hr⟩⟩
    · have hr2 := Bool.not_eq_true _ ▸ hr
      exact ⟨_, 1, penc_bad x hx hr2, by rw [hr2]; rfl, fun h => absurd h hr⟩
  obtain ⟨U, gr, hQ, hask⟩ : ∃ (U : ByteArray) (gr : Int), (∀ W, Tab W → Calls Tryd.prog 16 #[x.v] W fun e w' => e = .returned (.tuple #[.string U, .int .i64 gr]) ∧ Below W.heap.size W w') ∧ ((gr == 0) = true → ∀ W, Tab W → Calls Tryd.prog 17 #[.string U] W fun e w' => e = .returned (.tuple #[x.v, .int .i64 0]) ∧ Below W.heap.size W w') := by
    by_cases hr : x.right = true ∧ x.node = 0
    · exact ⟨_, 0, fun W hT => preq_good x hr.1 hr.2 W hT, fun _ W hT => pask_one x hr.1 hr.2 W hT⟩
    · refine ⟨_, 1, fun W _ => preq_bad x hx ?_ W, fun h => by cases h⟩
      by_cases h1 : x.right = true
      · exact .inr fun h2 => hr ⟨h1, h2⟩
      · exact .inl (Bool.not_eq_true _ ▸ h1)
  have hD := fun W => pdec s h63 W
  have hDb := @decC_back s.data.toList
  have hA := fun W hT => pasked s h63 W hT
  have hAb := @askC_back s.data.toList
  have hAn := @askC_none s.data.toList
  generalize decC s.data.toList = D at *
  obtain ⟨d, dr⟩ := D
  generalize askC s.data.toList = A at *
  obtain ⟨y, yr⟩ := A
  simp only at hD hDb hA hAb hAn
  have hR := pright x hx
  obtain ⟨rr, hrr⟩ : ∃ rr, x.right = rr := ⟨_, rfl⟩
  rw [hrr] at hz hdec
  simp only [hrr] at hR
  go_enter Tryd.func4, Tryd.ntmps4
  refine wp_seq (reg_mono (bk_r0 (by kernel_rfl) _ (v := ⟨_, _, _, _, _, _, _, _, _, _, _, _, _, _, _, _, _, _, _, _, _, _, _, _, _, _, _, _, _⟩) ⟨rfl, rfl, rfl, rfl, rfl, rfl, rfl, rfl, rfl, rfl, rfl, rfl, rfl, rfl, rfl, rfl, rfl, rfl, rfl, rfl, rfl, rfl, rfl, rfl, rfl, rfl, rfl, rfl, rfl, rfl, rfl⟩ rfl ?_))
  intro a1 w1 b F1 D1 B1
  refine wp_seq (reg_mono (bk_r1 (by kernel_rfl) _ F1 (fun W hW => examples_any W (TB.out B1 hW)) ?_))
  intro a2 w2 F2 b2
  have D2 := (b2.block _ (heap_lt D1)).trans D1
  have B2 := B1.trans (b2.mono B1.size)
  refine wp_seq (reg_mono (bk_r2 (by kernel_rfl) _ F2 rfl D2 (fun W _ => hE W) ?_))
  intro a3 w3 F3 b3
  have D3 := (b3.block _ (heap_lt D2)).trans D2
  have B3 := B2.trans (b3.mono B2.size)
  refine wp_seq (wp_seq (reg_mono (bk_r3 (by kernel_rfl) _ F3 rfl rfl D3 hz (fun W _ => hR W) ?_)))
  intro a4 w4 F4 b4
  have D4 := (b4.block _ (heap_lt D3)).trans D3
  have B4 := B3.trans (b4.mono B3.size)
  refine wp_cond_false F4.s32 (wp_skip ?_)
  refine wp_mid (BkS s b x w) ?one ?_
  case one =>
    refine wp_seq (reg_mono (bk_r5 (by kernel_rfl) _ F4 rfl hz ?_))
    intro a5 F5
    cases rr with
    | true =>
      obtain ⟨rfl, hdec2⟩ := hdec rfl
      refine wp_cond_true F5.s34 ?_
      refine wp_seq (reg_mono (bk_r6 (by kernel_rfl) _ F5 rfl (fun W _ => hdec2 W) ?_))
      intro a6 w6 b6 F6 X6 c6
      have D6 := (c6.block _ (heap_lt D4)).trans D4
      have B6 := B4.trans (c6.mono B4.size)
      refine wp_seq (reg_mono (bk_r7 (by kernel_rfl) _ F6 rfl rfl rfl X6 D6 ?_))
      intro a7 F7
      refine wp_cond_false F7.s46 (wp_skip ?_)
      exact ⟨⟨_, F7, rfl, rfl, rfl⟩, D6, B6⟩
    | false =>
      refine wp_cond_false F5.s34 (wp_skip ?_)
      exact ⟨⟨_, F5, rfl, rfl, rfl⟩, D4, B4⟩
  rintro a5 w5 ⟨⟨v5, F5, p1, p2, p5⟩, D5, B5⟩
  refine wp_seq (reg_mono (bk_r9 (by kernel_rfl) _ F5 p2 D5 (fun W hW => hQ W (TB.out B5 hW)) ?_))
  intro a6 w6 F6 b6
  have D6 := (b6.block _ (heap_lt D5)).trans D5
  have B6 := B5.trans (b6.mono B5.size)
  refine wp_mid (BkS s b x w) ?two ?_
  case two =>
    obtain ⟨bb, hbb⟩ : ∃ bb, (gr == 0) = bb := ⟨_, rfl⟩
    refine wp_seq (reg_mono (bk_r10 (by kernel_rfl) _ F6 rfl hbb ?_))
    intro a7 F7
    cases bb with
    | true =>
      refine wp_cond_true F7.s53 ?_
      refine wp_seq (reg_mono (bk_r11 (by kernel_rfl) _ F7 rfl (fun W hW => hask hbb W (TB.out B6 hW)) ?_))
      intro a8 w8 b8 F8 X8 c8
      have D8 := (c8.block _ (heap_lt D6)).trans D6
      have B8 := B6.trans (c8.mono B6.size)
      refine wp_seq (reg_mono (bk_r12 (by kernel_rfl) _ F8 rfl p2 rfl X8 D8 ?_))
      intro a9 F9
      refine wp_cond_false F9.s65 (wp_skip ?_)
      exact ⟨⟨_, F9, p1, p2, p5⟩, D8, B8⟩
    | false =>
      refine wp_cond_false F7.s53 (wp_skip ?_)
      exact ⟨⟨_, F7, p1, p2, p5⟩, D6, B6⟩
  rintro a7 w7 ⟨⟨v7, F7, p1, p2, p5⟩, D7, B7⟩
  refine wp_seq (reg_mono (bk_r14 (by kernel_rfl) _ F7 p1 (fun W _ => hD W) ?_))
  intro a8 w8 b8 F8 X8 c8
  have D8 := (c8.block _ (heap_lt D7)).trans D7
  have B8 := B7.trans (c8.mono B7.size)
  refine wp_mid (BkS s b x w) ?three ?_
  case three =>
    obtain ⟨bb, hbb⟩ : ∃ bb, (dr == 0) = bb := ⟨_, rfl⟩
    refine wp_seq (reg_mono (bk_r15 (by kernel_rfl) _ F8 rfl hbb ?_))
    intro a9 F9
    cases bb with
    | true =>
      obtain ⟨h1, h2⟩ := hDb (by simpa using hbb)
      have hE2 : ∀ W, Calls Tryd.prog 8 #[d.v] W fun e w' => e = .returned (.tuple #[.string s, .int .i64 0]) ∧ Below W.heap.size W w' := fun W => by
        have := penc_good d h1 W
        rw [mk_text s h2] at this
        exact this
      refine wp_cond_true F9.s72 ?_
      refine wp_seq (reg_mono (bk_r16 (by kernel_rfl) _ F9 rfl X8 (fun W _ => hE2 W) ?_))
      intro a10 w10 F10 b10
      have D10 := (b10.block _ (heap_lt D8)).trans D8
      have B10 := B8.trans (b10.mono B8.size)
      refine wp_seq (reg_mono (bk_r17 (by kernel_rfl) _ F10 rfl p1 rfl ?_))
      intro a11 F11
      refine wp_cond_false F11.s84 (wp_skip ?_)
      exact ⟨⟨_, F11, p1, p2, p5⟩, D10, B10⟩
    | false =>
      refine wp_cond_false F9.s72 (wp_skip ?_)
      exact ⟨⟨_, F9, p1, p2, p5⟩, D8, B8⟩
  rintro a9 w9 ⟨⟨v9, F9, p1, p2, p5⟩, D9, B9⟩
  refine wp_seq (reg_mono (bk_r19 (by kernel_rfl) _ F9 p1 (fun W hW => hA W (TB.out B9 hW)) ?_))
  intro a10 w10 b10 F10 X10 c10
  have B10 := B9.trans (c10.mono B9.size)
  obtain ⟨bb, hbb⟩ : ∃ bb, (yr != 0) = bb := ⟨_, rfl⟩
  refine wp_seq (wp_seq (reg_mono (bk_r20 (by kernel_rfl) _ F10 rfl hbb ?_)))
  intro a11 F11
  cases bb with
  | true =>
    obtain rfl : y = CM.zero := hAn (by simpa using hbb)
    refine wp_cond_true F11.s91 ?_
    refine wp_seq (reg_mono (bk_r21 (by kernel_rfl) _ F11 p5 rfl X10 ?_))
    intro a12 F12
    refine wp_ret ?_
    exact bk_ret (R := fun e w' => e = .returned (.bool true) ∧ Below w.heap.size w w') F12 rfl ⟨rfl, B10⟩
  | false =>
    have h0 : yr = 0 := by simpa using hbb
    obtain ⟨h1, h2, h3⟩ := hAb h0
    subst h0
    have hQ2 : ∀ W, Tab W → Calls Tryd.prog 16 #[y.v] W fun e w' => e = .returned (.tuple #[.string s, .int .i64 0]) ∧ Below W.heap.size W w' := fun W hT => by
      have := preq_good y h1 h2 W hT
      rw [mk_text s h3] at this
      exact this
    refine wp_cond_false F11.s91 (wp_skip ?_)
    refine wp_seq (reg_mono (bk_r22 (by kernel_rfl) _ F11 rfl X10 (fun W hW => hQ2 W (TB.out B10 hW)) ?_))
    intro a12 w12 F12 b12
    refine wp_seq (reg_mono (bk_r23 (by kernel_rfl) _ F12 p5 rfl p1 rfl ?_))
    intro a13 F13
    refine wp_ret ?_
    exact bk_ret F13 rfl ⟨rfl, B10.trans (b12.mono B10.size)⟩
end Go.Proofs.YthfflefnapbkiaaDoor
