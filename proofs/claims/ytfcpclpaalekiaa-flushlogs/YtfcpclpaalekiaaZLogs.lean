/-
  FlushLogs: for all logs and texts the law's call returns true and leaves them as they were; no condition.
-/
import Derived.Test.YtfcpclpaalekiaaZFK
import Derived.Maps.AppendAt
import Derived.Laws.AppendOwnNone
import Derived.Test.YtfcpclpaalekiaaZFG1
namespace Go.Proofs.Ytfcpclpaalekiaa
open Go.RowKit
set_option maxHeartbeats 8000000
set_option maxRecDepth 100000
attribute [local go_sem ↓] Go.wp_at_zero Go.wp_at_succ
set_option linter.unusedSimpArgs false
set_option linter.unusedVariables false
theorem TextsAt.none {w : World} {l : List ByteArray} (h : TextsAt w none l) : l = [] := by
  cases l with
  | nil => rfl
  | cons x r => obtain ⟨g, off, e, _⟩ := h 0 (by simp); cases e
theorem app_all (T E : TypeId) (by' : Nat) (zv : Value) (hu : Try.prog.underlying T = some (.slice E)) (hi : (Try.prog.info? E).map (fun i => (i.zero, i.size, i.bytes)) = some (some zv, 1, by')) (hz : zv.cells.size = 1) {w : World} {xo : Option Addr} {xcap : Nat} {xs : List Value} (hnil : xo = none → xcap = 0 ∧ xs = []) (hat : ∀ i (h : i < xs.length), ∃ g off, xo = some ⟨g, off, none⟩ ∧ w.cell? ⟨g, off + i, none⟩ = some xs[i]) (h1 : ∀ u ∈ xs, u.oneCell' = true) (hl : xs.length ≤ maxLen) (hby : xs.length * by' ≤ 140737488355328) :
    ∃ ta tc w', (Builtin.append_ #[T, T] T #[.slice none 0 0, .slice xo xs.length xcap]).run Try.prog w = .ok (.slice ta xs.length tc) w' ∧ w'.ownsRow w.heap.size E 1 (.slice ta xs.length tc) xs.length xs ∧ Below w.heap.size w w' := by
  obtain ⟨i0, hi0, hz1, hz2, hz3⟩ := zinfo_parts hi
  cases xo with
  | none =>
    obtain ⟨rfl, rfl⟩ := hnil rfl
    exact ⟨none, 0, w, run_append_owned_none (P := Try.prog) w w.heap.size T T E i0 1 hu hi0 (.slice none 0 0) 0 [] (World.ownsRow_nil _ _ _ _), World.ownsRow_nil _ _ _ _, Below.refl _ _⟩
  | some ad =>
    obtain ⟨v', w', hr, h2, h3, h4, h5⟩ := run_append_own_at (P := Try.prog) w w.heap.size T T E i0 zv 1 by' hu hi0 hz1 hz2 hz3 hz (by decide) (.slice none 0 0) 0 [] (World.ownsRow_nil _ _ _ _) ad xs.length xcap xs (by simp) (fun j u hj => by
      obtain ⟨hj1, hj2⟩ := List.getElem?_eq_some_iff.1 hj
      obtain ⟨g, off, e, hc⟩ := hat j hj1
      injection e with e
      subst e
      rw [← hj2, ← hc, Addr.add_lit]) h1 (by simpa using hl) (by simpa using hby) (Nat.le_refl _)
    rw [Nat.zero_add, List.nil_append] at h2
    obtain ⟨ta, tc, rfl⟩ := row_slice h2
    exact ⟨ta, tc, w', hr, h2, (Below.refl _ _).grown h3 (Nat.le_refl _) (fun j hj => by cases hj)⟩
theorem app_texts {w : World} {xo : Option Addr} {xcap : Nat} {l : List ByteArray} (h : TextsAt w xo l) (hnil : xo = none → xcap = 0) (hl : l.length ≤ 8796093022208) :
    ∃ ta tc w', (Builtin.append_ #[23, 23] 23 #[.slice none 0 0, .slice xo l.length xcap]).run Try.prog w = .ok (.slice ta l.length tc) w' ∧ w'.ownsRow w.heap.size 9 1 (.slice ta l.length tc) l.length (textC l) ∧ Below w.heap.size w w' := by
  have := app_all 23 9 16 _ Try.underlying23 infoStr rfl (w := w) (xo := xo) (xcap := xcap) (xs := textC l) (fun e => ⟨hnil e, by
    have h2 := h
    rw [e] at h2
    rw [h2.none]; rfl⟩) (fun i hi => by
      obtain ⟨g, off, e, _, hc⟩ := h i (by simpa [textC_length] using hi)
      exact ⟨g, off, e, by rw [hc]; simp [textC]⟩) (fun u hu => by obtain ⟨x, _, rfl⟩ := List.mem_map.1 hu; rfl) (by rw [textC_length]; unfold maxLen; omega) (by rw [textC_length]; omega)
  rw [textC_length] at this
  exact this
theorem row_put {w : World} {B n cp : Nat} {E : TypeId} {ao : Option Addr} {xs : List Value} (h : w.ownsRow B E 1 (.slice ao n cp) n xs) (k : Nat) (hk : k < n) (v : Value) :
    ∃ g x, ao = some ⟨g, 0, none⟩ ∧ w.cell? ⟨g, k, none⟩ = some x ∧ w.frozen? ⟨g, k, none⟩ = false ∧ B ≤ g ∧ g < w.heap.size ∧ (w.setCell ⟨g, k, none⟩ v).ownsRow B E 1 (.slice ao n cp) n (xs.set k v) := by
  have h' := h
  rcases h.2 with ⟨h0, hn⟩ | ⟨g, cap, cur, hv, hg, hh, _⟩
  · omega
  · injection hv with e1 _ e3
    subst e1 e3
    have hl := h'.1
    rw [Nat.mul_one] at hl
    refine ⟨g, xs[k]'(by omega), rfl, ?_, h'.frozenAt k, hg, heap_lt hh, (h'.stored k v).1⟩
    rw [h'.cellAt k (by omega), List.getElem?_eq_getElem (by omega)]
theorem rlongest2 (ao : Option Addr) (cp : Nat) (l : List (List ByteArray)) (w : World) (hl : LogsAt w ao l) (hn : l.length ≤ 17592186044416) (hs : ∀ x ∈ l, x.length ≤ 17592186044416) :
    Calls Try.prog 10 #[.slice ao l.length cp] w fun e w' => ∃ lo lc, e = .returned (.tuple #[.slice lo (longF l).1.length lc, .int .i64 (longF l).2]) ∧ TextsAt w' lo (longF l).1 ∧ (∃ n, w' = w.drewN n) ∧ (LogsNil w ao l.length → lo = none → lc = 0) := by
  have HL := hide hl
  have HS := hide hs
  by_cases h0 : l = []
  · have e : longF l = ([], 1) := by unfold longF; rw [if_pos h0]
    rw [e]
    subst h0
    clear hl hs HL HS e
    go_enter Try.func10, Try.ntmps10
    go_wp2
    go_ret2
    exact ⟨none, 0, rfl, fun i hi => by simp at hi, ⟨0, rfl⟩, fun _ _ => rfl⟩
  have hp : 0 < l.length := List.length_pos_iff.2 h0
  have hpi : ¬ (l.length : Int) = 0 := by omega
  have HGD : Hid (∀ k (hk : k < l.length), l.getD k [] = l[k]) := fun k hk => by rw [List.getD_eq_getElem?_getD, List.getElem?_eq_getElem hk]; rfl
  have HP : Hid (∀ i k (hi : i < l.length) (hk : k < l.length) lo lc lo2 lc2 w1, TextsAt w1 lo l[i] → TextsAt w1 lo2 l[k] → Calls Try.prog 16 #[.slice lo l[i].length lc, .slice lo2 l[k].length lc2] w1 fun e w' => e = .returned (.bool (preF l[i] l[k])) ∧ ∃ n, w' = w1.drewN n) := fun i k hi hk lo lc lo2 lc2 w1 h1 h2 => rprefix lo lo2 lc lc2 l[i] l[k] w1 h1 h2 (hs _ (List.getElem_mem hi)) (hs _ (List.getElem_mem hk))
  have HNO : Hid (∀ i k (hi : i < l.length) (hk : k < i), preF l[i] l[k] = false → preF l[k] l[i] = false → longF l = ([], 11)) := fun i k hi hk h1 h2 => by
    unfold longF
    rw [if_neg h0, meetF_no hi hk h1 h2]
    rfl
  have HYES : Hid (meets l l.length → longF l = (l.getD (bestI l l.length) [], 0)) := fun h => by
    unfold longF
    rw [if_neg h0, if_pos ((meetF_iff l).2 h)]
  have HB : Hid (bestI l l.length < l.length) := bestI_lt l _ hp
  have M0 : Hid (meets l 0) := fun a b _ _ h => by omega
  clear hl hs
  generalize longF l = LF at *
  go_enter Try.func10, Try.ntmps10
  go_wp2
  go_loopw [4, 5] (fun bv iv wv => ∃ i : Nat, i ≤ l.length ∧ iv = .int .i64 (i : Nat) ∧ bv = .int .i64 (bestI l i : Nat) ∧ Hid (bestI l i ≤ i ∧ (0 < i → bestI l i < i)) ∧ Hid (meets l i) ∧ ∃ n, wv = w.drewN n) (fun _ iv _ => l.length - (intOf iv).toNat)
  case atStart => exact ⟨0, Nat.zero_le _, rfl, rfl, ⟨Nat.le_refl _, fun h => absurd h (Nat.lt_irrefl _)⟩, M0, 0, rfl⟩
  case round =>
    obtain ⟨i, hi, rfl, rfl, BB, MV, nd, rfl⟩ := hrel
    by_cases hlt : i < l.length
    · have y0 : (0 : Int) ≤ (i : Int) := by omega
      have y1 : (i : Int) < (l.length : Int) := by omega
      go_upto_region 8 with fail
      have N0 : Hid (∀ b (hb : b < 0) (hb2 : b < l.length), preF l[i] l[b] = true ∨ preF l[b] l[i] = true) := fun b hb => by omega
      go_loopw [6, 7, 8] (fun kv _ _ wv => ∃ k : Nat, k ≤ i ∧ kv = .int .i64 (k : Nat) ∧ Hid (∀ b (hb : b < k) (hb2 : b < l.length), preF l[i] l[b] = true ∨ preF l[b] l[i] = true) ∧ ∃ n, wv = w.drewN n) (fun kv _ _ _ => i - (intOf kv).toNat)
      case atStart => exact ⟨0, Nat.zero_le _, rfl, N0, nd, rfl⟩
      case round =>
        obtain ⟨k, hk, rfl, NV, nd2, hw2⟩ := hrel
        have HLr : Hid (LogsAt wr ao l) := by show LogsAt _ _ _; rw [hw2]; exact HL.out
        have HW2 := hide hw2
        clear hw2
        by_cases hlt2 : k < i
        · have hk2 : k < l.length := by omega
          have z0 : (0 : Int) ≤ (k : Int) := by omega
          have z1 : (k : Int) < (l.length : Int) := by omega
          have z2 : (k : Int) < (i : Int) := by omega
          obtain ⟨g, off, hao, _, lo, lc, hc, ht⟩ := HLr.out i hlt
          obtain ⟨g2, off2, hao2, _, lo2, lc2, hc2, ht2⟩ := HLr.out k hk2
          rw [hao] at hao2
          injection hao2 with hao2
          injection hao2 with e3 e4 _
          subst e3 e4
          have P1 := hide (fun m => HP.out i k hlt hk2 lo lc lo2 lc2 (wr.drewN m) (fun j hj => ht j hj) (fun j hj => ht2 j hj))
          have P2 := hide (fun m m2 => HP.out k i hk2 hlt lo2 lc2 lo lc ((wr.drewN m).drewN m2) (fun j hj => ht2 j hj) (fun j hj => ht j hj))
          have P3 : Hid (∀ m m2, Calls Try.prog 16 #[.slice lo2 l[k].length lc2, .slice lo l[i].length lc] (wr.drewN (m + m2)) fun e w' => e = .returned (.bool (preF l[k] l[i])) ∧ ∃ q, w' = (wr.drewN m).drewN q) := fun m m2 => (HP.out k i hk2 hlt lo2 lc2 lo lc (wr.drewN (m + m2)) (fun j hj => ht2 j hj) (fun j hj => ht j hj)).mono fun e w' ⟨h1, q, h2⟩ => ⟨h1, m2 + q, by rw [h2]; simp only [World.drewN_drewN, Nat.add_assoc]⟩
          have NN : Hid (preF l[i] l[k] = true ∨ preF l[k] l[i] = true → ∀ b (hb : b < k + 1) (hb2 : b < l.length), preF l[i] l[b] = true ∨ preF l[b] l[i] = true) := fun h b hb hb2 => by
            rcases Nat.lt_or_ge b k with e | e
            · exact NV.out b e hb2
            · obtain rfl : b = k := by omega
              exact h
          have NO := hide (HNO.out i k hlt hlt2)
          have NVV := NV
          clear NV ht ht2
          subst hao
          generalize l[i] = x at *
          generalize l[k] = y at *
          generalize preF x y = p1 at *
          generalize preF y x = p2 at *
          cases p1 <;> cases p2
          all_goals go_wp2
          all_goals go_quiet ((go_at_call 16; exact Calls.quiet_of (P1.out _)))
          all_goals go_upto_region 11 with fail
          all_goals generalize hW : World.drewN wr _ = wr2
          all_goals have hcq : wr2.cell? ⟨g, off + i, none⟩ = some (.slice lo x.length lc) := by rw [← hW]; exact hc
          all_goals have hcq2 : wr2.cell? ⟨g, off + k, none⟩ = some (.slice lo2 y.length lc2) := by rw [← hW]; exact hc2
          all_goals have P4 : Hid (∀ m, Calls Try.prog 16 #[.slice lo2 y.length lc2, .slice lo x.length lc] (wr2.drewN m) fun e w' => e = .returned (.bool _) ∧ ∃ q, w' = (wr2.drewN m).drewN q) := fun m => by rw [← hW]; exact P2.out _ _
          all_goals have HD : Hid (∀ q, ∃ n, wr2.drewN q = w.drewN n) := fun q => (by rw [← hW, HW2.out, World.drewN_drewN, World.drewN_drewN]; exact ⟨_, rfl⟩)
          all_goals clear hW
          all_goals go_quiet ((go_at_call 16; exact Calls.quiet_of (P4.out _)))
          all_goals go_wp2
          · go_ret2
            rw [NO.out (by simp) (by simp)]
            exact ⟨none, 0, rfl, fun i hi => by simp at hi, HD.out _, fun _ _ => rfl⟩
          · exact ⟨⟨k + 1, by omega, by go_num, NN.out (by simp), HD.out _⟩, by simp [intOf]; omega⟩
          · exact ⟨⟨k + 1, by omega, by go_num, NN.out (by simp), HD.out _⟩, by simp [intOf]; omega⟩
          · exact ⟨⟨k + 1, by omega, by go_num, NN.out (by simp), HD.out _⟩, by simp [intOf]; omega⟩
        · obtain rfl : k = i := by omega
          have hi2 : ¬ (k : Int) < (k : Int) := by omega
          have hbl : bestI l k < l.length := by have := BB.out.1; omega
          obtain ⟨g, off, hao, _, lo, lc, hc, ht⟩ := HLr.out k hlt
          obtain ⟨g2, off2, hao2, _, lo2, lc2, hc2, ht2⟩ := HLr.out (bestI l k) hbl
          rw [hao] at hao2
          injection hao2 with hao2
          injection hao2 with e3 e4 _
          subst e3 e4
          subst hao
          have MN : Hid (meets l (k + 1)) := fun a b ha hb hab => by
            rcases Nat.lt_or_ge a k with e | e
            · exact MV.out a b ha hb e
            · obtain rfl : a = k := by omega
              exact NV.out b hb (by omega)
          have HD : Hid (∀ q, ∃ n, wr.drewN q = w.drewN n) := fun q => by
            rw [HW2.out, World.drewN_drewN]
            exact ⟨_, rfl⟩
          have HSU : Hid (bestI l (k + 1) = if l[bestI l k].length < l[k].length then k else bestI l k) := by
            show _ = _
            rw [bestI_succ, HGD.out _ hbl, HGD.out _ hlt]
          have BBo := BB.out.1
          clear ht ht2 MV NV BB HB HNO HYES HP
          generalize l[k] = x at *
          generalize l[bestI l k] = y at *
          generalize bestI l k = b at *
          have w0 : (0 : Int) ≤ (b : Int) := by omega
          have w1 : (b : Int) < (l.length : Int) := by omega
          by_cases e : y.length < x.length
          · have d1 : decide (y.length < x.length) = true := decide_eq_true e
            have HS2 : Hid (bestI l (k + 1) = k) := by have := HSU.out; rw [if_pos e] at this; exact this
            clear HSU
            go_wp2
            go_quiet (fail)
            go_wp2
            refine ⟨?_, by simp [intOf]; omega⟩
            exact ⟨k + 1, by omega, by go_num, by rw [HS2.out], ⟨by rw [HS2.out]; omega, fun _ => by rw [HS2.out]; omega⟩, MN, HD.out _⟩
          · have d1 : decide (y.length < x.length) = false := decide_eq_false e
            have HS2 : Hid (bestI l (k + 1) = b) := by have := HSU.out; rw [if_neg e] at this; exact this
            clear HSU
            go_wp2
            go_quiet (fail)
            go_wp2
            refine ⟨?_, by simp [intOf]; omega⟩
            exact ⟨k + 1, by omega, by go_num, by rw [HS2.out], ⟨by rw [HS2.out]; omega, fun _ => by rw [HS2.out]; omega⟩, MN, HD.out _⟩
    · obtain rfl : i = l.length := by omega
      have hi1 : ¬ (l.length : Int) < (l.length : Int) := by omega
      have hb := HB.out
      obtain ⟨g, off, hao, _, lo, lc, hc, ht⟩ := HL.out _ hb
      have HE : Hid (LF = (l[bestI l l.length], 0)) := by
        show _ = _
        rw [HYES.out MV.out, HGD.out _ hb]
      have HN : Hid (LogsNil w (some ⟨g, off, none⟩) l.length → lo = none → lc = 0) := fun h => h _ hb g off rfl lo _ lc hc
      rw [hao]
      have HT := hide ht
      clear ht MV
      generalize bestI l l.length = b at *
      have y0 : (0 : Int) ≤ (b : Int) := by omega
      have y1 : (b : Int) < (l.length : Int) := by omega
      generalize l[b] = x at *
      go_wp2
      go_ret2
      rw [HE.out]
      exact ⟨lo, lc, rfl, HT.out, ⟨nd, rfl⟩, HN.out⟩
end Go.Proofs.Ytfcpclpaalekiaa
namespace Go.Proofs.Ytfcpclpaalekiaa
open Go.RowKit
set_option maxHeartbeats 8000000
set_option maxRecDepth 100000
attribute [local go_sem ↓] Go.wp_at_zero Go.wp_at_succ
set_option linter.unusedSimpArgs false
set_option linter.unusedVariables false
theorem logs_walk (go ao bo : Option Addr) (gc ca cb : Nat) (logs : List (List ByteArray)) (a b : List ByteArray) (w : World) (hG : LogsAt w go logs) (hgn : logs.length ≤ 17592186044416) (hgs : LogsOk logs) (hnil : LogsNil w go logs.length) (ha : TextsAt w ao a) (hb : TextsAt w bo b) (hl : a.length ≤ 17592186044416) (hl2 : b.length ≤ 17592186044416) :
    Calls Try.prog 3 #[.slice go logs.length gc, .slice ao a.length ca, .slice bo b.length cb] w fun e w' => e = .returned (.bool true) ∧ Below w.heap.size w w' := by
  obtain ⟨m1, m2⟩ := mostF_nil_or hgs
  have hnilW : ∀ W, Below w.heap.size w W → LogsNil W go logs.length := fun W bW i hi g off e lo k lc hc => by
    obtain ⟨g2, off2, e2, hg2, _⟩ := hG i hi
    have e3 := e.symm.trans e2
    injection e3 with e3
    injection e3 with e3 _ _
    subst e3
    exact hnil i hi g off e lo k lc (by rw [← bW.cell (p := ⟨g, _, none⟩) hg2]; exact hc)
  go_enter Try.func3, Try.ntmps3
  refine wp_seq (reg_mono (fg_r0 (by kernel_rfl) _ (v := ⟨_, _, _, _, _, _, _, _, _, _, _, _, _⟩) ⟨rfl, rfl, rfl, rfl, rfl, rfl, rfl, rfl, rfl, rfl, rfl, rfl, rfl, rfl, rfl⟩ ?_))
  intro a0 F0
  try dsimp only at F0
  refine wp_seq (reg_mono (fg_r1 (by kernel_rfl) _ F0 (fexamples w) ?_))
  intro a1 w1 F1 b1
  try dsimp only at F1
  have hrl : Calls Try.prog 10 #[.slice go logs.length gc] w1 fun e w' => ∃ (ro : Option Addr) (rc : Nat), e = .returned (.tuple #[.slice ro (longF logs).1.length rc, .int .i64 (longF logs).2]) ∧ (TextsAt w' ro (longF logs).1 ∧ Below w1.heap.size w1 w' ∧ (ro = none → rc = 0)) :=
    (rlongest2 go gc logs w1 (hG.below b1) hgn (fun x hx => by have := (hgs x hx).1; omega)).mono fun e w' ⟨lo, lc, h1, h2, ⟨n, h3⟩, h4⟩ => ⟨lo, lc, h1, h2, by rw [h3]; exact drewN_below _ _, h4 (hnilW w1 b1)⟩
  have hpl : ∀ W, Below w.heap.size w W → Calls Try.prog 11 #[.slice go logs.length gc] W fun e w' => ∃ (ro : Option Addr) (rc : Nat), e = .returned (.tuple #[.slice ro (longF logs).1.length rc, .int .i64 (longF logs).2]) ∧ (w'.ownsRow W.heap.size 9 1 (.slice ro (longF logs).1.length rc) (longF logs).1.length (textC (longF logs).1) ∧ Below W.heap.size W w') := fun W bW => flongest go gc logs W (hG.below bW) hgn hgs
  generalize (longF logs).1 = L at *
  generalize (longF logs).2 = z at *
  refine wp_seq (reg_mono (fg_r2 (R := fun ro rc W => TextsAt W ro L ∧ Below w1.heap.size w1 W ∧ (ro = none → rc = 0)) (by kernel_rfl) _ F1 rfl hrl ?_))
  rintro a2 w2 wo wc F2 ⟨T2, b2, hn2⟩
  try dsimp only at F2
  have B2 := b1.trans (b2.mono b1.size)
  obtain ⟨ta, tc, w3, hrun, hrow3, b3⟩ := app_texts T2 hn2 (by omega)
  refine wp_seq (reg_mono (fg_r3 (by kernel_rfl) _ F2 rfl hrun ?_))
  intro a3 F3
  try dsimp only at F3
  have B3 := B2.trans (b3.mono B2.size)
  have T3 := texts_own hrow3
  refine wp_seq (wp_seq (reg_mono (fg_r4 (by kernel_rfl) _ F3 ?_)))
  intro a4 F4
  try dsimp only at F4
  refine wp_block (wp_loop (fun a' W => ∃ (t : Nat) (x12 x13 x14 x15 : Value), t ≤ 2 ∧ Below w3.heap.size w3 W ∧ Ffg a' { v0 := .slice go logs.length gc, v1 := .slice ao a.length ca, v2 := .slice bo b.length cb, v6 := .bool false, v7 := .bool true, v8 := .slice wo L.length wc, v9 := .int .i64 z, v10 := .slice ta L.length tc, v11 := .int .i64 (t : Int), v12 := x12, v13 := x13, v14 := x14, v15 := x15 }) (fun a' _ => 2 - (intOf (a'.tmps.getD 11 undef)).toNat) ⟨0, _, _, _, _, by omega, Below.refl _ _, F4⟩ ?_)
  clear F0 F1 F2 F3 F4
  rintro a' W ⟨t, x12, x13, x14, x15, ht, b', F⟩
  have hmt : (intOf (a'.tmps.getD 11 undef)).toNat = t := by rw [F.s11]; simp [intOf]
  have B := B3.trans (b'.mono B3.size)
  refine wp_seq (wp_seq (reg_mono (fg_r5 (by kernel_rfl) _ F rfl ?_)))
  intro a5 F5 g5
  try dsimp only at F5
  by_cases ht2 : (t : Int) < 2
  case neg =>
    rw [decide_eq_false ht2] at g5
    refine wp_cond_false g5 (wp_exit ?_)
    show Code.wp _ _ _ _ _
    refine wp_seq (reg_mono (fg_r15 (x := comF a b) (r := preF a b) (by kernel_rfl) _ F5 rfl rfl rfl (fun W' bW => fcommon ao bo ca cb a b W' ((ha.below B).below bW) ((hb.below B).below bW) hl hl2) (fun W' bW => (rcommon ao bo ca cb a b W' ((ha.below B).below bW) ((hb.below B).below bW) hl hl2).mono fun e w' ⟨h1, n, h2⟩ => ⟨h1, by rw [h2]; exact drewN_below _ _⟩) (fun W' bW => fprefix ao bo ca cb a b W' ((ha.below B).below bW) ((hb.below B).below bW) hl hl2) (fun W' bW => (rprefix ao bo ca cb a b W' ((ha.below B).below bW) ((hb.below B).below bW) hl hl2).mono fun e w' ⟨h1, n, h2⟩ => ⟨h1, by rw [h2]; exact drewN_below _ _⟩) ?_))
    intro a15 w15 F15 b15
    refine wp_ret ?_
    try dsimp only [Exit.then, Exit.inBlock]
    exact fg_ret (x := true) F15 rfl ⟨rfl, B.trans (b15.mono B.size)⟩
  rw [decide_eq_true ht2] at g5
  refine wp_cond_true g5 (wp_skip ?_)
  show Code.wp _ _ _ _ _
  refine wp_seq (wp_block ?_)
  refine wp_seq (reg_mono (fg_r7 (R := fun ro rc W' => W'.ownsRow W.heap.size 9 1 (.slice ro L.length rc) L.length (textC L) ∧ Below W.heap.size W W') (by kernel_rfl) _ F5 rfl (hpl W B) ?_))
  rintro a7 w7 xo xc F7 ⟨O7, b7⟩
  try dsimp only at F7
  refine wp_seq (reg_mono (fg_r8 (R := fun W' => ∃ n, W' = w7.drewN n) (by kernel_rfl) _ F7 rfl rfl (ptexts_eq xo ta xc tc L w7 (texts_own O7) (T3.below (b'.trans (b7.mono b'.size))) (by omega)) ?_))
  rintro a8 w8 F8 ⟨n8, rfl⟩
  try dsimp only at F8
  have O8 : (w7.drewN n8).ownsRow W.heap.size 9 1 (.slice xo L.length xc) L.length (textC L) := below_row (drewN_below w7 n8) O7
  have b8 : Below W.heap.size W (w7.drewN n8) := below_drewN b7 n8
  generalize w7.drewN n8 = w8 at *
  refine wp_seq (wp_seq (reg_mono (fg_r9 (by kernel_rfl) _ F8 rfl rfl rfl ?_)))
  intro a9 F9 g9
  refine wp_cond_false g9 (wp_skip ?_)
  show Code.wp _ _ _ _ _
  refine wp_seq (reg_mono (fg_r11 (by kernel_rfl) _ F9 ?_))
  intro a11 F11
  try dsimp only at F11
  refine wp_block (wp_loop (fun a'' W' => ∃ (k : Nat) (cs : List Value), k ≤ L.length ∧ (∀ i, k ≤ i → cs[i]? = (textC L)[i]?) ∧ W'.ownsRow W.heap.size 9 1 (.slice xo L.length xc) L.length cs ∧ Below W.heap.size W W' ∧ Ffg a'' { v0 := .slice go logs.length gc, v1 := .slice ao a.length ca, v2 := .slice bo b.length cb, v6 := .bool false, v7 := .bool true, v8 := .slice wo L.length wc, v9 := .int .i64 z, v10 := .slice ta L.length tc, v11 := .int .i64 (t : Int), v12 := .slice xo L.length xc, v13 := .int .i64 z, v14 := .bool true, v15 := .int .i64 (k : Int) }) (fun a'' _ => L.length - (intOf (a''.tmps.getD 15 undef)).toNat) ⟨0, _, Nat.zero_le _, fun i _ => rfl, O8, b8, F11⟩ ?_)
  clear F F5 F7 F8 F9 F11 g5 g9 O7 O8 b7 b8
  rintro a'' W' ⟨k, cs, hk, hcs, O, b'', F⟩
  have hmk : (intOf (a''.tmps.getD 15 undef)).toNat = k := by rw [F.s15]; simp [intOf]
  by_cases hlt : (k : Int) < (L.length : Int)
  · have hkl : k < L.length := by omega
    refine wp_seq (wp_seq (reg_mono (fg_r12y (by kernel_rfl) _ F rfl rfl hlt ?_)))
    intro a12 F12 g12
    try dsimp only at F12
    refine wp_cond_true g12 (wp_skip ?_)
    show Code.wp _ _ _ _ _
    obtain ⟨g, x0, hxo, hc, hfr, hgB, hgl, _⟩ := row_put O k hkl (.string ⟨#[]⟩)
    have hx0 : x0 = .string L[k] := by
      have h1 := hcs k (Nat.le_refl _)
      rw [show (textC L)[k]? = some (.string L[k]) by simp [textC, hkl]] at h1
      subst hxo
      have h3 := O.cells (g := g) rfl k (.string L[k]) h1
      rw [Addr.add_lit, Nat.zero_add, hc] at h3
      exact Option.some.inj h3
    subst hx0
    refine wp_seq (wp_block ?_)
    refine reg_all (fg_r14 (by kernel_rfl) _ F12 (by rw [hxo]) rfl hkl (m2 _ (List.getElem_mem hkl)) hc hfr ?_)
    intro a14 y F14
    try dsimp only at F14
    show Code.wp _ _ _ _ _
    obtain ⟨g2, _, hxo2, _, _, _, _, O2⟩ := row_put O k hkl (.string y)
    obtain rfl : g2 = g := by rw [hxo] at hxo2; injection hxo2 with h; injection h with h _ _; exact h.symm
    refine reg_all (fg_r13 (by kernel_rfl) _ F14 rfl (by omega) ?_)
    intro a13 F13
    try dsimp only at F13
    refine ⟨⟨k + 1, cs.set k (.string y), by omega, fun i hi => by rw [List.getElem?_set_ne (by omega)]; exact hcs i (by omega), O2, b''.setCell (p := ⟨g2, k, none⟩) hgB _, by rw [hxo] at *; exact F13⟩, ?_⟩
    rw [hmk, F13.s15]
    simp [intOf]
    omega
  refine wp_seq (wp_seq (reg_mono (fg_r12n (by kernel_rfl) _ F rfl rfl hlt ?_)))
  intro a12 F12 g12
  try dsimp only at F12
  refine wp_cond_false g12 (wp_exit ?_)
  show Code.wp _ _ _ _ _
  refine reg_all (fg_r6 (by kernel_rfl) _ F12 rfl (by omega) ?_)
  intro a6 F6
  try dsimp only at F6
  refine ⟨⟨t + 1, _, _, _, _, by omega, b'.trans (b''.mono b'.size), F6⟩, ?_⟩
  rw [hmt, F6.s11]
  simp [intOf]
  omega
end Go.Proofs.Ytfcpclpaalekiaa
namespace Go.Proofs.Ytfcpclpaalekiaa
open Go.ChangeShapes Go.WideShapes Go.ChangeAt Go.RowKit
set_option maxRecDepth 100000
open Go.ChangeMaps (open_string shut_string)
theorem flushLogs_lifted (os : Os) (started : os.Started) (H : Type) (enc : TypeId × Value → H) :
    ReturnsInHanded {} Try.checked os 3 .any (Rows.flushLogsSpec.pre6 enc Try.prog Try.f3 Rows.flushLogsRow.domain false) (Rows.flushLogsSpec.post enc Try.prog Try.f3 false true false false) := by
  refine returnsInHanded_of_change_sized (C := Try.checked) own started (by kernel_rfl) Try.func3
    (ChangeSpec.witness6 (enc := enc) (C := Try.checked) false ⟨#[], #[.slice none 0 0, .slice none 0 0, .slice none 0 0], []⟩ 8 (by kernel_rfl) (by kernel_rfl) (by kernel_rfl) (by kernel_rfl)) ?_
  intro W base args ds gs before hval0 hW hcnd hsz0 _
  have hval : ∀ (j : Nat) t v, Try.f3.params[j]? = some t → args[j]? = some v → Value.okWide Try.prog W .any base t v := hval0
  have hsz : (DataW.weightsEach Try.prog (Try.f3.params.toList ++ Rows.flushLogsSpec.plain.varTypes Try.prog) (ds ++ gs)).all (· ≤ reachBytes) = true := hsz0
  have hW' := hW
  obtain ⟨p, q, hA0, hV, rfl, hfz, hnd⟩ := hW
  have hA : DataW.TrodAll enc Try.prog W 0 (fun _ => true) true Try.f3.params.toList args.toList ds p := hA0
  rw [Try.params3] at hA hval hsz
  obtain ⟨v0, vs0, d0, ds0, p0, q0, hargs, rfl, rfl, h0, r0⟩ := trodAll_cons hA
  obtain ⟨v1, vs1, d1, ds1, p1, q1, rfl, rfl, rfl, h1, r1⟩ := trodAll_cons r0
  obtain ⟨v2, vs2, d2, ds2, p2, q2, rfl, rfl, rfl, h2, r2⟩ := trodAll_cons r1
  obtain ⟨rfl, rfl, rfl⟩ := trodAll_nil r2
  obtain rfl : args = #[v0, v1, v2] := by cases args; simp_all
  obtain ⟨rfl, rfl⟩ := trodVars_none hV
  have k0 := h0
  have lt0 : ∀ x ∈ p0, x.block < W.heap.size := by obtain ⟨m, hm⟩ := k0; exact DataW.trod_lt m _ _ _ hm
  obtain ⟨a0, cap0, us0, rfl, cm0, in0, ln0, nz0⟩ := logs_param (hval 0 22 v0 rfl rfl) h0 hsz (j := 0) rfl rfl
  have k1 := h1
  have lt1 : ∀ x ∈ p1, x.block < W.heap.size := by obtain ⟨m, hm⟩ := k1; exact DataW.trod_lt m _ _ _ hm
  obtain ⟨a1, cap1, us1, rfl, cm1, in1, ln1, cp1, nz1⟩ := texts_param (hval 1 23 v1 rfl rfl) h1 hsz (j := 1) rfl rfl
  have k2 := h2
  have lt2 : ∀ x ∈ p2, x.block < W.heap.size := by obtain ⟨m, hm⟩ := k2; exact DataW.trod_lt m _ _ _ hm
  obtain ⟨a2, cap2, us2, rfl, cm2, in2, ln2, cp2, nz2⟩ := texts_param (hval 2 23 v2 rfl rfl) h2 hsz (j := 2) rfl rfl
  clear hA0 hval0
  refine (logs_walk a0 a1 a2 cap0 cap1 cap2 us0 us1 us2 W cm0 (by omega) in0 nz0 cm1 cm2 (by omega) (by omega)).mono fun e W' ⟨he, bel⟩ => ?_
  subst he
  exact ⟨_, rfl, _, _, _, [], _, [], hW', trodAll_mk1 (shut_bool Try.underlying4 _), (trodAll_cons_mk (Below.trod laidOut (by kernel_rfl) (of_decide_eq_true (by kernel_rfl)) k0 bel lt0) (trodAll_cons_mk (Below.trod laidOut (by kernel_rfl) (of_decide_eq_true (by kernel_rfl)) k1 bel lt1) (trodAll_cons_mk (Below.trod laidOut (by kernel_rfl) (of_decide_eq_true (by kernel_rfl)) k2 bel lt2) trodAll_mk0))), rfl, bel.frame _, fun h => by cases h⟩
theorem flushLogs_holds : Rows.FlushLogsSaid :=
  OpenClaim.holds_of_wide 3 Try.f3 rfl rfl rfl rfl rfl rfl rfl ⟨rfl, rfl, rfl, rfl, rfl⟩ rfl rfl rfl rfl rfl (by kernel_rfl) Try.func3 (by kernel_rfl)
    (of_decide_eq_true (by kernel_rfl)) (by unfold Func.isWrapper; first | (rw [if_pos (by decide +kernel)]; kernel_rfl) | (rw [if_neg (by decide +kernel)]; exact ⟨rfl, rfl⟩))
    (fun os started H enc _ => flushLogs_lifted os started H enc)
#print axioms flushLogs_holds
end Go.Proofs.Ytfcpclpaalekiaa
