/-
  FlushBytes: for all views, texts, strings and logs the law's call returns true and leaves them as they were; no condition.
-/
import Derived.Test.YtfcpclpaalekiaaZFR2
import Derived.Test.YtfcpclpaalekiaaZFWW
import Derived.Test.YtfcpclpaalekiaaZFR4
import Derived.Test.YtfcpclpaalekiaaZFK
namespace Go.Proofs.Ytfcpclpaalekiaa
open Go.RowKit Go.Shelf
set_option maxHeartbeats 8000000
set_option maxRecDepth 100000
attribute [local go_sem ↓] Go.wp_at_zero Go.wp_at_succ
set_option linter.unusedSimpArgs false
set_option linter.unusedVariables false
theorem ro_walk {num : Int} {ao lo : Option Addr} {n cp lc ln m : Nat} {z : Int} {X : ByteArray × Int} {w : World} {P : Option Addr → Nat → World → Prop}
    (HL : Hid (Calls Try.prog 10 #[.slice lo ln lc] (w.alloc (.cells #[.int .i64 num, .slice ao n cp] tView)) fun e w' => ∃ (ro : Option Addr) (rc : Nat), e = .returned (.tuple #[.slice ro m rc, .int .i64 z]) ∧ Below (w.alloc (.cells #[.int .i64 num, .slice ao n cp] tView)).heap.size (w.alloc (.cells #[.int .i64 num, .slice ao n cp] tView)) w' ∧ P ro rc w'))
    (HE : Hid (z = 0 → ∀ (ro : Option Addr) (rc : Nat) (W : World), P ro rc W → Below w.heap.size w W → Calls Try.prog 18 #[.agg #[.int .i64 num, .slice ao n cp], .slice ro m rc] W fun e w' => e = .returned (.tuple #[.string X.1, .int .i64 X.2]) ∧ Below W.heap.size W w')) :
    Calls Try.prog 22 #[.agg #[.int .i64 num, .slice ao n cp], .slice lo ln lc] w fun e w' => e = .returned (.tuple #[.string (if z = 0 then X.1 else ⟨#[]⟩), .int .i64 (if z = 0 then X.2 else z)]) ∧ Below w.heap.size w w' := by
  have HB := hide ((Below.refl w.heap.size w).alloc (Nat.le_refl _) (.cells #[.int .i64 num, .slice ao n cp] tView))
  have HD := hide (heap_alloc_new w (.cells #[.int .i64 num, .slice ao n cp] tView))
  by_cases hz : z = 0
  · rw [if_pos hz, if_pos hz]
    have HE2 := hide (HE.out hz)
    subst hz
    clear HE
    go_enter Try.func22, Try.ntmps22
    go_wp2_with (first
      | (go_at_call 18; refine (HE2.out _ _ _ P2.out B2.out).mono ?_; rintro e w3 ⟨rfl, b3⟩; have B3 := hide (B2.out.trans (b3.mono B2.out.size)); clear b3)
      | (go_at_call 10; refine HL.out.mono ?_; rintro e w2 ⟨ro, rc, rfl, b2, p2⟩; have B2 := hide (HB.out.trans (b2.mono HB.out.size)); have XD := (b2.block _ (heap_lt HD.out)).trans HD.out; have y0 := box_cell XD 0 rfl; have y1 := box_cell XD 1 rfl; have P2 := hide p2; clear b2 XD p2))
    go_ret2
    exact ⟨rfl, B3.out⟩
  · rw [if_neg hz, if_neg hz]
    have hd : (z != 0) = true := by simp [hz]
    clear HE
    go_enter Try.func22, Try.ntmps22
    go_wp2_with (go_at_call 10; refine HL.out.mono ?_; rintro e w2 ⟨ro, rc, rfl, b2, p2⟩; have B2 := hide (HB.out.trans (b2.mono HB.out.size)); clear b2)
    go_ret2
    exact ⟨rfl, B2.out⟩
theorem rfown (v : VW) (ao lo : Option Addr) (cp lc : Nat) (logs : List (List ByteArray)) (w : World) (hM : MemsAt w ao v.mem) (hL : LogsAt w lo logs) (hn : logs.length ≤ 17592186044416) (hs : LogsOk logs) :
    Calls Try.prog 22 #[v.v ao cp, .slice lo logs.length lc] w fun e w' => e = .returned (.tuple #[.string ⟨(ownL v logs).1.toArray⟩, .int .i64 (ownL v logs).2]) ∧ Below w.heap.size w w' := by
  have HB := (Below.refl w.heap.size w).alloc (Nat.le_refl _) (.cells #[.int .i64 v.num, .slice ao v.mem.length cp] tView)
  obtain ⟨m1, m2⟩ := mostF_nil_or hs
  have H := ro_walk (num := v.num) (ao := ao) (n := v.mem.length) (cp := cp) (lo := lo) (lc := lc) (ln := logs.length) (m := (longF logs).1.length) (z := (longF logs).2) (X := (⟨(encL v (longF logs).1).1.toArray⟩, (encL v (longF logs).1).2)) (w := w) (P := fun ro rc W => TextsAt W ro (longF logs).1)
    ((rlongest lo lc logs _ (fun i hi => (hL.below HB) i hi) hn (fun x hx => by have := (hs x hx).1; omega)).mono fun e w' ⟨ro, rc, h1, h2, n, h3⟩ => ⟨ro, rc, h1, by rw [h3]; exact drewN_below _ _, h2⟩)
    (fun _ ro rc W p b => rfencode v ao ro cp rc (longF logs).1 W (hM.below b) p (by omega) m2)
  refine H.mono ?_
  rintro e w' ⟨h1, h2⟩
  refine ⟨?_, h2⟩
  rw [h1]
  unfold ownL
  by_cases h : (longF logs).2 = 0
  · rw [if_pos h, if_pos h, if_pos h]
  · rw [if_neg h, if_neg h, if_neg h]
end Go.Proofs.Ytfcpclpaalekiaa
namespace Go.Proofs.Ytfcpclpaalekiaa
open Go.RowKit
set_option maxHeartbeats 8000000
set_option maxRecDepth 100000
attribute [local go_sem ↓] Go.wp_at_zero Go.wp_at_succ
set_option linter.unusedSimpArgs false
set_option linter.unusedVariables false
theorem rfdecode_says (t : ByteArray) (w : World) (hs : t.size ≤ 9223372036854775807) {r : VW × List ByteArray × Int} (hr : decL t.data.toList = r) :
    Calls Try.prog 20 #[.string t] w fun e w' => ∃ (ro : Option Addr) (rc : Nat) (to' : Option Addr) (tc : Nat), e = .returned (.tuple #[.agg #[.int .i64 r.1.num, .slice ro r.1.mem.length rc], .slice to' r.2.1.length tc, .int .i64 r.2.2]) ∧ (MemsAt w' ro r.1.mem ∧ TextsAt w' to' r.2.1 ∧ Below w.heap.size w w') := by
  subst hr
  exact (rfdecode t w hs).mono fun e w' ⟨⟨ro, rc, to', tc, h1, h2, h3⟩, h4⟩ => ⟨ro, rc, to', tc, h1, mems_of_row h2 rfl, texts_own h3, h4⟩
theorem bytes_walk (v : VW) (ao lo go : Option Addr) (cp lc gc : Nat) (log : List ByteArray) (s : ByteArray) (logs : List (List ByteArray)) (w : World) (hM : MemsAt w ao v.mem) (hm : v.mem.length ≤ 4611686018427387903) (hL : TextsAt w lo log) (hn : log.length ≤ 17592186044416) (hs : ∀ x ∈ log, x.size ≤ 140737488351232) (hss : s.size ≤ 140737488351232) (hG : LogsAt w go logs) (hgn : logs.length ≤ 17592186044416) (hgs : LogsOk logs) :
    Calls Try.prog 4 #[v.v ao cp, .slice lo log.length lc, .string s, .slice go logs.length gc] w fun e w' => e = .returned (.bool true) ∧ Below w.heap.size w w' := by
  simp only [VW.v]
  go_enter Try.func4, Try.ntmps4
  have X0 := heap_alloc_new w (.cells #[.int .i64 v.num, .slice ao v.mem.length cp] tView)
  have B0 := (Below.refl w.heap.size w).alloc (Nat.le_refl _) (.cells #[.int .i64 v.num, .slice ao v.mem.length cp] tView)
  refine wp_seq (reg_mono (fy_r0 (by kernel_rfl) _ (v := ⟨_, _, _, _, _, _, _, _, _, _, _, _, _, _, _, _, _, _, _, _, _, _, _⟩) ⟨rfl, rfl, rfl, rfl, rfl, rfl, rfl, rfl, rfl, rfl, rfl, rfl, rfl, rfl, rfl, rfl, rfl, rfl, rfl, rfl, rfl, rfl, rfl, rfl, rfl⟩ rfl ?_))
  intro a0 F0
  try dsimp only at F0
  generalize w.alloc _ = w0 at *
  refine wp_seq (reg_mono (fy_r1 (by kernel_rfl) _ F0 (fexamples w0) ?_))
  intro a1 w1 F1 b1
  try dsimp only at F1
  have X1 := (b1.block _ (heap_lt X0)).trans X0
  have B1 := B0.trans (b1.mono B0.size)
  clear X0 B0 b1 F0
  have henc := fencode v ao lo cp lc log w1 (hM.below B1) hm (hL.below B1) hn hs
  simp only [VW.v] at henc
  refine wp_seq (reg_mono (fy_r2 (R := fun W => Below w1.heap.size w1 W) (by kernel_rfl) _ F1 rfl rfl X1 henc ?_))
  intro a2 w2 F2 b2
  try dsimp only at F2
  have X2 := (b2.block _ (heap_lt X1)).trans X1
  have B2 := B1.trans (b2.mono B1.size)
  have hren := rfencode v ao lo cp lc log w2 (hM.below B2) (hL.below B2) hn hs
  simp only [VW.v] at hren
  refine wp_seq (reg_mono (fy_r3 (R := fun W => Below w2.heap.size w2 W) (by kernel_rfl) _ F2 rfl rfl X2 hren ?_))
  intro a3 w3 F3 b3
  try dsimp only at F3
  have X3 := (b3.block _ (heap_lt X2)).trans X2
  have B3 := B2.trans (b3.mono B2.size)
  clear henc hren
  obtain ⟨D, hD⟩ : ∃ D, decL s.data.toList = D := ⟨_, rfl⟩
  have hDl : D.1.mem.length ≤ 4611686018427387903 ∧ D.2.1.length ≤ 17592186044416 := by
    by_cases hz : D.2.2 = 0
    · obtain ⟨h1, h2, h3, h4⟩ := decL_zero (s := s.data.toList) (by rw [hD]; exact hz)
      rw [hD] at h1 h3
      have := h1.2.2.2.1
      omega
    · obtain ⟨h1, h2⟩ := decL_none (s := s.data.toList) (by rw [hD]; exact hz)
      rw [hD] at h1 h2
      rw [h1, h2]
      simp
  refine wp_seq (reg_mono (fy_r4 (R := fun ro rc to' tc W => MemsAt W ro D.1.mem ∧ TextsAt W to' D.2.1 ∧ Below w3.heap.size w3 W) (by kernel_rfl) _ F3 rfl (fdecode_says s w3 (by omega) hD) ?_))
  rintro a4 w4 r4 c4 t4 k4 F4 ⟨M4, T4, b4⟩
  try dsimp only at F4
  have X4 := (b4.block _ (heap_lt X3)).trans X3
  have B4 := B3.trans (b4.mono B3.size)
  have bu := (Below.refl w4.heap.size w4).alloc (Nat.le_refl _) (.cells #[.int .i64 D.1.num, .slice r4 D.1.mem.length c4] tView)
  have Y5 := heap_alloc_new w4 (.cells #[.int .i64 D.1.num, .slice r4 D.1.mem.length c4] tView)
  have X5 := (bu.block _ (heap_lt X4)).trans X4
  have B5 := B4.trans (bu.mono B4.size)
  have M5 := M4.below bu
  have T5 := T4.below bu
  clear bu M4 T4 b4
  generalize w4.heap.size = vb at *
  generalize w4.alloc _ = w5 at *
  refine wp_seq (reg_mono (fy_r5 (R := fun ro rc to' tc W => MemsAt W ro D.1.mem ∧ TextsAt W to' D.2.1 ∧ Below w5.heap.size w5 W) (by kernel_rfl) _ F4 rfl (rfdecode_says s w5 (by omega) hD) ?_))
  rintro a6 w6 r6 c6 t6 k6 F6 ⟨M6, T6, b6⟩
  try dsimp only at F6
  have bu := (Below.refl w6.heap.size w6).alloc (Nat.le_refl _) (.cells #[.int .i64 D.1.num, .slice r6 D.1.mem.length c6] tView)
  have Z7 := heap_alloc_new w6 (.cells #[.int .i64 D.1.num, .slice r6 D.1.mem.length c6] tView)
  have b7 := b6.trans (bu.mono b6.size)
  have X7 := (b7.block _ (heap_lt X5)).trans X5
  have Y7 := (b7.block _ (heap_lt Y5)).trans Y5
  have B7 := B5.trans (b7.mono B5.size)
  have M7 := M5.below b7
  have T7 := T5.below b7
  have M7b := M6.below bu
  have T7b := T6.below bu
  clear bu M5 T5 M6 T6 b6 b7
  generalize w6.heap.size = ub at *
  generalize w6.alloc _ = w7 at *
  have ho := fown v ao go cp gc logs w7 (hM.below B7) hm (hG.below B7) hgn hgs
  simp only [VW.v] at ho
  refine wp_seq (reg_mono (fy_r6 (R := fun W => Below w7.heap.size w7 W) (by kernel_rfl) _ F6 rfl rfl X7 ho ?_))
  intro a8 w8 F8 b8
  try dsimp only at F8
  have X8 := (b8.block _ (heap_lt X7)).trans X7
  have Y8 := (b8.block _ (heap_lt Y7)).trans Y7
  have Z8 := (b8.block _ (heap_lt Z7)).trans Z7
  have B8 := B7.trans (b8.mono B7.size)
  have hro := rfown v ao go cp gc logs w8 (hM.below B8) (hG.below B8) hgn hgs
  simp only [VW.v] at hro
  refine wp_seq (reg_mono (fy_r7 (R := fun W => Below w8.heap.size w8 W) (by kernel_rfl) _ F8 rfl rfl X8 hro ?_))
  intro a9 w9 F9 b9
  try dsimp only at F9
  have Y9 := (b9.block _ (heap_lt Y8)).trans Y8
  have Z9 := (b9.block _ (heap_lt Z8)).trans Z8
  have B9 := B8.trans (b9.mono B8.size)
  have M9 := (M7.below b8).below b9
  have T9 := (T7.below b8).below b9
  have M9b := (M7b.below b8).below b9
  have T9b := (T7b.below b8).below b9
  have hvw := fviews D.1 r4 r6 c4 c6 w9 M9 M9b (by omega)
  simp only [VW.v] at hvw
  refine wp_seq (reg_mono (fy_r8 (R := fun W => Below w9.heap.size w9 W) (by kernel_rfl) _ F9 rfl rfl Y9 Z9 hvw ?_))
  intro a10 w10 F10 b10
  try dsimp only at F10
  have B10 := B9.trans (b10.mono B9.size)
  refine wp_seq (reg_mono (fy_r9 (R := fun W => ∃ n, W = w10.drewN n) (by kernel_rfl) _ F10 rfl rfl (ptexts_eq t4 t6 k4 k6 D.2.1 w10 (T9.below b10) (T9b.below b10) hDl.2) ?_))
  rintro a11 w11 F11 ⟨n11, rfl⟩
  try dsimp only at F11
  refine wp_seq (reg_mono (fy_r10 (by kernel_rfl) _ F11 rfl rfl rfl rfl rfl rfl rfl rfl rfl rfl rfl rfl rfl ?_))
  intro a12 F12
  refine wp_ret ?_
  try dsimp only [Exit.then, Exit.inBlock]
  exact fy_ret (x := true) F12 rfl ⟨rfl, below_drewN B10 _⟩
end Go.Proofs.Ytfcpclpaalekiaa
namespace Go.Proofs.Ytfcpclpaalekiaa
open Go.ChangeShapes Go.WideShapes Go.ChangeAt Go.RowKit
set_option maxRecDepth 100000
open Go.ChangeMaps (open_string shut_string)
theorem flushBytes_lifted (os : Os) (started : os.Started) (H : Type) (enc : TypeId × Value → H) :
    ReturnsInHanded {} Try.checked os 4 .any (Rows.flushBytesSpec.pre6 enc Try.prog Try.f4 Rows.flushBytesRow.domain false) (Rows.flushBytesSpec.post enc Try.prog Try.f4 false true false false) := by
  refine returnsInHanded_of_change_sized (C := Try.checked) own started (by kernel_rfl) Try.func4
    (ChangeSpec.witness6 (enc := enc) (C := Try.checked) false ⟨#[], #[.agg #[.int .i64 0, .slice none 0 0], .slice none 0 0, .string .empty, .slice none 0 0], []⟩ 8 (by kernel_rfl) (by kernel_rfl) (by kernel_rfl) (by kernel_rfl)) ?_
  intro W base args ds gs before hval0 hW hcnd hsz0 _
  have hval : ∀ (j : Nat) t v, Try.f4.params[j]? = some t → args[j]? = some v → Value.okWide Try.prog W .any base t v := hval0
  have hsz : (DataW.weightsEach Try.prog (Try.f4.params.toList ++ Rows.flushBytesSpec.plain.varTypes Try.prog) (ds ++ gs)).all (· ≤ reachBytes) = true := hsz0
  have hW' := hW
  obtain ⟨p, q, hA0, hV, rfl, hfz, hnd⟩ := hW
  have hA : DataW.TrodAll enc Try.prog W 0 (fun _ => true) true Try.f4.params.toList args.toList ds p := hA0
  rw [Try.params4] at hA hval hsz
  obtain ⟨v0, vs0, d0, ds0, p0, q0, hargs, rfl, rfl, h0, r0⟩ := trodAll_cons hA
  obtain ⟨v1, vs1, d1, ds1, p1, q1, rfl, rfl, rfl, h1, r1⟩ := trodAll_cons r0
  obtain ⟨v2, vs2, d2, ds2, p2, q2, rfl, rfl, rfl, h2, r2⟩ := trodAll_cons r1
  obtain ⟨v3, vs3, d3, ds3, p3, q3, rfl, rfl, rfl, h3, r3⟩ := trodAll_cons r2
  obtain ⟨rfl, rfl, rfl⟩ := trodAll_nil r3
  obtain rfl : args = #[v0, v1, v2, v3] := by cases args; simp_all
  obtain ⟨rfl, rfl⟩ := trodVars_none hV
  have k0 := h0
  have lt0 : ∀ x ∈ p0, x.block < W.heap.size := by obtain ⟨m, hm⟩ := k0; exact DataW.trod_lt m _ _ _ hm
  obtain ⟨a0, c0, x0, rfl, n0, m0, ok0, l0⟩ := view_param (hval 0 35 v0 rfl rfl) h0 hsz (j := 0) rfl rfl
  have k1 := h1
  have lt1 : ∀ x ∈ p1, x.block < W.heap.size := by obtain ⟨m, hm⟩ := k1; exact DataW.trod_lt m _ _ _ hm
  obtain ⟨a1, cap1, us1, rfl, cm1, in1, ln1, cp1, nz1⟩ := texts_param (hval 1 23 v1 rfl rfl) h1 hsz (j := 1) rfl rfl
  obtain ⟨a2, rfl, rfl, rfl, w2⟩ := open_string Try.underlying9 (hval 2 9 v2 rfl rfl) h2
  have l2 : a2.size ≤ 140737488351232 := by
    have h := sized_string hsz (j := 2) rfl rfl
    rw [show a2.data.toList.length = a2.size by simp] at h
    simp only [reachBytes] at h
    omega
  have k3 := h3
  have lt3 : ∀ x ∈ p3, x.block < W.heap.size := by obtain ⟨m, hm⟩ := k3; exact DataW.trod_lt m _ _ _ hm
  obtain ⟨a3, cap3, us3, rfl, cm3, in3, ln3, nz3⟩ := logs_param (hval 3 22 v3 rfl rfl) h3 hsz (j := 3) rfl rfl
  clear hA0 hval0
  refine (bytes_walk x0 a0 a1 a3 c0 cap1 cap3 us1 a2 us3 W m0 (by omega) cm1 (by omega) in1 l2 cm3 (by omega) in3).mono fun e W' ⟨he, bel⟩ => ?_
  subst he
  exact ⟨_, rfl, _, _, _, [], _, [], hW', trodAll_mk1 (shut_bool Try.underlying4 _), (trodAll_cons_mk (Below.trod laidOut (by kernel_rfl) (of_decide_eq_true (by kernel_rfl)) k0 bel lt0) (trodAll_cons_mk (Below.trod laidOut (by kernel_rfl) (of_decide_eq_true (by kernel_rfl)) k1 bel lt1) (trodAll_cons_mk (shut_string Try.underlying9 w2) (trodAll_cons_mk (Below.trod laidOut (by kernel_rfl) (of_decide_eq_true (by kernel_rfl)) k3 bel lt3) trodAll_mk0)))), rfl, bel.frame _, fun h => by cases h⟩
theorem flushBytes_holds : Rows.FlushBytesSaid :=
  OpenClaim.holds_of_wide 4 Try.f4 rfl rfl rfl rfl rfl rfl rfl ⟨rfl, rfl, rfl, rfl, rfl⟩ rfl rfl rfl rfl rfl (by kernel_rfl) Try.func4 (by kernel_rfl)
    (of_decide_eq_true (by kernel_rfl)) (by unfold Func.isWrapper; first | (rw [if_pos (by decide +kernel)]; kernel_rfl) | (rw [if_neg (by decide +kernel)]; exact ⟨rfl, rfl⟩))
    (fun os started H enc _ => flushBytes_lifted os started H enc)
#print axioms flushBytes_holds
end Go.Proofs.Ytfcpclpaalekiaa
