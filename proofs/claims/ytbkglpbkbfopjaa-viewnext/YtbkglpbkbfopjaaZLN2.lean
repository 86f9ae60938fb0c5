/-
  ViewNext, as it runs, of what the program answers (mkvl.py).
-/
import Derived.Test.YtbkglpbkbfopjaaZLN1
namespace Go.Proofs.Ytbkglpbkbfopjaa
open Go.RowKit

attribute [local go_sem ↓] Go.wp_at_zero Go.wp_at_succ
set_option linter.unusedSimpArgs false
set_option linter.unusedVariables false
theorem ln_ret {w W : World} {a : Act} {v : Vln} {r : Bool} (hF : Fln a v) (h6 : v.v6 = .bool r) (hB : Below w.heap.size w W) :
    bodyPost Try.prog Try.f4 (fun e w' => e = .returned (.bool r) ∧ Below w.heap.size w w') .ret a W := by
  have g6 := slot_get (hF.s6.trans h6)
  refine bodyPost_ret (v := .bool r) ?_ hF.defers ⟨rfl, hB⟩
  simp [results, Try.results4, go_sem, g6]
theorem next_len7 (x : VW) (A : List MB) (Q : List Int) : (x.next A Q).1.mem.length ≤ 7 := by
  unfold VW.next
  split
  · simp
  · split
    · simp
    · split
      · simp
      · exact next_len A Q 7
set_option maxHeartbeats 16000000 in
set_option maxRecDepth 100000 in
theorem next_walk (HX : ExSays) (HN : NextSays) (x : VW) (A : List MB) (Q : List Int) (ao aa aw : Option Addr) (cp ca cw : Nat) (w : World) (hM : MemsAt w ao x.mem) (hA : MemsAt w aa A) (hQ : IntsAt w aw Q) (hl : x.mem.length ≤ 4611686018427387903) (hlA : A.length ≤ 4611686018427387903) (hlQ : Q.length ≤ 4611686018427387903) :
    Calls Try.prog 4 #[x.v ao cp, .slice aa A.length ca, .slice aw Q.length cw] w fun e w' => e = .returned (.bool true) ∧ Below w.heap.size w w' := by
  have HXX := hide HX
  have RN : Hid (∀ W, Below w.heap.size w W → Calls Try.prog 19 #[x.v ao cp, .slice aa A.length ca, .slice aw Q.length cw] W fun e w' => NextGave W w' e (x.next A Q)) := fun W b => rnext x A Q ao aa aw cp ca cw W (hM.below b) (hA.below b) (hQ.below b) (by omega) hlA hlQ
  have PN : Hid (∀ W, Below w.heap.size w W → Calls Try.prog 20 #[x.v ao cp, .slice aa A.length ca, .slice aw Q.length cw] W fun e w' => NextGave W w' e (x.next A Q)) := fun W b => HN x A Q ao aa aw cp ca cw W (hM.below b) (hA.below b) (hQ.below b) hl hlA hlQ
  have hTl := next_len7 x A Q
  obtain ⟨T, hT⟩ : ∃ T, x.next A Q = T := ⟨_, rfl⟩
  rw [hT] at RN PN hTl
  have X0 := hide (heap_alloc_new w (.cells #[.int .i64 x.num, .slice ao x.mem.length cp] tView))
  have HB := hide ((Below.refl w.heap.size w).alloc (Nat.le_refl _) (.cells #[.int .i64 x.num, .slice ao x.mem.length cp] tView))
  clear hM hA hQ hT HX HN hl hlA hlQ
  simp only [VW.v] at RN PN ⊢
  go_enter Try.func4, Try.ntmps4
  go_upto_region 1 with fail
  rename_i Ko hKo
  generalize w.alloc (.cells #[.int .i64 x.num, .slice ao x.mem.length cp] tView) = w1 at *
  refine reg_mono (ln_r1 (by kernel_rfl) _ (v := ⟨_, _, _, _, _, _, _, _, _, _, _, _⟩) ⟨rfl, rfl, rfl, rfl, rfl, rfl, rfl, rfl, rfl, rfl, rfl, rfl, rfl, rfl⟩ (HXX.out w1) ?_)
  intro a2 w2 F2 b2
  refine hKo _ _ ?_
  have D2 := (b2.block _ (heap_lt X0.out)).trans X0.out
  have B2 := HB.out.trans (b2.mono HB.out.size)
  refine wp_seq (reg_mono (ln_r2 (by kernel_rfl) _ F2 rfl rfl rfl D2 (RN.out w2 B2) ?_))
  intro a3 w3 bo cq F3 M3 b3
  have D3 := box_alloc ((b3.block _ (heap_lt D2)).trans D2) (.cells #[.int .i64 T.1.num, .slice bo T.1.mem.length cq] tView)
  have B3' := B2.trans (b3.mono B2.size)
  have B3 := B3'.alloc B3'.size (.cells #[.int .i64 T.1.num, .slice bo T.1.mem.length cq] tView)
  have E3 := heap_alloc_new w3 (.cells #[.int .i64 T.1.num, .slice bo T.1.mem.length cq] tView)
  have M3' : (w3.alloc (.cells #[.int .i64 T.1.num, .slice bo T.1.mem.length cq] tView)).ownsRow w.heap.size tMember 2 (.slice bo T.1.mem.length cq) T.1.mem.length (mbCells T.1.mem) := by
    refine World.ownsRow.alloc ⟨M3.1, ?_⟩ _
    rcases M3.2 with e | ⟨g', cap', cur, e, hg, rest⟩
    · exact .inl e
    · exact .inr ⟨g', cap', cur, e, Nat.le_trans B2.size hg, rest⟩
  clear M3
  generalize w3.alloc (.cells #[.int .i64 T.1.num, .slice bo T.1.mem.length cq] tView) = w4 at *
  generalize w3.heap.size = q at *
  refine wp_seq (wp_seq (reg_mono (ln_r3 (by kernel_rfl) _ F3 ?_)))
  intro a4 F4
  refine wp_block (wp_loop (fun a W => ∃ (i : Nat) (v : Vln), i ≤ 2 ∧ Fln a v ∧ v.v1 = .slice aa A.length ca ∧ v.v2 = .slice aw Q.length cw ∧ v.v3 = .pointer (some ⟨w.heap.size, 0, none⟩) ∧ v.v7 = .bool true ∧ v.v8 = .pointer (some ⟨q, 0, none⟩) ∧ v.v9 = .int .i64 T.2 ∧ v.v10 = .int .i64 (i : Int) ∧ W.heap[w.heap.size]? = some (.cells #[.int .i64 x.num, .slice ao x.mem.length cp] tView (0, 0)) ∧ W.heap[q]? = some (.cells #[.int .i64 T.1.num, .slice bo T.1.mem.length cq] tView (0, 0)) ∧ W.ownsRow w.heap.size tMember 2 (.slice bo T.1.mem.length cq) T.1.mem.length (mbCells T.1.mem) ∧ Below w.heap.size w W) (fun a _ => 2 - (intOf (a.tmps.getD 10 undef)).toNat) ⟨0, _, by omega, F4, rfl, rfl, rfl, rfl, rfl, rfl, rfl, D3, E3, M3', B3⟩ ?_)
  clear F2 F3 F4 D2 D3 B2 B3 B3' E3 M3' b2 b3
  rintro a5 w5 ⟨i, v5, hi, F5, g1, g2, g3, g7, g8, g9, g10, D5, E5, M5, B5⟩
  have hm5 : (intOf (a5.tmps.getD 10 undef)).toNat = i := by rw [F5.s10, g10]; simp [intOf]
  refine wp_seq (wp_seq (reg_mono (ln_r4 (by kernel_rfl) _ F5 g10 ?_)))
  intro a6 F6 h24
  by_cases hlt : i < 2
  · rw [decide_eq_true hlt] at h24
    refine wp_cond_true h24 (wp_skip ?_)
    show Code.wp _ _ _ _ _
    refine wp_seq (wp_block (wp_seq (reg_mono (ln_r6 (by kernel_rfl) _ F6 g1 g2 g3 D5 (PN.out w5 B5) ?_))))
    intro a7 w7 po pc F7 N7 b7
    have D7 := box_alloc ((b7.block _ (heap_lt D5)).trans D5) (.cells #[.int .i64 T.1.num, .slice po T.1.mem.length pc] tView)
    have E7 := box_alloc ((b7.block _ (heap_lt E5)).trans E5) (.cells #[.int .i64 T.1.num, .slice po T.1.mem.length pc] tView)
    have B7' := B5.trans (b7.mono B5.size)
    have B7 := B7'.alloc B7'.size (.cells #[.int .i64 T.1.num, .slice po T.1.mem.length pc] tView)
    have P7 := heap_alloc_new w7 (.cells #[.int .i64 T.1.num, .slice po T.1.mem.length pc] tView)
    have M7 := ((Touch.of_below (own := fun _ => False) b7).row M5 fun _ _ e => e).alloc (.cells #[.int .i64 T.1.num, .slice po T.1.mem.length pc] tView)
    have N7' := N7.alloc (.cells #[.int .i64 T.1.num, .slice po T.1.mem.length pc] tView)
    have hlt5 : ∀ j, (Value.slice bo T.1.mem.length cq).ownBlock = some j → j < w5.heap.size := fun j e => (M5.lt j e).2
    clear N7 B7'
    generalize w7.alloc (.cells #[.int .i64 T.1.num, .slice po T.1.mem.length pc] tView) = w8 at *
    generalize w7.heap.size = p at *
    refine wp_seq (reg_mono (ln_r7 (by kernel_rfl) _ F7 g8 rfl P7 E7 (mems_of_row N7' rfl) (mems_of_row M7 rfl) (by omega) ?_))
    intro a9 w9 F9 b9
    have D9 := (b9.block _ (heap_lt D7)).trans D7
    have E9 := (b9.block _ (heap_lt E7)).trans E7
    have P9 := (b9.block _ (heap_lt P7)).trans P7
    have B9 := B7.trans (b9.mono B7.size)
    have M9 := (Touch.of_below (own := fun _ => False) b9).row M7 fun _ _ e => e
    have N9 := (Touch.of_below (own := fun _ => False) b9).row N7' fun _ _ e => e
    clear D7 E7 P7 B7 M7 N7'
    refine wp_seq (wp_seq (reg_mono (ln_r8 (by kernel_rfl) _ F9 g9 rfl rfl ?_)))
    intro a10 F10 h43
    refine wp_cond_false h43 (wp_skip ?_)
    show Code.wp _ _ _ _ _
    refine wp_seq (reg_mono (ln_r10 (by kernel_rfl) _ F10 ?_))
    intro a11 F11
    refine wp_block (wp_loop (fun a W => ∃ k v, k ≤ T.1.mem.length ∧ Fln a v ∧ v.v1 = .slice aa A.length ca ∧ v.v2 = .slice aw Q.length cw ∧ v.v3 = .pointer (some ⟨w.heap.size, 0, none⟩) ∧ v.v7 = .bool true ∧ v.v8 = .pointer (some ⟨q, 0, none⟩) ∧ v.v9 = .int .i64 T.2 ∧ v.v10 = .int .i64 (i : Int) ∧ v.v11 = .pointer (some ⟨p, 0, none⟩) ∧ v.v14 = .int .i64 (k : Int) ∧ Touch (fun j => (Value.slice po T.1.mem.length pc).ownBlock = some j) w9 W ∧ (0 < T.1.mem.length → ∃ g cur, po = some ⟨g, 0, none⟩ ∧ W.heap[g]? = some (.cells cur tMember (0, 0)) ∧ T.1.mem.length * 2 ≤ cur.size)) (fun a _ => T.1.mem.length - (intOf (a.tmps.getD 14 undef)).toNat) ⟨0, _, Nat.zero_le _, F11, g1, g2, g3, g7, g8, g9, g10, rfl, rfl, Touch.refl _ _, fun h0 => by
      obtain ⟨g, cur, e1, _, e3, e4⟩ := row_block N9 h0
      exact ⟨g, cur, e1, e3, e4⟩⟩ ?_)
    clear F5 F6 F7 F9 F10 F11 g1 g2 g3 g7 g8 g9 g10
    rintro a12 w12 ⟨k, v12, hk, F12, g1, g2, g3, g7, g8, g9, g10, g11, g14, t12, c12⟩
    have hm12 : (intOf (a12.tmps.getD 14 undef)).toNat = k := by rw [F12.s14, g14]; simp [intOf]
    have P12 := t12.at P9 fun e => row_not N9 e P9 rfl
    refine wp_seq (wp_seq (reg_mono (ln_r11 (by kernel_rfl) _ F12 g11 g14 P12 ?_)))
    intro a13 F13 h48
    by_cases hlk : k < T.1.mem.length
    · rw [decide_eq_true hlk] at h48
      refine wp_cond_true h48 (wp_skip ?_)
      show Code.wp _ _ _ _ _
      obtain ⟨g, cur, rfl, hg, hcs⟩ := c12 (by omega)
      refine wp_seq (wp_block (reg_all (ln_r13 (z0 := cur[0 + k * 2]'(by omega)) (z1 := cur[0 + k * 2 + 1]'(by omega)) (by kernel_rfl) _ F13 g11 g14 hlk P12 (box_cell hg _ (by simp)) (box_cell hg _ (by simp)) (box_free hg _) (box_free hg _) ?_)))
      intro a14 F14
      show Code.wp _ _ _ _ _
      refine reg_all (ln_r12 (by kernel_rfl) _ F14 g14 (by omega) ?_)
      intro a15 F15
      refine ⟨⟨k + 1, _, by omega, F15, g1, g2, g3, g7, g8, g9, g10, g11, rfl, (t12.setCell ⟨g, 0 + k * 2, none⟩ _ fun _ => rfl).setCell ⟨g, 0 + k * 2 + 1, none⟩ _ fun _ => rfl, fun _ => ⟨g, _, rfl, box_set (box_set hg _ _) _ _, by simp; omega⟩⟩, ?_⟩
      have hm15 : (intOf (a15.tmps.getD 14 undef)).toNat = k + 1 := by rw [F15.s14]; simp only [intOf]; omega
      rw [hm15, hm12]
      omega
    rw [decide_eq_false hlk] at h48
    refine wp_cond_false h48 (wp_exit ?_)
    show Code.wp _ _ _ _ _
    refine reg_all (ln_r5 (by kernel_rfl) _ F13 g10 (by omega) ?_)
    intro a14 F14
    refine ⟨⟨i + 1, _, by omega, F14, g1, g2, g3, g7, g8, g9, rfl, t12.at D9 fun e => row_not N9 e D9 rfl, t12.at E9 fun e => row_not N9 e E9 rfl, t12.row M9 fun j hj e => ?_, B9.trans (t12.toBelow B9.size fun j hj e => ?_)⟩, ?_⟩
    · have h1 := hlt5 j hj
      have h2 := (N9.lt j e).1
      omega
    · have h2 := (N9.lt j e).1
      have h3 := B5.size
      omega
    · have hm14 : (intOf (a14.tmps.getD 10 undef)).toNat = i + 1 := by rw [F14.s10]; simp only [intOf]; omega
      rw [hm14, hm5]
      omega
  rw [decide_eq_false hlt] at h24
  refine wp_cond_false h24 (wp_exit ?_)
  show Code.wp _ _ _ _ _
  refine wp_seq (reg_mono (ln_r14 (by kernel_rfl) _ F6 g7 ?_))
  intro a7 F7
  refine wp_ret ?_
  exact ln_ret F7 rfl B5
end Go.Proofs.Ytbkglpbkbfopjaa
