/-
  The program's Next (mkpn.py)
-/
import Derived.Test.YtjnbfopipmglgaaZPN1
namespace Go.Proofs.Ytjnbfopipmglgaa
open Go.RowKit

attribute [local go_sem ↓] Go.wp_at_zero Go.wp_at_succ
set_option linter.unusedSimpArgs false
set_option linter.unusedVariables false
theorem pn_ret {w W : World} {a : Act} {v : Vpn} {rb : Nat} {r : VW × Int} {ro : Option Addr} {rc : Nat} (hF : Fpn a v) (h6 : v.v6 = .pointer (some ⟨rb, 0, none⟩)) (h7 : v.v7 = .int .i64 r.2) (hR : W.heap[rb]? = some (.cells #[.int .i64 r.1.num, .slice ro r.1.mem.length rc] tView (0, 0))) (hrow : W.ownsRow w.heap.size tMember 2 (.slice ro r.1.mem.length rc) r.1.mem.length (mbCells r.1.mem)) (hB : Below w.heap.size w W) {T : VW × Int} (hT : r = T) :
    bodyPost Try.prog Try.f12 (fun e w' => NextGave w w' e T) .ret a W := by
  subst hT
  have g6 := slot_get (hF.s6.trans h6)
  have g7 := slot_get (hF.s7.trans h7)
  have c0 := box_cell hR 0 rfl
  have c1 := box_cell hR 1 rfl
  refine bodyPost_ret (v := .tuple #[.agg #[.int .i64 r.1.num, .slice ro r.1.mem.length rc], .int .i64 r.2]) ?_ hF.defers ⟨⟨ro, rc, rfl, hrow⟩, hB⟩
  simp [results, Try.results12, go_sem, g6, g7, c0, c1]
theorem rm_list (A : List MB) (h : ∀ m ∈ A, m.right) : ∃ A' : List RM, A'.map (·.val) = A := by
  induction A with
  | nil => exact ⟨[], rfl⟩
  | cons a A ih =>
    obtain ⟨B, hB⟩ := ih fun m hm => h m (List.mem_cons_of_mem _ hm)
    exact ⟨⟨a, h a List.mem_cons_self⟩ :: B, by rw [List.map_cons, hB]⟩
set_option maxHeartbeats 16000000 in
set_option maxRecDepth 100000 in
theorem pnext : NextSays := by
  intro x A Q ao aa aw cp ca cw w hM hA hQ hl hlA hlQ
  have HM := hide hM
  have HA := hide hA
  have HQ := hide hQ
  obtain ⟨T, hT⟩ : ∃ T, x.next A Q = T := ⟨_, rfl⟩
  rw [hT]
  have HT := hide hT
  have X0 := heap_alloc_new w (.cells #[.int .i64 x.num, .slice ao x.mem.length cp] tView)
  have X1 := heap_alloc_new (w.alloc (.cells #[.int .i64 x.num, .slice ao x.mem.length cp] tView)) (.cells #[.int .i64 0, .slice none 0 0] tView)
  rw [show (w.alloc (.cells #[.int .i64 x.num, .slice ao x.mem.length cp] tView)).heap.size = w.heap.size + 1 by simp] at X1
  have HD := hide (box_alloc X0 (.cells #[.int .i64 0, .slice none 0 0] tView))
  have HR := hide X1
  have HB := hide (((Below.refl w.heap.size w).alloc (Nat.le_refl _) (.cells #[.int .i64 x.num, .slice ao x.mem.length cp] tView)).alloc (by simp) (.cells #[.int .i64 0, .slice none 0 0] tView))
  have hs2 : ((w.alloc (.cells #[.int .i64 x.num, .slice ao x.mem.length cp] tView)).alloc (.cells #[.int .i64 0, .slice none 0 0] tView)).heap.size = w.heap.size + 2 := by simp
  have HS := hide hs2
  clear hM hA hQ hT X0 X1 hs2
  simp only [VW.v]
  go_enter Try.func12, Try.ntmps12
  go_upto_region 1 with fail
  rename_i Kp hKp Ko hKo
  generalize (w.alloc (.cells #[.int .i64 x.num, .slice ao x.mem.length cp] tView)).alloc (.cells #[.int .i64 0, .slice none 0 0] tView) = w1 at *
  refine reg_mono (pn_r1 (r := decide x.right) (q := decide (∀ m ∈ A, m.right)) (by kernel_rfl) _ (v := ⟨_, _, _, _, _, _⟩) ⟨rfl, rfl, rfl, rfl, rfl, rfl, rfl, rfl⟩ rfl rfl HD.out (pright x ao cp w1 (HM.out.below HB.out) hl) (fun W hW => pallright A aa ca W ((HA.out.below HB.out).below hW) hlA) ?_)
  intro a2 w2 F2 h21 b2
  have D2 := (b2.block _ (heap_lt HD.out)).trans HD.out
  have R2 := (b2.block _ (heap_lt HR.out)).trans HR.out
  have B2 := HB.out.trans (b2.mono HB.out.size)
  have S2 : w.heap.size + 2 ≤ w2.heap.size := by rw [← HS.out]; exact b2.size
  refine hKo _ _ ?_
  by_cases c1 : ¬ x.right ∨ x.num = big ∨ ¬ (∀ m ∈ A, m.right)
  · rw [show (!decide x.right || x.num == big || !decide (∀ m ∈ A, m.right)) = true by rcases c1 with e | e | e <;> simp [e]] at h21
    refine wp_cond_true h21 (wp_seq (reg_mono (pn_r2 (by kernel_rfl) _ F2 rfl R2 ?_)))
    intro a4 w4 F4 t4 r4
    refine wp_ret ?_
    have eT : T = (⟨0, []⟩, 1) := by
      rw [← HT.out]
      unfold VW.next
      by_cases c2 : ¬ x.right ∨ x.num = big
      · rw [if_pos c2]
      · rw [if_neg c2, if_pos (c1.elim (fun e => absurd (.inl e) c2) fun e => e.elim (fun e => absurd (.inr e) c2) id)]
    exact pn_ret (r := (⟨0, []⟩, 1)) F4 rfl rfl r4 (World.ownsRow_nil _ _ _ _) (B2.trans (t4.toBelow B2.size fun k hk e => by omega)) eT.symm
  have hv : x.right := Decidable.not_not.1 fun e => c1 (.inl e)
  have hn : x.num ≠ big := fun e => c1 (.inr (.inl e))
  have hr : ∀ m ∈ A, m.right := Decidable.not_not.1 fun e => c1 (.inr (.inr e))
  rw [show (!decide x.right || x.num == big || !decide (∀ m ∈ A, m.right)) = false by simp [hv, hn]; exact hr] at h21
  refine wp_cond_false h21 (wp_skip ?_)
  refine hKp _ _ ?_
  have hnum : 1 ≤ x.num ∧ x.num < big := ⟨hv.1, by have := hv.2.1; omega⟩
  obtain ⟨A', hA'⟩ := rm_list A hr
  have hAl : A'.length = A.length := by rw [← hA', List.length_map]
  refine wp_seq (reg_mono (pn_r3 (L := nextUpto A Q 7) (by kernel_rfl) _ F2 rfl rfl rfl D2 hnum rfl (fun W Ba Bw hW h1 h2 => ?_) ?_))
  · have hW2 : Below w.heap.size w W := B2.trans (hW.mono B2.size)
    refine (pcollect (id : MB → MB) _ _ 7 W.heap.size _ (by omega) _ (enters_of Try.func44 (by kernel_rfl) rfl) W (Nat.le_refl _) (fun n => enext_stops A' A hA' Q n Ba Bw ca cw aa aw (by omega) hlQ W (heap_lt h1) (heap_lt h2) (by rw [hAl]; exact box1_cell h1) (box1_cell h2) (HA.out.below hW2) (HQ.out.below hW2))).mono ?_
    rintro e w' ⟨xs, ro, rc, rfl, rfl, h3, h4⟩
    rw [List.map_id] at h3
    exact ⟨ro, rc, rfl, ownsRow_base h3 hW.size, h4⟩
  intro a3 w3 ob ro rc F3 o3 row3 b3
  have D3 := (b3.block _ (heap_lt D2)).trans D2
  have R3 := (b3.block _ (heap_lt R2)).trans R2
  have B3 := B2.trans (b3.mono B2.size)
  have hN7 : (nextUpto A Q 7).length ≤ 7 := next_len _ _ _
  refine wp_seq (wp_seq (reg_mono (pn_r4 (cc := comm x.mem (nextUpto A Q 7)) (mj := x.maj) (by kernel_rfl) _ F3 rfl rfl D3 o3 (fun W hW => pcommon x ⟨x.num + 1, nextUpto A Q 7⟩ ao ro cp rc W (HM.out.below (B3.trans (hW.mono B3.size))) ((mems_of_row row3 rfl).below hW) hl (by simp only; omega)) (fun W => pmajority x ao cp W hl) ?_)))
  intro a4 w4 F4 h36 b4
  have o4 := (b4.block _ (heap_lt o3)).trans o3
  have R4 := (b4.block _ (heap_lt R3)).trans R3
  have B4 := B3.trans (b4.mono B3.size)
  have row4 := below_row b4 row3
  by_cases c3 : comm x.mem (nextUpto A Q 7) < x.maj
  · rw [decide_eq_true c3] at h36
    refine wp_cond_true h36 (wp_seq (reg_mono (pn_r5 (by kernel_rfl) _ F4 rfl R4 ?_)))
    intro a5 w5 F5 t5 r5
    refine wp_ret ?_
    have eT : T = (⟨0, []⟩, 12) := by rw [← HT.out]; unfold VW.next; rw [if_neg (fun e => e.elim (fun e => e hv) hn), if_neg (fun e => e hr), if_pos c3]
    exact pn_ret (r := (⟨0, []⟩, 12)) F5 rfl rfl r5 (World.ownsRow_nil _ _ _ _) (B4.trans (t5.toBelow B4.size fun k hk e => by omega)) eT.symm
  · rw [decide_eq_false c3] at h36
    refine wp_cond_false h36 (wp_skip ?_)
    show Code.wp _ _ _ _ _
    refine wp_seq (reg_mono (pn_r6 (by kernel_rfl) _ F4 rfl rfl o4 R4 ?_))
    intro a5 w5 F5 t5 r5
    refine wp_ret ?_
    have eT : T = (⟨x.num + 1, nextUpto A Q 7⟩, 0) := by rw [← HT.out]; unfold VW.next; rw [if_neg (fun e => e.elim (fun e => e hv) hn), if_neg (fun e => e hr), if_neg c3]
    have hrow5 : w5.ownsRow w.heap.size tMember 2 (.slice ro (nextUpto A Q 7).length rc) (nextUpto A Q 7).length (mbCells (nextUpto A Q 7)) := t5.row (ownsRow_base row4 (by omega)) (fun j hj e => row_not row4 hj R4 e)
    exact pn_ret (r := (⟨x.num + 1, nextUpto A Q 7⟩, 0)) F5 rfl rfl r5 hrow5 (B4.trans (t5.toBelow B4.size fun k hk e => by omega)) eT.symm
end Go.Proofs.Ytjnbfopipmglgaa
