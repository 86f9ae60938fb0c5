/-
  goOn, as it runs.
-/
import Derived.Test.YtgnehnlmbodijaaDoorZGD
import Derived.ScopeJumps
import Derived.WalkMore
namespace Go.Proofs.YtgnehnlmbodijaaDoor
open Go.RowKit

/-- A scope with jumps back to one label that is entered from above: the pass is walked once. -/
theorem wp_scope_one {P : Program} {a : Act} {w : World} {Q : Exit → Act → World → Prop} {c r : Code} (l : Nat) (J : Act → World → Prop) (m : Act → World → Nat) (hf : findLabel c l = some (.seq .skip r))
    (pass : ∀ a w, J a w → r.wp P (Exit.jump l (fun a' w' => J a' w' ∧ m a' w' < m a w) Q) a w)
    (first : (∀ a w, J a w → r.wp P (Exit.jump l J Q) a w) → c.wp P (Exit.jump l J Q) a w) : (Code.scope c).wp P Q a w :=
  wp_scope_jumps l J m hf (first fun a w h => wp_mono (pass a w h) fun e a w q => by
    cases e with
    | goto l => exact ⟨q.1, q.2.1⟩
    | _ => exact q) (fun a w h => wp_seq (wp_skip (pass a w h)))

structure GO (w : World) (g : Nat) (s : ByteArray) (low most : Int) (R : List (Rec × Nat) × Nat × Int) (wr : World) (out : List (Rec × Nat)) (least : Int) (pos : Nat) (x : Rec) (ro bo : Value) : Prop where
  gi : GI s.data.toList low most out least pos R
  gs : GS w wr g s low most out least pos 0 x ro bo
def posOf (g : Nat) (w : World) : Nat := match w.cell? ⟨g, 2, none⟩ with
  | some v => (intOf v).toNat
  | none => 0
theorem GX.posOf {w wr : World} {g : Nat} {s : ByteArray} {low most : Int} {out : List (Rec × Nat)} {least : Int} {pos : Nat} {er : Int} {x : Rec} {ro bo : Value} (h : GS w wr g s low most out least pos er x ro bo) : posOf g wr = pos := by
  unfold Go.Proofs.YtgnehnlmbodijaaDoor.posOf
  rw [(box8 h.box).1.2.2.1]
  simp [intOf]
/-- What holds at the label. -/
structure JG (w : World) (g : Nat) (s : ByteArray) (low most : Int) (R : List (Rec × Nat) × Nat × Int) (a' : Act) (w' : World) : Prop where
  fr : Fr g w.heap.size a'
  go : ∃ (out : List (Rec × Nat)) (least : Int) (pos : Nat) (x : Rec) (ro bo : Value), GO w g s low most R w' out least pos x ro bo
def mG (g : Nat) (s : ByteArray) (_ : Act) (w : World) : Nat := s.size - posOf g w

/-- What is there behind goOn. -/
def GoneOn (w : World) (g : Nat) (s : ByteArray) (low most : Int) (R : List (Rec × Nat) × Nat × Int) (w' : World) : Prop :=
  ∃ (least : Int) (ro bo : Value), w'.heap[g]? = some (.cells #[ro, bo, .int .i64 R.2.1, .int .i64 R.2.2, .string s, .int .i64 least, .int .i64 low, .int .i64 most] 73) ∧ w'.ownsRow (w.heap.size + 1) 23 5 ro R.1.length (recCells R.1) ∧ w'.ownsRow (w.heap.size + 1) 3 1 bo R.1.length (posCells R.1) ∧ Touch (fun j => j = g) w w'
theorem GX.gone {w wr : World} {g : Nat} {s : ByteArray} {low most : Int} {out : List (Rec × Nat)} {least : Int} {pos : Nat} {er : Int} {x : Rec} {ro bo : Value} {R : List (Rec × Nat) × Nat × Int} (h : GS w wr g s low most out least pos er x ro bo) (hR : R = (out, pos, er)) : GoneOn w g s low most R wr := by
  subst hR
  exact ⟨least, ro, bo, h.box, h.rows, h.begs, h.touch⟩

theorem GX.snoc {w wr : World} {g : Nat} {s : ByteArray} {low most : Int} {out : List (Rec × Nat)} {least : Int} {pos p : Nat} {er : Int} {x y : Rec} {ro bo : Value} (h : GX w wr g s low most (out.length + 1) (recCells out ++ y.cells) (out.length + 1) (posCells out ++ [.int .i64 p]) least pos er x ro bo) : GS w wr g s low most (out ++ [(y, p)]) least pos er x ro bo := by
  have h2 := h
  rw [← recCells_snoc out (y, p), ← posCells_snoc out (y, p), show out.length + 1 = (out ++ [(y, p)]).length by simp] at h2
  exact h2
set_option maxHeartbeats 8000000 in
set_option maxRecDepth 100000 in
theorem goOn_any (g : Nat) (s : ByteArray) (base low most : Int) (pos0 : Nat) (w : World) (hT : Tab w) (h63 : s.size ≤ 9223372036854775807) (hp : pos0 ≤ s.size) (hg : w.heap[g]? = some (.cells #[.slice none 0 0, .slice none 0 0, .int .i64 pos0, .int .i64 0, .string s, .int .i64 base, .int .i64 low, .int .i64 most] 73)) (hR : (fromF base low most pos0 s.data.toList).1.length ≤ 1099511627776) :
    Calls Tryd.prog 33 #[.pointer (some ⟨g, 0, none⟩)] w fun e w' => e = .returned (.tuple #[]) ∧ GoneOn w g s low most (fromF base low most pos0 s.data.toList) w' := by
  have hsz : s.data.toList.length = s.size := by simp
  have HI := hide (GI.init base low most pos0 s.data.toList (by omega))
  have HT := hide hT
  have HG := hide hg
  have hgl : g < w.heap.size := (Array.getElem?_eq_some_iff.1 hg).1
  have hgne : g ≠ w.heap.size := by omega
  have hgt : g ≠ 1 := hT.ne (box8 hg).1.1
  generalize hRR : fromF base low most pos0 s.data.toList = R at *
  clear hT hg hRR
  go_enter Tryd.func33, Tryd.ntmps33
  go_wp2
  refine wp_scope_one 0 (JG w g s low most R) (mG g s) rfl ?pass ?first
  case first =>
    intro h1
    have H1 := hide h1
    clear h1
    go_wp2
    go_step3
    rename_i K hK
    refine hK _ _ (H1.out _ _ ⟨⟨rfl, rfl, rfl, rfl⟩, [], base, pos0, Rec.zero, .slice none 0 0, .slice none 0 0, HI.out, ?_⟩)
    exact ⟨(heap_alloc_old w _ hgl).trans HG.out, heap_alloc_new w _, nil_own _ _ _ _, nil_own _ _ _ _, fun k hk => by simp [Value.ownBlock] at hk, (Touch.refl _ w).alloc _⟩
  case pass =>
    rintro a wr ⟨hF, out, least, pos, x, ro, bo, hG⟩
    have hle := hG.gi.le
    rw [hsz] at hle
    obtain ⟨roa, roc, rfl⟩ := own_slice hG.gs.rows
    obtain ⟨boa, boc, rfl⟩ := own_slice hG.gs.begs
    have hme := hG.gs.posOf
    have hfits := hG.gi.fits
    clear HI HG
    (repeat apply wp_seq)
    refine reg_mono (reg2_any (by kernel_rfl) _ hgl hF rfl hG.gs h63 (by omega) _ rfl ?_)
    intro a2 q2 hF2 _ h27
    have gs2 := hG.gs.below (below_drewN (Below.refl _ wr) q2)
    by_cases hend : pos = s.size ∨ most ≤ (out.length : Int)
    · rw [decide_eq_true hend] at h27
      refine wp_cond_true h27 ?_
      apply wp_ret
      have GD := hG.gi.done (by rw [hsz]; exact hend)
      show bodyPost Tryd.prog Tryd.f33 (fun e w' => e = .returned (.tuple #[]) ∧ GoneOn w g s low most R w') .ret a2 _
      exact bodyPost_ret (v := .tuple #[]) (by simp [results, Tryd.results33, go_sem]) hF2.defers ⟨rfl, gs2.gone GD⟩
    · rw [decide_eq_false hend] at h27
      have hp1 : pos < s.size := by
        rcases Nat.lt_or_ge pos s.size with h | h
        · exact h
        · exact absurd (.inl (by omega)) hend
      have hp2 : (out.length : Int) < most := by
        by_cases h : (out.length : Int) < most
        · exact h
        · exact absurd (.inr (by omega)) hend
      refine wp_cond_false h27 ?_
      apply wp_skip
      have hTq := HT.out.touch gs2.touch fun e => hgt e.symm
      generalize wr.drewN q2 = wq at *
      obtain ⟨y, n, er, hH⟩ : ∃ y n er, headR least (s.data.toList.drop pos) = (y, n, er) := ⟨_, _, _, rfl⟩
      have hfault := hG.gi.fault (by omega) hp2
      have hkeep := hG.gi.keep (by omega) hp2
      have hpass := hG.gi.pass (by omega) hp2
      have hsize := @headR_size least (s.data.toList.drop pos)
      have hright := @headR_right least (s.data.toList.drop pos)
      rw [List.length_drop, hsz] at hsize
      rw [hH] at hfault hkeep hpass hsize hright
      simp only at hfault hkeep hpass hsize hright
      show Code.wp _ _ _ _ _
      (repeat apply wp_seq)
      refine reg_mono (reg3_any (by kernel_rfl) _ hgl hF2 hsz h63 hp1 gs2 hTq y n er hH ?_)
      intro a3 w3 hF3 h33 gs3
      show Code.wp _ _ _ _ _
      (repeat apply wp_seq)
      refine reg_mono (reg4_any (by kernel_rfl) _ hgl hF3 h33 gs3 _ rfl ?_)
      intro a4 hF4 h43 h56
      by_cases hez : er = 0
      · subst hez
        refine wp_cond_false h56 ?_
        apply wp_skip
        obtain ⟨hn1, hn2⟩ := hsize rfl
        obtain ⟨hy0, hy1, _⟩ := hright rfl
        show Code.wp _ _ _ _ _
        (repeat apply wp_seq)
        refine reg_mono (reg5_any (by kernel_rfl) _ hgl hF4 h43 gs3 _ rfl ?_)
        intro a5 q5 hF5 h53 h63'
        have gs5 := gs3.below (below_drewN (Below.refl _ w3) q5)
        generalize w3.drewN q5 = w5 at *
        by_cases hlo : low ≤ y.off
        · rw [decide_eq_true hlo] at h63'
          have hk := hkeep rfl hlo
          have hfit := hk.fits
          rw [List.length_append, List.length_singleton] at hfit
          refine wp_cond_true h63' ?_
          (repeat apply wp_seq)
          refine reg_mono (reg6_any (by kernel_rfl) _ hgl hF5 h53 (by omega) gs5 ?_)
          intro a6 w6 ra rc hF6 h6s gs6
          show Code.wp _ _ _ _ _
          refine reg_mono (reg7_any (by kernel_rfl) _ hgl hF6 h6s (by omega) gs6 ?_)
          intro a7 w7 ba bc hF7 h7s gs7
          show Code.wp _ _ _ _ _
          (repeat apply wp_seq)
          refine reg_mono (reg8_any (by kernel_rfl) _ hgl hF7 h7s gs7 hy0 hy1 ?_)
          intro a8 hF8 h8s
          have gs8 := gs7.put hgl 5 (.int .i64 (y.off + 1)) (y.off + 1) pos rfl
          generalize w7.setCell ⟨g, 5, none⟩ (.int .i64 (y.off + 1)) = w8 at *
          show Code.wp _ _ _ _ _
          (repeat apply wp_seq)
          refine reg_mono (reg9_any (by kernel_rfl) _ hgl hF8 h8s gs8 n rfl (by omega) ?_)
          intro a9 hF9
          have gs9 := (gs8.put hgl 2 (.int .i64 ((pos + n : Nat) : Int)) (y.off + 1) (pos + n) rfl).snoc
          apply wp_goto
          refine ⟨rfl, ⟨hF9, out ++ [(y, pos)], y.off + 1, pos + n, y, _, _, hk, gs9⟩, ?_⟩
          show s.size - posOf g _ < s.size - posOf g _
          rw [hme, gs9.posOf]
          omega
        · rw [decide_eq_false hlo] at h63'
          have hk := hpass rfl hlo
          refine wp_cond_false h63' ?_
          apply wp_skip
          show Code.wp _ _ _ _ _
          (repeat apply wp_seq)
          refine reg_mono (reg8_any (by kernel_rfl) _ hgl hF5 h53 gs5 hy0 hy1 ?_)
          intro a8 hF8 h8s
          have gs8 := gs5.put hgl 5 (.int .i64 (y.off + 1)) (y.off + 1) pos rfl
          generalize w5.setCell ⟨g, 5, none⟩ (.int .i64 (y.off + 1)) = w8 at *
          show Code.wp _ _ _ _ _
          (repeat apply wp_seq)
          refine reg_mono (reg9_any (by kernel_rfl) _ hgl hF8 h8s gs8 n rfl (by omega) ?_)
          intro a9 hF9
          have gs9 := gs8.put hgl 2 (.int .i64 ((pos + n : Nat) : Int)) (y.off + 1) (pos + n) rfl
          apply wp_goto
          refine ⟨rfl, ⟨hF9, out, y.off + 1, pos + n, y, _, _, hk, gs9⟩, ?_⟩
          show s.size - posOf g _ < s.size - posOf g _
          rw [hme, gs9.posOf]
          omega
      · rw [show (er != 0) = true by rw [bne_iff_ne]; exact hez] at h56
        refine wp_cond_true h56 ?_
        apply wp_ret
        show bodyPost Tryd.prog Tryd.f33 (fun e w' => e = .returned (.tuple #[]) ∧ GoneOn w g s low most R w') .ret a4 _
        exact bodyPost_ret (v := .tuple #[]) (by simp [results, Tryd.results33, go_sem]) hF4.defers ⟨rfl, gs3.gone (hfault hez)⟩
end Go.Proofs.YtgnehnlmbodijaaDoor
