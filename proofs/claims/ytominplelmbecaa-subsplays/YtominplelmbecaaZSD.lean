/-
  slices.DeleteFunc at records that rise and the closure of granted; granted, as they run.
-/
import Derived.Test.YtominplelmbecaaZSN
namespace Go.Proofs.Ytominplelmbecaa.Y
open Go.RowKit Go.Maps

set_option linter.unusedVariables false
set_option linter.unusedSimpArgs false
theorem setCells_ahead (g : Nat) {e : TypeId} : ∀ (vs : List Value) (o : Nat) (w : World) (cur : Array Value), w.heap[g]? = some (.cells cur e (0, 0)) → ∃ cur', (w.setCells g o vs).heap[g]? = some (.cells cur' e (0, 0)) ∧ ∀ j, j < o → cur'[j]? = cur[j]?
  | [], _, _, cur, h => ⟨cur, h, fun _ _ => rfl⟩
  | v :: r, o, w, cur, h => by
    obtain ⟨c, h1, h2⟩ := setCells_ahead g r (o + 1) (w.setCell ⟨g, o, none⟩ v) _ (box_set h o v)
    refine ⟨c, h1, fun j hj => ?_⟩
    rw [h2 j (by omega), Array.getElem?_setIfInBounds_ne (by omega)]
/-- The records behind a place are made nothing; those ahead of it stay. -/
theorem clear_tail {w : World} {ao : Option Addr} {cap : Nat} {l : List Rec} (h : OwnsQ w 63 5 (.slice ao l.length cap) l.length (recCells l)) (k : Nat) (hk : k < l.length) :
    ∃ ao' cap' w', (∀ W, (Instr.slice 43 (.slice ao l.length cap) (some (.int .i64 k)) none none).run Try.prog W = .ok (.slice ao' (l.length - k) cap') W) ∧ (∀ ty, (Builtin.clear_ #[43] ty #[.slice ao' (l.length - k) cap']).run Try.prog w = .ok (.tuple #[]) w') ∧ w.grownBy w' (Value.slice ao l.length cap).ownBlock ∧ w'.heap.size = w.heap.size ∧
      (∀ W, (Instr.slice 43 (.slice ao l.length cap) none (some (.int .i64 k)) none).run Try.prog W = .ok (.slice ao k cap) W) ∧ RecsAt w' (.slice ao k cap) (l.take k) := by
  obtain ⟨ao', cap', h1, h2, h3⟩ := slice_from h k (by omega)
  have hrec := recs_of_q h
  have hcap := q_cap h
  obtain ⟨s1, s2⟩ := slice_upto hrec k (by omega) hcap.1
  rcases h.2 with ⟨hv, hn⟩ | ⟨g, off, c, cur, hv, hg, h4, h5, h6, h7⟩
  · omega
  injection hv with e1 e2 e3
  subst e1 e3
  have hk5 : k * 5 < l.length * 5 := by omega
  have hl5 : l.length * 5 ≤ cap * 5 := Nat.mul_le_mul_right _ h4
  have hck : ¬ cap = k := by omega
  have h2b := h.cut k (by omega)
  rw [if_neg hck] at h2b
  have hr : ∀ W, (Instr.slice 43 (.slice (some ⟨g, off, none⟩) l.length cap) (some (.int .i64 k)) none none).run Try.prog W = .ok (.slice (some ⟨g, off + k * 5, none⟩) (l.length - k) (cap - k)) W := by
    intro W
    rw [run_slice_l (P := Try.prog) W 43 _ l.length cap underRecs .i64 k (by omega) (by omega), elemRecs, sizeOfRec]
    show Result.ok (sliced _ k l.length cap 5) W = _
    rw [sliced, if_neg hck, Option.map_some, Addr.add_lit]
  have hc := fun ty => run_clear_rec w ty g (off + k * 5) (l.length - k) (cap - k) (by omega) (fun j hj => by
        have hj2 : j < l.length * 5 - k * 5 := by rw [← Nat.sub_mul]; exact hj
        rw [Lib.cell_of_heap hg, Array.getElem?_eq_getElem (by omega)]
        rfl) (fun j _ => box_free hg _)
  obtain ⟨cur', hg', hs'⟩ := setCells_ahead g (zeroL (l.length - k)) (off + k * 5) w cur hg
  obtain ⟨hgr, hsz⟩ := setCells_grown g (zeroL (l.length - k)) (off + k * 5) w
  refine ⟨_, _, _, hr, hc, hgr, hsz, s1, ?_⟩
  obtain ⟨ao1, cap1, q1, q2, q3⟩ := s2
  injection q1 with q1 q4 q5
  subst q1 q5
  refine ⟨some ⟨g, off, none⟩, cap, congrArg (fun x => Value.slice (some ⟨g, off, none⟩) x cap) q4, q2, fun i hi => ?_⟩
  obtain ⟨b, of, r1, r2, r3⟩ := q3 i hi
  injection r1 with r1
  injection r1 with r1 r4 _
  subst r1 r4
  refine ⟨g, off, rfl, by rw [hsz]; exact r2, fun j hj => ?_⟩
  rw [← r3 j hj, Lib.cell_of_heap hg', Lib.cell_of_heap hg]
  have hik : i < k := by rw [List.length_take] at hi; omega
  have : i * 5 + 5 ≤ k * 5 := by omega
  exact hs' _ (by omega)
set_option maxHeartbeats 4000000 in
theorem gdel (l : List Rec) (hr : Rises l) (en : Int) (eb : Nat) (ao : Option Addr) (cap : Nat) (w : World) (hq : OwnsQ w 63 5 (.slice ao l.length cap) l.length (recCells l)) (he : w.heap[eb]? = some (.cells #[.int .i64 en] 3 (0, 0))) (hl : l.length ≤ 1048576) :
    Calls Try.prog 62 #[.slice ao l.length cap, .func (.func 63) #[] #[.pointer (some ⟨eb, 0, none⟩)]] w fun e w' => e = .returned (.slice ao (placeF l en) cap) ∧ RecsAt w' (.slice ao (placeF l en) cap) (l.take (placeF l en)) ∧ Touch (fun j => (Value.slice ao l.length cap).ownBlock = some j) w w' := by
  have hra := recs_of_q hq
  have HX := hide (gidx l hr en eb _ w hra he hl)
  have hple := placeF_le l en
  by_cases hm : placeF l en < l.length
  · have HP := hide (fun k hk => (place_lt hr (off := en) k hk))
    have HQ := hide hq
    have HE := hide he
    have HR := hide hra
    have HXE : idxF l en = (placeF l en : Nat) := by rw [idxF, if_pos hm]
    rw [HXE] at HX
    clear HXE hq he hra hr
    generalize hpm : placeF l en = m at *
    have HPM := hide hpm
    clear hpm
    have hne : ((m : Int) == -1) = false := beq_eq_false_iff_ne.2 (by omega)
    go_enter Try.func62, Try.ntmps62
    go_wp2_with (go_at_call 71; refine HX.out.mono ?_; rintro e w1 ⟨rfl, hb1⟩)
    have B1 := hide hb1
    clear hb1
    go_loopw [5, 6, 7] (fun iv jv xv wv => iv = .int .i64 m ∧ ∃ k : Nat, m + 1 ≤ k ∧ k ≤ l.length ∧ jv = .int .i64 k ∧ Hid (Below w.heap.size w wv)) (fun _ jv _ _ => l.length - (intOf jv).toNat)
    case atStart => exact ⟨rfl, m + 1, Nat.le_refl _, hm, by go_num, B1⟩
    case round =>
      obtain ⟨rfl, k, hk1, hk2, rfl, BV⟩ := hrel
      by_cases hlt : k < l.length
      · have HPL := hide (HP.out k hlt)
        obtain ⟨_, b, of, rfl, hb, a0, a1, a2, a3, a4⟩ := (HR.out.below BV.out).five k hlt
        have HC := hide (fun W hW => gclo l[k] eb en W hW)
        have hi1 : (k : Int) < (l.length : Int) := by omega
        generalize l[k] = x at *
        obtain ⟨xo, xp, xs, xk, xv⟩ := x
        simp only [Rec.v] at a0 a1 a2 a3 a4 HPL HC
        have hyx : ¬ xo < en := fun h => by have := HPL.out.2 h; omega
        have hd : decide (xo ≥ en) = true := by simp; omega
        have BA := hide (BV.out.alloc BV.out.size (.cells #[.int .i64 xo, .string xp, .int .i64 xs, .string xk, .string xv] 63))
        have HEV := hide (Below.at BA.out HE.out)
        go_wp2_with (go_at_call 63; refine (HC.out _ HEV.out).mono ?_; rintro e w' ⟨rfl, b2⟩)
        exact ⟨⟨rfl, k + 1, by omega, by omega, by go_num, BA.out.trans (b2.mono BA.out.size)⟩, by simp [intOf]; omega⟩
      · have hi1 : ¬ (k : Int) < (l.length : Int) := by omega
        obtain ⟨ao', cap', w', s1, s2, s3, s4, s5, s6⟩ := clear_tail (HQ.out.keep (own := fun _ => False) (Touch.of_below BV.out) fun _ _ e => e) m hm
        have S3 := hide s3
        have S4 := hide s4
        have S6 := hide s6
        clear s3 s4 s6
        go_wp2
        go_ret
        refine ⟨rfl, S6.out, ?_⟩
        exact (Touch.of_below BV.out).grown S3.out fun k e _ => e
  · have em : placeF l en = l.length := by omega
    have HXE : idxF l en = -1 := by rw [idxF, if_neg hm]
    rw [HXE] at HX
    rw [em, List.take_length]
    have HR := hide hra
    clear HXE hq he hra hr em hm hple
    go_enter Try.func62, Try.ntmps62
    go_wp2_with (go_at_call 71; refine HX.out.mono ?_; rintro e w1 ⟨rfl, hb1⟩)
    go_ret
    exact ⟨rfl, HR.out.below hb1, Touch.of_below hb1⟩
end Go.Proofs.Ytominplelmbecaa.Y
