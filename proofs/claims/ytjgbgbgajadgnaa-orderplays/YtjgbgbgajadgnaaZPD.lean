/-
  Has, Wants, as they run, of the law's own log.
-/
import Derived.Test.YtjgbgbgajadgnaaZPC
namespace Go.Proofs.Ytjgbgbgajadgnaa
open Go.RowKit Go.Shelf

attribute [local go_sem ↓] Go.wp_at_zero Go.wp_at_succ
set_option linter.unusedSimpArgs false
set_option linter.unusedVariables false
theorem RAt.hasset {w : World} {R : RL} {o o' : OS} {base : Nat} {has : List Nat} (h : RAt w R o base has) (node x : Nat) (h1 : o'.self = o.self) (h2 : o'.nodes = o.nodes) (h3 : o'.log = o.log) (h4 : o'.sure = o.sure) : RAt (w.setCell ⟨R.ha, node, none⟩ (.int .i64 (x : Int))) R o' base (has.set node x) ∧ RStep w (w.setCell ⟨R.ha, node, none⟩ (.int .i64 (x : Int))) R R := by
  refine ⟨⟨?_, ?_, ?_, ?_, h.apart⟩, ⟨(Touch.refl _ w).setCell _ _ (fun _ => .inr (.inr (.inr rfl))), rfl, fun _ h => .inl h⟩⟩
  · have := box_apart h.box (fun e => h.ha_ne e.symm) node (.int .i64 (x : Int))
    rw [this]
    unfold rBox
    rw [h1, h2, h3, h4]
  · rw [h2]
    exact set_row h.nodes _ _ _ (by rw [ownBlock_slice]; exact h.apart)
  · rw [h3]
    exact set_row h.log _ _ _ (by rw [ownBlock_slice]; exact h.log_ha)
  · rw [box_set h.has]
    congr 2
    unfold hasA
    rw [List.setIfInBounds_toArray, List.map_set]
theorem Rel.hasN {o : OS} {base : Nat} {has : List Nat} (h : Rel o base has) (hk : o.Ok) {node n : Nat} (h7 : node < 7) (hm : node ∈ o.nodes) (hn : node ≠ o.self) (hl : n ≤ 17592186044416) : Rel (o.hasN node n) base (has.set node (max (has.getD node 0) n)) := by
  have e := h.other node h7 hm hn
  refine ⟨by rw [List.length_set]; exact h.seven, fun i hi hm2 hn2 => ?_, ?_, h.bytes, h.small.1, fun i => ?_⟩
  · show (o.had.set node _).getD i 0 = _
    rw [getD_set _ _ _ _ (by rw [hk.seven]; exact h7), getD_set _ _ _ _ (by rw [h.seven]; exact h7)]
    split
    · omega
    · exact h.other i hi hm2 hn2
  · show (o.had.set node _).getD o.self 0 = o.log.length
    rw [getD_set _ _ _ _ (by rw [hk.seven]; exact h7), if_neg (fun x => hn x.symm)]
    exact h.self
  · rw [getD_set _ _ _ _ (by rw [h.seven]; exact h7)]
    have := h.small.2 node
    split
    · omega
    · exact h.small.2 i
theorem max_cast (a b : Nat) : ((max a b : Nat) : Int) = max (a : Int) (b : Int) := by omega
set_option maxHeartbeats 4000000 in
theorem rhas {w : World} {R : RL} {o : OS} (h : RA w R o) (hf : o.Fine) (node n : Int) (hl : o.log.length ≤ 17592186044416) :
    Calls Try.prog 18 #[.pointer (some ⟨R.b, 0, none⟩), .int .i64 node, .int .i64 n] w fun e w' => e = .returned (.bool (o.has node n).2) ∧ ∃ R', RA w' R' (o.has node n).1 ∧ RStep w w' R R' := by
  obtain ⟨base, has, h, hr⟩ := h.ex
  have HO := hide (rother h hf.ok node)
  have HC : Hid (∀ w1, Below w.heap.size w w1 → w1.cell? ⟨R.b, 2, none⟩ = some (.slice R.lo o.log.length R.lc) ∧ w1.cell? ⟨R.b, 5, none⟩ = some (.slice (some ⟨R.ha, 0, none⟩) 7 7)) := fun w1 b1 => ⟨(h.below b1).cells.c2, (h.below b1).cells.c5⟩
  have HN : Hid (∀ w1, Below w.heap.size w w1 → ∃ R', RA w1 R' o ∧ RStep w w1 R R') := fun w1 b1 => ⟨R, ⟨⟨base, has, h.below b1, hr⟩⟩, RStep.below b1⟩
  by_cases hc : o.asks node = true ∧ 0 ≤ n ∧ n ≤ (o.log.length : Int)
  · have e1 : o.has node n = ((o.hasN node.toNat n.toNat).make, true) := by unfold OS.has; rw [if_pos hc]
    rw [e1]
    obtain ⟨ha, hn0, hn1⟩ := hc
    obtain ⟨hf1, hne, hmem, hcast, hlt⟩ := hf.ok.asks ha
    obtain ⟨nd, rfl⟩ : ∃ nd : Nat, node = (nd : Int) := ⟨node.toNat, hcast.symm⟩
    obtain ⟨m, rfl⟩ : ∃ m : Nat, n = (m : Int) := ⟨n.toNat, by omega⟩
    simp only [Int.toNat_natCast] at hlt hmem ⊢
    rw [ha] at HO
    have hx : Hid (∀ w1, Below w.heap.size w w1 → w1.cell? ⟨R.ha, nd, none⟩ = some (.int .i64 (has.getD nd 0 : Nat)) ∧ w1.frozen? ⟨R.ha, nd, none⟩ = false) := fun w1 b1 => ⟨(h.below b1).hasc hr.seven nd hlt, box_free (h.below b1).has nd⟩
    have hsm := hr.small.2 nd
    have hne2 : nd ≠ o.self := fun e => hne (by rw [e])
    have hinv : (o.hasN nd m).sure ≤ midN (o.hasN nd m).counts := Nat.le_trans (hf.inv hf1) (counts_mono (o' := o.hasN nd m) rfl hf.ok (hasN_had hf.ok _ _ hlt))
    have hkk : (o.hasN nd m).Ok := hf.ok.hasN (by omega)
    have hrk := hr.hasN hf.ok hlt hmem hne2 (n := m) (by omega)
    have HS : Hid (∀ w1, Below w.heap.size w w1 → Calls Try.prog 36 #[.pointer (some ⟨R.b, 0, none⟩)] (w1.setCell ⟨R.ha, nd, none⟩ (.int .i64 (max (has.getD nd 0 : Nat) (m : Int)))) fun e w' => e = .returned (.tuple #[]) ∧ ∃ R', RA w' R' (o.hasN nd m).make ∧ RStep w w' R R') := fun w1 b1 => by
      rw [← max_cast]
      obtain ⟨k1, k2⟩ := (h.below b1).hasset (o' := o.hasN nd m) nd (max (has.getD nd 0) m) rfl rfl rfl rfl
      refine (rsure k1 hkk hrk hinv hl).mono ?_
      rintro e w' ⟨rfl, h2, h3⟩
      exact ⟨rfl, R, ⟨⟨base, _, h2, hrk.make⟩⟩, ((RStep.below b1).trans k2).trans h3⟩
    have i0 : (0 : Int) ≤ (nd : Int) := by omega
    have i1 : (nd : Int) < 7 := by omega
    have HL : Hid (¬ (o.log.length : Int) < (m : Int)) := by show ¬ _; omega
    have hl2 := HL.out
    have hl3 : ¬ (m : Int) < 0 := by omega
    clear h hr hf ha e1 hmem hcast hinv hkk hrk HN hf1 HL
    generalize o.asks (nd : Int) = q at *
    generalize has.getD nd 0 = hv at *
    go_enter Try.func18, Try.ntmps18
    go_upto_region 4 with (go_at_call 38; refine HO.out.mono ?_; rintro e w1 ⟨rfl, b1⟩; obtain ⟨c2, c5⟩ := HC.out w1 b1; have B1 := hide b1; clear b1)
    obtain ⟨cx, fx⟩ := hx.out _ B1.out
    have B2 : Hid (Below w.heap.size w w1.drew) := B1.out.drew
    have HS2 := hide (HS.out _ B2.out)
    go_region
    all_goals go_wp2_with (go_at_call 36; refine HS2.out.mono ?_; rintro e w5 ⟨rfl, h5⟩)
    all_goals go_ret
    all_goals exact ⟨rfl, h5⟩
  · have e1 : o.has node n = (o, false) := by unfold OS.has; rw [if_neg hc]
    rw [e1]
    clear h hr e1 hf
    cases ha : o.asks node with
    | false =>
      rw [ha] at HO
      clear hc ha
      go_enter Try.func18, Try.ntmps18
      go_wp2_with (go_at_call 38; refine HO.out.mono ?_; rintro e w1 ⟨rfl, b1⟩; obtain ⟨c2, c5⟩ := HC.out w1 b1; have B1 := hide b1; clear b1)
      go_ret
      exact ⟨rfl, HN.out _ B1.out⟩
    | true =>
      rw [ha] at HO
      by_cases hn0 : n < 0
      · clear hc ha
        go_enter Try.func18, Try.ntmps18
        go_wp2_with (go_at_call 38; refine HO.out.mono ?_; rintro e w1 ⟨rfl, b1⟩; obtain ⟨c2, c5⟩ := HC.out w1 b1; have B1 := hide b1; clear b1)
        go_ret
        exact ⟨rfl, HN.out _ B1.out⟩
      · have hn1 : (o.log.length : Int) < n := by
          rcases Int.lt_or_le (o.log.length : Int) n with h9 | h9
          · exact h9
          · exact absurd ⟨ha, by omega, h9⟩ hc
        clear hc ha
        go_enter Try.func18, Try.ntmps18
        go_wp2_with (go_at_call 38; refine HO.out.mono ?_; rintro e w1 ⟨rfl, b1⟩; obtain ⟨c2, c5⟩ := HC.out w1 b1; have B1 := hide b1; clear b1)
        go_ret
        exact ⟨rfl, HN.out _ B1.out⟩
end Go.Proofs.Ytjgbgbgajadgnaa
