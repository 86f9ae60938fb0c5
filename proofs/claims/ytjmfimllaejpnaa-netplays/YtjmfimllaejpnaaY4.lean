/-
  carillonref05's remove, as it runs.
-/
import Derived.Test.YtjmfimllaejpnaaY3
namespace Go.Proofs.Ytjmfimllaejpnaa
open Go.RowKit Go.Maps

theorem own_low {w : World} {B : Nat} {e : TypeId} {z : Nat} {v : Value} {n : Nat} {xs : List Value} (h : w.ownsRow B e z v n xs) : w.ownsRow 0 e z v n xs := by
  obtain ⟨h1, h2⟩ := h
  refine ⟨h1, ?_⟩
  rcases h2 with h2 | ⟨g, c, cur, a, _, b⟩
  · exact .inl h2
  · exact .inr ⟨g, c, cur, a, Nat.zero_le _, b⟩
section
variable {w : World} {b n : Nat} {s : Int} {q : Qs} {Y : YG}
set_option maxHeartbeats 4000000 in
theorem yremove_has (h : YR w b n s q Y) (a c m : Nat) (hl : isLink n (a : Int) (c : Int)) (hm : m < (q a c).length) : Calls Try.prog 31 #[.pointer (some ⟨b, 0, none⟩), .int .i64 a, .int .i64 c, .int .i64 m] w fun e w' => e = .returned (.tuple #[.string (q a c)[m], .bool true]) ∧ ∃ Y', YR w' b n s (setQ q a c ((q a c).eraseIdx m)) Y' ∧ YStep w w' b n Y Y' := by
  obtain ⟨h1, h2, _⟩ := link_lt2 hl
  have hk := place_lt h1 h2
  have HA := hide (yat_link h a c hl)
  have hq := qk_link (q := q) hl
  have hnn := h.nn
  obtain ⟨k, hkk⟩ : ∃ k, a * n + c = k := ⟨_, rfl⟩
  rw [hkk] at HA hq hk
  obtain ⟨ao, cp, hr⟩ := h.rowS hk
  have c1 := h.c1
  obtain ⟨c2, f2⟩ := h.ck hk
  rw [hr] at c2
  have hk0 : (0 : Int) ≤ (k : Int) := by omega
  have hk1 : (k : Int) < ((n * n : Nat) : Int) := by omega
  obtain ⟨M, hM⟩ : ∃ M, q a c = M := ⟨_, rfl⟩
  rw [hM] at hq
  have hg1 : (q a c)[m]? = some (q a c)[m] := List.getElem?_eq_getElem hm
  obtain ⟨mm, hmm⟩ : ∃ mm, (q a c)[m] = mm := ⟨_, rfl⟩
  rw [hmm] at hg1 ⊢
  rw [hM] at hg1 hm ⊢
  rw [hq] at c2 hr
  have ho := h.row k hk
  rw [hr, hq] at ho
  have hfw := h.few k hk
  rw [hq] at hfw
  obtain ⟨g, cap, hform, hgb, hgl⟩ := ho.form (by omega)
  obtain ⟨rfl, rfl⟩ : ao = some ⟨g, 0, none⟩ ∧ cp = cap := by cases hform; exact ⟨rfl, rfl⟩
  clear hform
  have hcell : Hid (∀ j u, (M.map Value.string)[j]? = some u → w.cell? ⟨g, j, none⟩ = some u) := fun j u hu => by
    have h1 := ho.cells rfl j u hu
    rw [Addr.add_lit] at h1
    simpa using h1
  have r0 : w.cell? ⟨g, m, none⟩ = some (.string mm) := hcell.out m _ (by rw [List.getElem?_map, hg1]; rfl)
  have hkc : M.length ≤ cp ∧ cp ≤ 9223372036854775807 := by
    rcases ho.2 with ⟨h0, _⟩ | ⟨_, _, _, h1, _, _, h4, h5, _⟩
    · cases h0
    · cases h1; exact ⟨h4, by simpa [maxLen] using h5⟩
  obtain ⟨AD, hAD, hA2⟩ := tail_at hcell.out hkc.1 hm
  have HA2 := hide hA2
  have HN1 := hide (head_at (k := m) hcell.out)
  have hl1 := hide (show ((M.take m).map Value.string).length = m * 1 by rw [List.length_map, List.length_take]; omega)
  have hl2 := hide (show ((M.drop (m + 1)).map Value.string).length = (M.length - (m + 1)) * 1 by rw [List.length_map, List.length_drop]; omega)
  have hkc1 : m + 1 ≤ cp := by omega
  have hkc2 : m ≤ cp := by omega
  have hkc3 : m + 1 ≤ M.length := by omega
  have hkc4 : (cp : Int) ≤ 9223372036854775807 := by omega
  have hs0 : (0 : Int) ≤ (m : Int) := by omega
  have hs0b : (m : Int) < (M.length : Int) := by omega
  have hs0c : ¬ ((m : Int) < 0) := by omega
  have hs0d : ¬ ((M.length : Int) ≤ (m : Int)) := by omega
  have hs1 : (0 : Int) ≤ (m : Int) + 1 := by omega
  have hs2 : (m : Int) + 1 ≤ (M.length : Int) := by omega
  have hs3 : (M.length : Int) ≤ (cp : Int) := by omega
  have hs4 : ((m : Int) + 1).toNat = m + 1 := by omega
  have hs5 : (m : Int) ≤ (cp : Int) := by omega
  have hs6 : M.length ≤ cp := hkc.1
  have hs7 : cp ≤ 9223372036854775807 := hkc.2
  have hs8 : IntKind.i64.wrap ((m : Int) + 1) = (m : Int) + 1 := by rw [IntKind.wrap_i64]; omega
  have hs9 : ¬ ((m : Int) + 1 < 0) := by omega
  have hs10 : ¬ ((M.length : Int) < (m : Int) + 1) := by omega
  have HH := hide h
  have OR := hide ho
  have HKK := hide hkk
  have HKL := hide hk
  have HQ := hide hq
  have HM := hide hM
  have HL := hide hl
  have HRW := hide hr
  have HMM := hide hmm
  generalize hNN : n * n = N at c1 hk1
  clear h hl ho hkk hq hM hr hk hA2 hmm hg1 h1 h2
  go_enter Try.func31, Try.ntmps31
  go_wp2_with fail
  refine HA.out.mono ?_
  rintro e w' ⟨rfl, h5⟩
  obtain rfl := h5.symm
  clear h5 HA
  obtain ⟨i0, hi0, hz0, hz1, hz2⟩ := info_parts infoStr
  go_wp2_with (at_builtin; refine wpList_append_own _ rfl _ _ 52 rfl w.heap.size 9 i0 _ 1 16 Try.underlying52 hi0 hz0 hz1 hz2 rfl (by decide) (.slice none 0 0) 0 [] rfl (World.ownsRow_nil _ _ _ _) ⟨g, 0, none⟩ m cp ((M.take m).map .string) rfl hl1.out HN1.out (one_strs _) ?h63 ?hb47 ?hbase ?_)
  case h63 => unfold maxLen; omega
  case hb47 => omega
  case hbase => exact Nat.le_refl _
  intro v5 w5 hown5 hgrow5 _
  obtain ⟨a5, c5, rfl⟩ := row_slice hown5
  have hg5 : w.drew.grownBy w5 none := ⟨hgrow5.os, hgrow5.tape, hgrow5.output, hgrow5.size, hgrow5.block⟩
  have HT5 := hide (HA2.out w5 hg5)
  obtain ⟨cur, hc, hcs, hck⟩ := HH.out.lst
  have hb5 := grown_at hg5 (show w.drew.heap[b]? = _ from HH.out.box) (by simp)
  have hc5 := grown_at hg5 (show w.drew.heap[Y.lb]? = _ from hc) (by simp)
  have y1 : w5.cell? ⟨b, 1, none⟩ = some (.slice (some ⟨Y.lb, 0, none⟩) N N) := by rw [← hNN]; exact box_cell hb5 1 rfl
  have y2 : w5.cell? ⟨Y.lb, k, none⟩ = some (.slice (some ⟨g, 0, none⟩) M.length cp) := box_cell hc5 k (by rw [hck k HKL.out, HRW.out])
  have HG : Hid (∀ w6, w5.grownBy w6 (Value.slice a5 m c5).ownBlock → w6.cell? ⟨b, 1, none⟩ = some (.slice (some ⟨Y.lb, 0, none⟩) N N) ∧ w6.cell? ⟨Y.lb, k, none⟩ = some (.slice (some ⟨g, 0, none⟩) M.length cp) ∧ w6.frozen? ⟨Y.lb, k, none⟩ = false) := by
    intro w6 hg
    have hfar : ∀ j, j < w.heap.size → (Value.slice a5 m c5).ownBlock ≠ some j := fun j hj e => by have := (hown5.lt j e).1; omega
    have hb6 := grown_at hg hb5 (hfar b (heap_lt HH.out.box))
    have hc6 := grown_at hg hc5 (hfar Y.lb (heap_lt hc))
    exact ⟨by rw [← hNN]; exact box_cell hb6 1 rfl, box_cell hc6 k (by rw [hck k HKL.out, HRW.out]), box_free hc6 k⟩
  have o5 : w5.ownsRow w.heap.size 9 1 (.slice a5 m c5) m ((M.take m).map .string) := by simpa using hown5
  have O5 := hide o5
  clear o5
  have G5 := hide hgrow5
  have hsz5 : w.heap.size ≤ w5.heap.size := hgrow5.size
  clear hown5 hgrow5 hg5 hb5 hc5 hc hcs hck c1 c2 f2 r0 HA2 hcell HN1
  have HFIN : Hid (∀ (W w6 : World) (a6 : Option Addr) (c6 : Nat), Touch (fun _ => False) w5 W → W.grownBy w6 (Value.slice a5 m c5).ownBlock → w6.ownsRow w.heap.size 9 1 (.slice a6 (m + (M.length - (m + 1))) c6) (m + (M.length - (m + 1))) ((M.take m).map .string ++ (M.drop (m + 1)).map .string) →
      ∃ Y', YR (w6.setCell ⟨Y.lb, k, none⟩ (.slice a6 (m + (M.length - (m + 1))) c6)) b n s (setQ q a c (M.eraseIdx m)) Y' ∧ YStep w (w6.setCell ⟨Y.lb, k, none⟩ (.slice a6 (m + (M.length - (m + 1))) c6)) b n Y Y') := by
    intro W w6 a6 c6 hT hg ho
    have hT5 : Touch (fun _ => False) w w5 := (Touch.refl _ w).grown G5.out fun j e _ => by cases e
    have hT6 : Touch (fun j => (Y.row (a * n + c)).ownBlock = some j) w w6 := ((hT5.andThen hT fun _ _ e => e).mono fun _ _ e => e.elim).grown hg fun j e hj => by have := (O5.out.lt j e).1; omega
    have hlen : (M.eraseIdx m).length = m + (M.length - (m + 1)) := by rw [List.length_eraseIdx_of_lt hm]; omega
    have hp := HH.out.put HL.out (.slice a6 (m + (M.length - (m + 1))) c6) (M.eraseIdx m) (by rw [hlen]; omega) hT6 (by rw [hlen, List.eraseIdx_eq_take_drop_succ, List.map_append]; exact own_low ho) (fun j hj => .inr (ho.lt j hj).1)
    rw [HKK.out] at hp
    refine ⟨Y.put k _, hp.1, hp.2.mono fun j _ e => ?_, fun j hj => ?_⟩
    · rcases e with e | e
      · exact .inr (.inl e)
      · exact .inr (.inr ⟨k, HKL.out, e⟩)
    · rcases YG.put_own hj with e | e
      · exact .inl e
      · exact .inr (ho.lt j e).1
  go_wp2_with fail
  go_region_law (first
    | (refine step_append_at rfl _ _ 52 rfl w.heap.size 9 i0 _ 1 16 Try.underlying52 hi0 hz0 hz1 hz2 rfl (by omega) (.slice a5 m c5) m ((M.take m).map .string) (by rfl) (by first | exact O5.out | exact O5.out.drew) AD (M.length - (m + 1)) (cp - (m + 1)) ((M.drop (m + 1)).map .string) (by rfl) hl2.out (by first | exact HT5.out) (one_strs _) (by unfold maxLen; omega) (by omega) (by exact hsz5) ?_; intro a6 c6 w6 hown6 hgrow6 hloc6; obtain ⟨y4, y5, y6⟩ := HG.out w6 ⟨hgrow6.os, hgrow6.tape, hgrow6.output, hgrow6.size, hgrow6.block⟩))
  all_goals (
    go_wp2
    go_ret2
    exact ⟨rfl, HFIN.out _ _ _ _ (by first | exact (Touch.refl _ w5).drew | exact Touch.refl _ w5) hgrow6 hown6⟩)
end
end Go.Proofs.Ytjmfimllaejpnaa
