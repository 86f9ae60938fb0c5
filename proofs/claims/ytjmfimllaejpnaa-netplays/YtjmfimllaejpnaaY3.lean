/-
  carillonref05's Send, as it runs.
-/
import Derived.Test.YtjmfimllaejpnaaY2
namespace Go.Proofs.Ytjmfimllaejpnaa
open Go.RowKit Go.Maps

/-- What a call of it leaves: only its own blocks and new ones are touched. -/
structure YStep (w w' : World) (b n : Nat) (Y Y' : YG) : Prop where
  touch : Touch (fun j => Y.own b n j) w w'
  grew : ∀ j, Y'.own b n j → Y.own b n j ∨ w.heap.size ≤ j
section
variable {w : World} {b n : Nat} {s : Int} {q : Qs} {Y : YG}
theorem YStep.refl (w : World) (k : Nat) : YStep w (w.drewN k) b n Y Y := ⟨Touch.of_below (below_drewN (Below.refl _ w) k), fun _ h => .inl h⟩
set_option maxHeartbeats 4000000 in
theorem ysend_any (h : YR w b n s q Y) (x y : Int) (t : ByteArray) : Calls Try.prog 10 #[.pointer (some ⟨b, 0, none⟩), .int .i64 x, .int .i64 y, .string t] w fun e w' => e = .returned (.bool (decide (roomQ n q x y))) ∧ ∃ Y', YR w' b n s (if roomQ n q x y then moreQ q x y t else q) Y' ∧ YStep w w' b n Y Y' := by
  by_cases hl : isLink n x y
  · obtain ⟨a, c, rfl, rfl, hl2, hk⟩ := link_place hl
    have HA := hide (yat_link h a c hl2)
    have hq := qk_link (q := q) hl2
    have hnn := h.nn
    obtain ⟨k, hkk⟩ : ∃ k, a * n + c = k := ⟨_, rfl⟩
    rw [hkk] at HA hq hk
    obtain ⟨ao, cp, hr⟩ := h.rowS hk
    have c1 := h.c1
    obtain ⟨c2, f2⟩ := h.ck hk
    rw [hr] at c2
    have hk0 : (0 : Int) ≤ (k : Int) := by omega
    have hk1 : (k : Int) < ((n * n : Nat) : Int) := by omega
    obtain ⟨M, hM⟩ : ∃ M, qk n q k = M := ⟨_, rfl⟩
    rw [hM] at c2 hr hq
    by_cases hroom : M.length < 64
    · have e1 : roomQ n q a c := ⟨hl, by unfold lenQ; rw [if_pos hl, Int.toNat_natCast, Int.toNat_natCast, ← hq]; exact hroom⟩
      rw [decide_eq_true e1, if_pos e1]
      have HH := hide h
      have ho := h.row k hk
      rw [hr, hM] at ho
      have OR := hide ho
      have HKK := hide hkk
      have HKL := hide hk
      have HQ := hide hq
      have HM := hide hM
      have HL := hide hl2
      have HRW := hide hr
      generalize hNN : n * n = N at c1 hk1
      clear h hl hl2 e1 ho hkk hq hM hr hk
      go_enter Try.func10, Try.ntmps10
      go_wp2_with fail
      refine HA.out.mono ?_
      rintro e w' ⟨rfl, h5⟩
      obtain rfl := h5.symm
      clear h5 HA
      have HG : Hid (∀ (o : Obj) (W w5 : World), W.grownBy w5 (Value.slice ao M.length cp).ownBlock → W.heap = (w.alloc o).heap → w5.cell? ⟨b, 1, none⟩ = some (.slice (some ⟨Y.lb, 0, none⟩) N N) ∧ w5.cell? ⟨Y.lb, k, none⟩ = some (.slice ao M.length cp) ∧ w5.frozen? ⟨Y.lb, k, none⟩ = false) := by
        intro o W w5 hg hW
        obtain ⟨cur, hc, h1, h2⟩ := HH.out.lst
        have hkN : k < n * n := HKL.out
        have hb5 := grown_at hg (by rw [hW]; exact box_alloc HH.out.box o) (by rw [← HRW.out]; exact HH.out.neB hkN)
        have hc5 := grown_at hg (by rw [hW]; exact box_alloc hc o) (by rw [← HRW.out]; exact HH.out.neR hkN)
        exact ⟨by rw [← hNN]; exact box_cell hb5 1 rfl, box_cell hc5 k (by rw [h2 k hkN, HRW.out]), box_free hc5 k⟩
      have q1 : ∀ o : Obj, (w.alloc o).cell? ⟨b, 1, none⟩ = some (.slice (some ⟨Y.lb, 0, none⟩) N N) := fun o => by rw [← hNN]; exact box_cell (box_alloc HH.out.box o) 1 rfl
      have q2 : ∀ o : Obj, (w.alloc o).cell? ⟨Y.lb, k, none⟩ = some (.slice ao M.length cp) := fun o => by
        obtain ⟨cur, hc, h1, h2⟩ := HH.out.lst
        exact box_cell (box_alloc hc o) k (by rw [h2 k HKL.out, HRW.out])
      have HFIN : Hid (∀ (W w5 : World) (a5 : Option Addr) (c5 : Nat), Touch (fun _ => False) w W → W.grownBy w5 (Value.slice ao M.length cp).ownBlock → w5.ownsRow 0 9 1 (.slice a5 (M.length + 1) c5) (M.length + 1) (M.map .string ++ [.string t]) → ((Value.slice a5 (M.length + 1) c5).ownBlock = (Value.slice ao M.length cp).ownBlock ∨ (Value.slice a5 (M.length + 1) c5).ownBlock = some W.heap.size) →
          ∃ Y', YR (w5.setCell ⟨Y.lb, k, none⟩ (.slice a5 (M.length + 1) c5)) b n s (moreQ q (a : Int) (c : Int) t) Y' ∧ YStep w (w5.setCell ⟨Y.lb, k, none⟩ (.slice a5 (M.length + 1) c5)) b n Y Y') := by
        intro W w5 a5 c5 hT hg ho hloc
        have hT5 : Touch (fun j => (Y.row (a * n + c)).ownBlock = some j) w w5 := (hT.mono fun _ _ e => e.elim).grown hg fun j e _ => by rw [HKK.out, HRW.out]; exact e
        have hp := HH.out.put HL.out (.slice a5 (M.length + 1) c5) (M ++ [t]) (by rw [List.length_append, List.length_singleton]; omega) hT5 (by rw [List.length_append, List.length_singleton, List.map_append]; exact ho) (fun j hj => by
          rw [HKK.out, HRW.out]
          rcases hloc with e | e
          · exact .inl (by rw [← e]; exact hj)
          · rw [e] at hj
            have := hT.size
            exact .inr (by have := Option.some.inj hj; omega))
        rw [HKK.out] at hp
        refine ⟨Y.put k (.slice a5 (M.length + 1) c5), ?_, hp.2.mono fun j _ e => ?_, fun j hj => ?_⟩
        · unfold moreQ
          rw [Int.toNat_natCast, Int.toNat_natCast, ← HQ.out]
          exact hp.1
        · rcases e with e | e
          · exact .inr (.inl e)
          · exact .inr (.inr ⟨k, HKL.out, e⟩)
        · rcases YG.put_own hj with e | e
          · exact .inl e
          · rcases hloc with e2 | e2
            · exact .inl (.inr (.inr ⟨k, HKL.out, by rw [HRW.out, ← e2]; exact e⟩))
            · rw [e2] at e
              have := hT.size
              exact .inr (by have := Option.some.inj e; omega)
      have i9 := infoStr
      obtain ⟨i0, hi0, hz0, hz1, hz2⟩ := info_parts i9
      clear i9
      go_wp2
      go_region_law (first
        | (refine step_append_at rfl _ _ 52 rfl 0 9 i0 _ 1 16 Try.underlying52 hi0 hz0 hz1 hz2 rfl (by omega) (.slice ao M.length cp) M.length (M.map .string) (by rfl) (by first | exact OR.out.alloc _ | exact OR.out.drew.alloc _) ⟨w.heap.size, 0, none⟩ 1 1 [.string t] (by rfl) (by rfl) (World.news_of_block (cs := #[.string t]) (t := 9) (fr := (0, 0)) (by first | exact heap_alloc_new w _ | exact heap_alloc_new w.drew _)) (by simp [Value.oneCell']) (by unfold maxLen; omega) (by omega) (Nat.zero_le _) ?_; intro a5 c5 w5 hown5 hgrow5 hloc5; obtain ⟨y1, y2, y3⟩ := HG.out _ _ _ hgrow5 rfl))
      all_goals (
        go_wp2
        go_ret
        exact ⟨rfl, HFIN.out _ _ _ _ (by first | exact ((Touch.refl _ w).alloc _).drew | exact ((Touch.refl _ w).drew).alloc _) hgrow5 hown5 hloc5⟩)
    · have e1 : ¬ roomQ n q a c := fun e => by have := e.2; unfold lenQ at this; rw [if_pos hl, Int.toNat_natCast, Int.toNat_natCast, ← hq] at this; omega
      rw [decide_eq_false e1, if_neg e1]
      have HH := hide h
      generalize n * n = N at c1 hk1
      clear h hl hl2 e1 hkk hq hM hr hk
      go_enter Try.func10, Try.ntmps10
      go_wp2_with fail
      refine HA.out.mono ?_
      rintro e w' ⟨rfl, h5⟩
      obtain rfl := h5.symm
      clear h5 HA
      go_wp2
      go_ret
      exact ⟨rfl, Y, HH.out, YStep.refl w 0⟩
  · have HA := hide (yat_none h x y hl)
    have e1 : ¬ roomQ n q x y := fun e => hl e.1
    rw [decide_eq_false e1, if_neg e1]
    have HH := hide h
    clear h hl e1
    go_enter Try.func10, Try.ntmps10
    go_wp2_with fail
    refine HA.out.mono ?_
    rintro e w' ⟨rfl, h5⟩
    obtain rfl := h5.symm
    clear h5 HA
    go_wp2
    go_ret
    exact ⟨rfl, Y, HH.out, YStep.refl w 0⟩
end
end Go.Proofs.Ytjmfimllaejpnaa
