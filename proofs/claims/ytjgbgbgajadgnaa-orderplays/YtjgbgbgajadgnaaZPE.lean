/-
  Wants, as it runs, of the law's own log.
-/
import Derived.Test.YtjgbgbgajadgnaaZPD
namespace Go.Proofs.Ytjgbgbgajadgnaa
open Go.RowKit Go.Shelf

attribute [local go_sem ↓] Go.wp_at_zero Go.wp_at_succ
set_option linter.unusedSimpArgs false
set_option linter.unusedVariables false
theorem app_text {w : World} {B n oc : Nat} {oo : Option Addr} {xs : List ByteArray} (hown : w.ownsRow B 9 1 (.slice oo n oc) n (textC xs)) (s : ByteArray) (hl : n + 1 ≤ 8796093022208) (hB : B ≤ w.heap.size) :
    ∃ ta tc w', (Builtin.append_ #[23, 23] 23 #[.slice oo n oc, .slice (some ⟨w.heap.size, 0, none⟩) 1 1]).run Try.prog (w.alloc (.cells #[.string s] 9)) = .ok (.slice ta (n + 1) tc) w' ∧ w'.ownsRow B 9 1 (.slice ta (n + 1) tc) (n + 1) (textC (xs ++ [s])) ∧ Below B w w' := by
  obtain ⟨i0, hi0, hz0, hz1, hz2⟩ := zinfo_parts infoStr
  have hb : Below w.heap.size w (w.alloc (.cells #[.string s] 9)) := (Below.refl _ _).alloc (Nat.le_refl _) _
  have ho2 : (w.alloc (.cells #[.string s] 9)).ownsRow B 9 1 (.slice oo n oc) n (textC xs) := hown.alloc _
  obtain ⟨v', w', hr, h2, h3, h4, h5⟩ := run_append_own_at (P := Try.prog) (w.alloc (.cells #[.string s] 9)) B 23 23 9 i0 (.string ⟨#[]⟩) 1 16 Try.underlying23 hi0 hz0 hz1 hz2 rfl (by decide) (.slice oo n oc) n (textC xs) ho2 ⟨w.heap.size, 0, none⟩ 1 1 [.string s] rfl (World.news_of_block (cs := #[.string s]) (t := 9) (fr := (0, 0)) (heap_alloc_new w _)) (by intro u hu; simp at hu; subst hu; rfl) (by unfold maxLen; omega) (by omega) (by have := hb.size; omega)
  obtain ⟨ao, cp, rfl⟩ := row_slice h2
  refine ⟨ao, cp, w', hr, ?_, ?_⟩
  · rw [textC_append]; exact h2
  · exact (hb.mono hB).grown h3 (by have := hb.size; omega) (fun j hj => by exact (ho2.lt j hj).1)
set_option maxHeartbeats 4000000 in
theorem rwants {w : World} {R : RL} {o : OS} (h : RA w R o) (hf : o.Fine) (node most : Int) (hl : o.log.length ≤ 8796093022208) :
    Calls Try.prog 22 #[.pointer (some ⟨R.b, 0, none⟩), .int .i64 node, .int .i64 most] w fun e w' => ∃ ao cp, e = .returned (.tuple #[.int .i64 (o.wants node most).1, .slice ao (o.wants node most).2.length cp]) ∧ w'.ownsRow w.heap.size 9 1 (.slice ao (o.wants node most).2.length cp) (o.wants node most).2.length (textC (o.wants node most).2) ∧ Below w.heap.size w w' := by
  obtain ⟨base, has, h, hr⟩ := h.ex
  have HO := hide (rother h hf.ok node)
  cases ha : o.asks node with
  | false =>
    have e1 : o.wants node most = (-1, []) := by unfold OS.wants; rw [ha]; rfl
    rw [e1]
    rw [ha] at HO
    clear h hr hf e1 ha
    go_enter Try.func22, Try.ntmps22
    go_wp2_with (go_at_call 38; refine HO.out.mono ?_; rintro e w1 ⟨rfl, b1⟩)
    go_ret2
    exact ⟨none, 0, rfl, World.ownsRow_nil _ _ _ _, b1⟩
  | true =>
    obtain ⟨_, hne, hmem, hcast, hlt⟩ := hf.ok.asks ha
    obtain ⟨m, rfl⟩ : ∃ m : Nat, node = (m : Int) := ⟨node.toNat, hcast.symm⟩
    have ht : (m : Int).toNat = m := rfl
    rw [ht] at hmem hlt
    have hle := hf.ok.get m
    have e1 : o.wants m most = (((o.had.getD m 0 : Nat) : Int), (o.log.drop (o.had.getD m 0)).take most.toNat) := by unfold OS.wants; rw [ha, ht]; rfl
    rw [e1]
    dsimp only
    rw [ha] at HO
    have HD : Hid (∀ w1, Below w.heap.size w w1 → Calls Try.prog 40 #[.pointer (some ⟨R.b, 0, none⟩), .int .i64 (m : Int)] w1 fun e w' => e = .returned (.int .i64 (o.had.getD m 0 : Nat)) ∧ Below w1.heap.size w1 w') := fun w1 b1 => rhad (h.below b1) hf.ok hr m hlt hmem
    have HC : Hid (∀ w1, Below w.heap.size w w1 → w1.cell? ⟨R.b, 2, none⟩ = some (.slice R.lo o.log.length R.lc)) := fun w1 b1 => (h.below b1).cells.c2
    have HT : Hid (∀ w1, Below w.heap.size w w1 → TextsAt w1 R.lo o.log) := fun w1 b1 => h.texts.below b1
    generalize o.had.getD m 0 = p at *
    clear h hr hf e1 ha hcast ht hmem hne
    have HTK : Hid (∀ k (hk : p + k < o.log.length), (o.log.drop p).take (k + 1) = (o.log.drop p).take k ++ [o.log[p + k]]) := fun k hk => by
      rw [List.take_succ_eq_append_getElem (by rw [List.length_drop]; omega), List.getElem_drop]
    have HE : Hid (∀ k : Nat, p + k ≤ o.log.length → (k : Int) ≤ max 0 most → (p + k = o.log.length ∨ ¬ (k : Int) < most) → (o.log.drop p).take most.toNat = (o.log.drop p).take k ∧ ((o.log.drop p).take k).length = k) := fun k h1 h2 h3 => by
      refine ⟨?_, by rw [List.length_take, List.length_drop]; omega⟩
      rcases h3 with h3 | h3
      · by_cases h4 : most.toNat = k
        · rw [h4]
        · rw [List.take_of_length_le (by rw [List.length_drop]; omega), List.take_of_length_le (by rw [List.length_drop]; omega)]
      · have : most.toNat = k := by omega
        rw [this]
    generalize (o.log.drop p).take most.toNat = res at *
    go_enter Try.func22, Try.ntmps22
    go_wp2_with (first | (go_at_call 38; refine HO.out.mono ?_; rintro e w1 ⟨rfl, b1⟩; have B1 := hide b1; clear b1) | (go_at_call 40; refine (HD.out _ B1.out).mono ?_; rintro e w2 ⟨rfl, b2⟩; have B2 := hide (B1.out.trans (b2.mono B1.out.size)); clear b2))
    have O0 : Hid (w2.ownsRow w.heap.size 9 1 (.slice none 0 0) 0 (textC ((o.log.drop p).take 0))) := World.ownsRow_nil _ _ _ _
    go_loopw [10, 11] (fun lv iv wv => ∃ (k : Nat) (ao : Option Addr) (cp : Nat), p + k ≤ o.log.length ∧ (k : Int) ≤ max 0 most ∧ iv = .int .i64 ((p + k : Nat) : Int) ∧ lv = .slice ao k cp ∧ Hid (wv.ownsRow w.heap.size 9 1 (.slice ao k cp) k (textC ((o.log.drop p).take k))) ∧ Hid (Below w.heap.size w wv)) (fun _ iv _ => o.log.length - (intOf iv).toNat)
    case atStart => exact ⟨0, none, 0, by omega, by omega, by simp, rfl, O0, B2⟩
    case round =>
      obtain ⟨k, ao, cp, hk1, hk2, rfl, rfl, OV, BV⟩ := hrel
      have c2 := HC.out wr BV.out
      by_cases hlt1 : p + k < o.log.length
      · have y1 : ((p + k : Nat) : Int) < (o.log.length : Int) := by omega
        have y0 : (0 : Int) ≤ ((p + k : Nat) : Int) := by omega
        by_cases hlt2 : (k : Int) < most
        · obtain ⟨g, off, hlo, hg, hcell⟩ := HT.out wr BV.out (p + k) hlt1
          rw [hlo] at c2
          have HT2 := hide (HTK.out k hlt1)
          generalize o.log[p + k] = x at *
          obtain ⟨ta, tc, w5, hrun, hrow, hbel⟩ := app_text OV.out x (by omega) BV.out.size
          have HRUN := hide hrun
          have HROW := hide hrow
          have HBEL := hide hbel
          clear hrun hrow hbel
          generalize hpk : p + k = pk at *
          go_wp2_with (at_builtin; refine wpList_append_run rfl _ _ 23 rfl _ _ _ rfl rfl HRUN.out ?_)
          refine ⟨⟨k + 1, ta, tc, by omega, by omega, ?_, rfl, ?_, BV.out.trans HBEL.out⟩, by simp [intOf]; omega⟩
          · subst hpk; go_num
          · rw [HT2.out]; exact HROW.out
        · obtain ⟨hE1, hE2⟩ := HE.out k hk1 hk2 (.inr (by omega))
          have HE1 := hide hE1
          have HE2 := hide hE2
          clear hE1 hE2
          generalize hpk : p + k = pk at *
          go_wp2
          go_ret2
          have hq : res.length = k := by rw [HE1.out]; exact HE2.out
          rw [hq, HE1.out]
          exact ⟨ao, cp, rfl, OV.out, BV.out⟩
      · have y1 : ¬ ((p + k : Nat) : Int) < (o.log.length : Int) := by omega
        obtain ⟨hE1, hE2⟩ := HE.out k hk1 hk2 (.inl (by omega))
        have HE1 := hide hE1
        have HE2 := hide hE2
        clear hE1 hE2
        generalize hpk : p + k = pk at *
        go_wp2
        go_ret2
        have hq : res.length = k := by rw [HE1.out]; exact HE2.out
        rw [hq, HE1.out]
        exact ⟨ao, cp, rfl, OV.out, BV.out⟩
end Go.Proofs.Ytjgbgbgajadgnaa
