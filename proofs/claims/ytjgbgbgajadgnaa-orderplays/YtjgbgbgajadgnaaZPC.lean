/-
  Propose, Add, Learn, as they run, of the law's own log.
-/
import Derived.Test.YtjgbgbgajadgnaaZPB
namespace Go.Proofs.Ytjgbgbgajadgnaa
open Go.RowKit Go.Shelf

attribute [local go_sem ↓] Go.wp_at_zero Go.wp_at_succ
set_option linter.unusedSimpArgs false
set_option linter.unusedVariables false
theorem RAt.rall {w : World} {R : RL} {o : OS} {base : Nat} {has : List Nat} (h : RAt w R o base has) (s : ByteArray) (hl : o.log.length < 8796093022208) :
    ∃ ta tc w3, (Builtin.append_ #[23, 23] 23 #[.slice R.lo o.log.length R.lc, .slice (some ⟨w.heap.size, 0, none⟩) 1 1]).run Try.prog (w.alloc (.cells #[.string s] 9)) = .ok (.slice ta (o.log.length + 1) tc) w3 ∧
      w3.cell? ⟨R.b, 2, none⟩ = some (.slice R.lo o.log.length R.lc) ∧ w3.frozen? ⟨R.b, 2, none⟩ = false ∧ RAt (w3.setCell ⟨R.b, 2, none⟩ (.slice ta (o.log.length + 1) tc)) { R with lo := ta, lc := tc } (o.keep s) base has ∧ RStep w (w3.setCell ⟨R.b, 2, none⟩ (.slice ta (o.log.length + 1) tc)) R { R with lo := ta, lc := tc } := by
  obtain ⟨i0, hi0, hz0, hz1, hz2⟩ := zinfo_parts infoStr
  have hb : Below w.heap.size w (w.alloc (.cells #[.string s] 9)) := (Below.refl _ _).alloc (Nat.le_refl _) _
  have hO2 := h.below hb
  have hg := heap_alloc_new w (.cells #[.string s] 9 (0, 0))
  obtain ⟨v', w', hr, h2, h3, h4, h5⟩ := run_append_own_at (P := Try.prog) (w.alloc (.cells #[.string s] 9)) 0 23 23 9 i0 (.string ⟨#[]⟩) 1 16 Try.underlying23 hi0 hz0 hz1 hz2 rfl (by decide) (.slice R.lo o.log.length R.lc) o.log.length (textC o.log) hO2.log ⟨w.heap.size, 0, none⟩ 1 1 [.string s] rfl (World.news_of_block (cs := #[.string s]) (t := 9) (fr := (0, 0)) hg) (by intro u hu; simp at hu; subst hu; rfl) (by unfold maxLen; omega) (by omega) (Nat.zero_le _)
  obtain ⟨ao, cp, rfl⟩ := row_slice h2
  have hbox := grown_at h3 hO2.box (by rw [ownBlock_slice]; exact h.log_ne)
  have hhas := grown_at h3 hO2.has (by rw [ownBlock_slice]; exact h.log_ha)
  have ht : Touch (fun j => R.lo.map Addr.block = some j) w w' := (Touch.of_below hb).grown h3 fun k e _ => by rw [ownBlock_slice] at e; exact e
  have hnod : w'.ownsRow 0 3 1 (.slice R.no o.nodes.length R.nc) o.nodes.length ((natI o.nodes).map (.int .i64)) := ht.row h.nodes fun k e => h.no_log (by rw [ownBlock_slice] at e; exact e)
  have hnew : ∀ j, ao.map Addr.block = some j → R.lo.map Addr.block = some j ∨ w.heap.size ≤ j := fun j hj => by
    rw [ownBlock_slice, ownBlock_slice] at h5
    rcases h5 with e | e
    · exact .inl (e ▸ hj)
    · right
      rw [hj] at e
      injection e with e
      have := hb.size
      omega
  refine ⟨ao, cp, w', hr, box_cell hbox 2 rfl, box_free hbox 2, ⟨?_, ?_, ?_, box_apart hhas h.ha_ne _ _, h.apart⟩, ⟨?_, rfl, ?_⟩⟩
  · rw [box_set hbox]
    congr 2
    simp [rBox, OS.keep]
  · exact set_row hnod _ _ _ (by rw [ownBlock_slice]; exact h.no_ne)
  · have := set_row h2 R.b 2 (.slice ao (o.log.length + 1) cp) (fun e => by
      have := row_type h2 e hbox
      revert this
      decide +kernel)
    simpa [OS.keep, textC_append, textC] using this
  · exact (ht.mono fun k _ e => .inr (.inl e)).setCell _ _ fun _ => .inl rfl
  · rintro j (e | e | e | e)
    · exact .inl (.inl e)
    · rcases hnew j e with e2 | e2
      · exact .inl (.inr (.inl e2))
      · exact .inr e2
    · exact .inl (.inr (.inr (.inl e)))
    · exact .inl (.inr (.inr (.inr e)))
theorem Rel.keep {o : OS} {base : Nat} {has : List Nat} (h : Rel o base has) (hk : o.Ok) (s : ByteArray) : Rel (o.keep s) base has := by
  refine ⟨h.seven, fun i hi hm hn => ?_, ?_, ?_, h.small⟩
  · rw [← h.other i hi hm hn]
    show (o.had.set o.self _).getD i 0 = _
    rw [getD_set _ _ _ _ (by rw [hk.seven]; exact hk.slf), if_neg (show ¬ i = o.self from hn)]
  · show (o.had.set o.self _).getD o.self 0 = (o.log ++ [s]).length
    rw [getD_set _ _ _ _ (by rw [hk.seven]; exact hk.slf), if_pos rfl]
    simp
  · show addB o.bytes s = bytesF (o.log ++ [s])
    rw [bytesF_snoc', h.bytes]
theorem Rel.make {o : OS} {base : Nat} {has : List Nat} (h : Rel o base has) : Rel o.make base has := ⟨h.seven, h.other, h.self, h.bytes, h.small⟩
/-- A log of the law's own, beside one. -/
structure RA (w : World) (R : RL) (o : OS) : Prop where
  ex : ∃ base has, RAt w R o base has ∧ Rel o base has
theorem fits_is {o : OS} {base : Nat} {has : List Nat} (h : Rel o base has) (s : ByteArray) : o.fits s = decide (wrap64 (wrap64 (bytesF o.log + (s.size : Int)) + 4) ≤ 45000) := by
  unfold OS.fits
  rw [size_step, h.bytes]
set_option maxHeartbeats 4000000 in
theorem rpropose {w : World} {R : RL} {o : OS} (h : RA w R o) (hf : o.Fine) (s : ByteArray) (hs : s.size ≤ 140737488351232) (hl : o.log.length < 8796093022208) :
    Calls Try.prog 14 #[.pointer (some ⟨R.b, 0, none⟩), .string s] w fun e w' => e = .returned (.tuple #[.int .i64 (o.propose s).2.1, .int .i64 (o.propose s).2.2]) ∧ ∃ R', RA w' R' (o.propose s).1 ∧ RStep w w' R R' := by
  obtain ⟨base, has, h, hr⟩ := h.ex
  have HF := hide (rfirst h hf.ok)
  have HY := hide (fun w1 (b1 : Below w.heap.size w w1) => rbytes (h.below b1) hf.ok (by omega))
  have HC : Hid (∀ w1, Below w.heap.size w w1 → RC w1 R o base) := fun w1 b1 => (h.below b1).cells
  have HA := hide (fun w1 (b1 : Below w.heap.size w w1) => (h.below b1).rall s hl)
  have hfit := fits_is hr s
  have HN : Hid (∀ w1, Below w.heap.size w w1 → RA w1 R o ∧ RStep w w1 R R) := fun w1 b1 => ⟨⟨⟨base, has, h.below b1, hr⟩⟩, RStep.below b1⟩
  have hkk := hf.ok.keep s hs
  cases hf1 : o.first with
  | false =>
    have e1 : o.propose s = (o, 0, 11) := by unfold OS.propose; rw [hf1]; rfl
    rw [e1]
    rw [hf1] at HF
    clear h hr hfit hkk e1 hf hf1
    go_enter Try.func14, Try.ntmps14
    go_wp2_with (go_at_call 11; refine HF.out.mono ?_; rintro e w1 ⟨rfl, b1⟩)
    go_ret2
    exact ⟨rfl, R, HN.out _ b1⟩
  | true =>
    rw [hf1] at HF
    cases hq : o.fits s with
    | false =>
      have e1 : o.propose s = (o, 0, 8) := by unfold OS.propose; rw [hf1, hq]; rfl
      rw [e1]
      rw [hq] at hfit
      have hd : ¬ wrap64 (wrap64 (bytesF o.log + (s.size : Int)) + 4) ≤ 45000 := of_decide_eq_false hfit.symm
      have hd2 : (45000 : Int) < wrap64 (wrap64 (bytesF o.log + (s.size : Int)) + 4) := by omega
      clear h hr hfit hkk e1 hf hf1 hd
      go_enter Try.func14, Try.ntmps14
      go_wp2_with (first | (go_at_call 11; refine HF.out.mono ?_; rintro e w1 ⟨rfl, b1⟩; have B1 := hide b1; clear b1) | (go_at_call 27; refine (HY.out _ B1.out).mono ?_; rintro e w2 ⟨rfl, h9⟩; subst h9))
      go_ret2
      exact ⟨rfl, R, HN.out _ B1.out⟩
    | true =>
      have e1 : o.propose s = ((o.keep s).make, (o.log.length : Int), 0) := by unfold OS.propose; rw [hf1, hq]; rfl
      rw [e1]
      rw [hq] at hfit
      have hd : wrap64 (wrap64 (bytesF o.log + (s.size : Int)) + 4) ≤ 45000 := of_decide_eq_true hfit.symm
      have hd2 : ¬ (45000 : Int) < wrap64 (wrap64 (bytesF o.log + (s.size : Int)) + 4) := by omega
      have hinv : (o.keep s).sure ≤ midN (o.keep s).counts := Nat.le_trans (hf.inv hf1) (counts_mono (o' := o.keep s) rfl hf.ok (keep_had hf.ok s))
      have hrk := hr.keep hf.ok s
      have HS : Hid (∀ w1 R1, RAt w1 R1 (o.keep s) base has → R1.b = R.b → Calls Try.prog 36 #[.pointer (some ⟨R.b, 0, none⟩)] w1 fun e w' => e = .returned (.tuple #[]) ∧ (RAt w' R1 (o.keep s).make base has ∧ RStep w1 w' R1 R1) ∧ w'.cell? ⟨R.b, 2, none⟩ = some (.slice R1.lo (o.log.length + 1) R1.lc)) := fun w1 R1 h1 hb => by
        have := rsure h1 hkk hrk hinv (by simp [OS.keep]; omega)
        rw [hb] at this
        refine this.mono ?_
        rintro e w' ⟨rfl, h2, h3⟩
        refine ⟨rfl, ⟨h2, h3⟩, ?_⟩
        have := h2.cells.c2
        rw [hb] at this
        rw [this]
        simp [OS.make, OS.keep]
      have HZ : Hid (∀ w1 R1, RAt w1 R1 (o.keep s).make base has → RA w1 R1 (o.keep s).make) := fun w1 R1 h1 => ⟨⟨base, has, h1, hrk.make⟩⟩
      clear h hr hfit hkk e1 hf hf1 hd hrk hinv hq
      go_enter Try.func14, Try.ntmps14
      go_upto_region 5 with (first | (go_at_call 11; refine HF.out.mono ?_; rintro e w1 ⟨rfl, b1⟩; have B1 := hide b1; clear b1) | (go_at_call 27; refine (HY.out _ B1.out).mono ?_; rintro e w2 ⟨rfl, h9⟩; subst h9))
      obtain ⟨ta, tc, w3, hrun, c2', f2', hR, hst⟩ := HA.out _ B1.out
      obtain ⟨_, _, c2, _, _, _⟩ := HC.out _ B1.out
      have HRUN := hide hrun
      have HR := hide hR
      have HST := hide hst
      have HS2 := hide (HS.out _ _ hR rfl)
      clear hrun hR hst
      go_upto_region 7 with (first | (go_at_call 36; refine HS2.out.mono ?_; rintro e w5 ⟨rfl, h5, c5⟩; have H5 := hide h5; clear h5) | (at_builtin; refine wpList_append_run rfl _ _ 23 rfl _ _ _ rfl rfl HRUN.out ?_))
      go_wp2
      go_ret2
      refine ⟨?_, _, HZ.out _ _ H5.out.1, (RStep.below B1.out).trans (HST.out.trans H5.out.2)⟩
      first | rfl | (congr 1; simp; done)
set_option maxHeartbeats 4000000 in
theorem radd {w : World} {R : RL} {o : OS} (h : RA w R o) (hf : o.Fine) (i : Int) (s : ByteArray) (hs : s.size ≤ 140737488351232) (hl : o.log.length < 8796093022208) :
    Calls Try.prog 16 #[.pointer (some ⟨R.b, 0, none⟩), .int .i64 i, .string s] w fun e w' => e = .returned (.bool (o.add i s).2) ∧ ∃ R', RA w' R' (o.add i s).1 ∧ RStep w w' R R' := by
  obtain ⟨base, has, h, hr⟩ := h.ex
  have HF := hide (rfirst h hf.ok)
  have HY := hide (fun w1 (b1 : Below w.heap.size w w1) => rbytes (h.below b1) hf.ok (by omega))
  have HC : Hid (∀ w1, Below w.heap.size w w1 → w1.cell? ⟨R.b, 2, none⟩ = some (.slice R.lo o.log.length R.lc)) := fun w1 b1 => (h.below b1).cells.c2
  have HA := hide (fun w1 (b1 : Below w.heap.size w w1) => (h.below b1).rall s hl)
  have hfit := fits_is hr s
  have HN : Hid (∀ w1, Below w.heap.size w w1 → ∃ R', RA w1 R' o ∧ RStep w w1 R R') := fun w1 b1 => ⟨R, ⟨⟨base, has, h.below b1, hr⟩⟩, RStep.below b1⟩
  have HZ : Hid (∀ w1 R1, RAt w1 R1 (o.keep s) base has → RA w1 R1 (o.keep s)) := fun w1 R1 h1 => ⟨⟨base, has, h1, hr.keep hf.ok s⟩⟩
  cases hf1 : o.first with
  | true =>
    have e1 : o.add i s = (o, false) := by unfold OS.add; rw [if_neg (by rw [hf1]; simp)]
    rw [e1]
    rw [hf1] at HF
    clear h hr hfit e1 hf hf1
    go_enter Try.func16, Try.ntmps16
    go_wp2_with (go_at_call 11; refine HF.out.mono ?_; rintro e w1 ⟨rfl, b1⟩)
    go_ret
    exact ⟨rfl, HN.out _ b1⟩
  | false =>
    rw [hf1] at HF
    by_cases hi : i = (o.log.length : Int)
    · subst hi
      cases hq : o.fits s with
      | false =>
        have e1 : o.add (o.log.length : Int) s = (o, false) := by unfold OS.add; rw [if_neg (by rw [hq]; simp)]
        rw [e1]
        rw [hq] at hfit
        have hd : ¬ wrap64 (wrap64 (bytesF o.log + (s.size : Int)) + 4) ≤ 45000 := of_decide_eq_false hfit.symm
        have hd2 : (45000 : Int) < wrap64 (wrap64 (bytesF o.log + (s.size : Int)) + 4) := by omega
        clear h hr hfit e1 hf hf1 hd
        go_enter Try.func16, Try.ntmps16
        go_wp2_with (first | (go_at_call 11; refine HF.out.mono ?_; rintro e w1 ⟨rfl, b1⟩; have c2 := HC.out _ b1; have B1 := hide b1; clear b1) | (go_at_call 27; refine (HY.out _ B1.out).mono ?_; rintro e w2 ⟨rfl, h9⟩; subst h9))
        go_ret
        exact ⟨rfl, HN.out _ B1.out⟩
      | true =>
        have e1 : o.add (o.log.length : Int) s = (o.keep s, true) := by unfold OS.add; rw [if_pos ⟨hf1, rfl, hq⟩]
        rw [e1]
        rw [hq] at hfit
        have hd : wrap64 (wrap64 (bytesF o.log + (s.size : Int)) + 4) ≤ 45000 := of_decide_eq_true hfit.symm
        have hd2 : ¬ (45000 : Int) < wrap64 (wrap64 (bytesF o.log + (s.size : Int)) + 4) := by omega
        clear h hr hfit e1 hf hf1 hd hq
        go_enter Try.func16, Try.ntmps16
        go_upto_region 3 with (first | (go_at_call 11; refine HF.out.mono ?_; rintro e w1 ⟨rfl, b1⟩; have c2 := HC.out _ b1; have B1 := hide b1; clear b1) | (go_at_call 27; refine (HY.out _ B1.out).mono ?_; rintro e w2 ⟨rfl, h9⟩; subst h9))
        obtain ⟨ta, tc, w3, hrun, c2', f2', hR, hst⟩ := HA.out _ B1.out
        have HRUN := hide hrun
        have HR := hide hR
        have HST := hide hst
        clear hrun hR hst
        go_wp2_with (at_builtin; refine wpList_append_run rfl _ _ 23 rfl _ _ _ rfl rfl HRUN.out ?_)
        go_ret
        exact ⟨rfl, _, HZ.out _ _ HR.out, (RStep.below B1.out).trans HST.out⟩
    · have e1 : o.add i s = (o, false) := by unfold OS.add; rw [if_neg (by simp [hi])]
      rw [e1]
      clear h hr hfit e1 hf hf1
      go_enter Try.func16, Try.ntmps16
      go_wp2_with (go_at_call 11; refine HF.out.mono ?_; rintro e w1 ⟨rfl, b1⟩; have c2 := HC.out _ b1; have B1 := hide b1; clear b1)
      go_ret
      exact ⟨rfl, HN.out _ B1.out⟩
set_option maxHeartbeats 4000000 in
theorem rlearn {w : World} {R : RL} {o : OS} (h : RA w R o) (hf : o.Fine) (n : Int) (hn1 : -9223372036854775808 ≤ n) (hn2 : n ≤ 9223372036854775807) (hl : o.log.length ≤ 17592186044416) :
    Calls Try.prog 20 #[.pointer (some ⟨R.b, 0, none⟩), .int .i64 n] w fun e w' => e = .returned (.bool (o.learn n).2) ∧ ∃ R', RA w' R' (o.learn n).1 ∧ RStep w w' R R' := by
  obtain ⟨base, has, h, hr⟩ := h.ex
  obtain ⟨_, _, c2, _, _, _⟩ := h.cells
  have HF := hide (rfirst h hf.ok)
  have HC : Hid (∀ w1, Below w.heap.size w w1 → w1.cell? ⟨R.b, 3, none⟩ = some (.int .i64 o.sure) ∧ w1.frozen? ⟨R.b, 3, none⟩ = false) := fun w1 b1 => ⟨(h.below b1).cells.c3, box_free (h.below b1).box 3⟩
  have HN : Hid (∀ w1, Below w.heap.size w w1 → ∃ R', RA w1 R' o ∧ RStep w w1 R R') := fun w1 b1 => ⟨R, ⟨⟨base, has, h.below b1, hr⟩⟩, RStep.below b1⟩
  by_cases hc : o.first = false ∧ (o.sure : Int) < min n (o.log.length : Int)
  · have e1 : o.learn n = ({ o with sure := (min n (o.log.length : Int)).toNat }, true) := by unfold OS.learn; rw [if_pos hc]
    rw [e1]
    obtain ⟨hf1, hlt⟩ := hc
    have HS : Hid (∀ w1, Below w.heap.size w w1 → ∃ R', RA (w1.setCell ⟨R.b, 3, none⟩ (.int .i64 (min n (o.log.length : Int)))) R' { o with sure := (min n (o.log.length : Int)).toNat } ∧ RStep w (w1.setCell ⟨R.b, 3, none⟩ (.int .i64 (min n (o.log.length : Int)))) R R') := fun w1 b1 => by
      have := (h.below b1).boxed (o' := { o with sure := (min n (o.log.length : Int)).toNat }) 3 (.int .i64 (min n (o.log.length : Int))) (by
        have : (min n (o.log.length : Int)) = (((min n (o.log.length : Int)).toNat : Nat) : Int) := by omega
        rw [this]
        rfl) rfl rfl
      exact ⟨R, ⟨⟨base, has, this.1, ⟨hr.seven, hr.other, hr.self, hr.bytes, hr.small⟩⟩⟩, (RStep.below b1).trans this.2⟩
    rw [hf1] at HF
    have hd : decide (min n (o.log.length : Int) ≤ (o.sure : Int)) = false := decide_eq_false (by omega)
    clear h hr e1 hf hf1
    go_enter Try.func20, Try.ntmps20
    go_wp2_with (go_at_call 11; refine HF.out.mono ?_; rintro e w1 ⟨rfl, b1⟩; obtain ⟨c4, f4⟩ := HC.out w1 b1; have B1 := hide b1; clear b1)
    go_ret
    exact ⟨rfl, HS.out _ B1.out⟩
  · have e1 : o.learn n = (o, false) := by unfold OS.learn; rw [if_neg hc]
    rw [e1]
    clear h hr e1 hf
    cases hf1 : o.first with
    | true =>
      rw [hf1] at HF
      clear hf1 hc
      go_enter Try.func20, Try.ntmps20
      go_wp2_with (go_at_call 11; refine HF.out.mono ?_; rintro e w1 ⟨rfl, b1⟩)
      go_ret
      exact ⟨rfl, HN.out _ b1⟩
    | false =>
      have hd : decide (min n (o.log.length : Int) ≤ (o.sure : Int)) = true := decide_eq_true (by rcases Int.lt_or_le (o.sure : Int) (min n (o.log.length : Int)) with h9 | h9; exact absurd ⟨hf1, h9⟩ hc; exact h9)
      rw [hf1] at HF
      clear hf1 hc
      go_enter Try.func20, Try.ntmps20
      go_wp2_with (go_at_call 11; refine HF.out.mono ?_; rintro e w1 ⟨rfl, b1⟩; obtain ⟨c4, f4⟩ := HC.out w1 b1; have B1 := hide b1; clear b1)
      go_ret
      exact ⟨rfl, HN.out _ B1.out⟩
end Go.Proofs.Ytjgbgbgajadgnaa
