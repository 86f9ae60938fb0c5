/-
  New, as it runs, of the law's own log; a whole row appended to nothing.
-/
import Derived.Test.YtjgbgbgajadgnaaZPE
namespace Go.Proofs.Ytjgbgbgajadgnaa
open Go.RowKit Go.Shelf

attribute [local go_sem ↓] Go.wp_at_zero Go.wp_at_succ
set_option linter.unusedSimpArgs false
set_option linter.unusedVariables false
theorem app_all (T E : TypeId) (by' : Nat) (zv : Value) (hu : Try.prog.underlying T = some (.slice E)) (hi : (Try.prog.info? E).map (fun i => (i.zero, i.size, i.bytes)) = some (some zv, 1, by')) (hz : zv.cells.size = 1) {w : World} {xo : Option Addr} {xcap : Nat} {xs : List Value} (hnil : xo = none → xcap = 0 ∧ xs = []) (hat : ∀ i (h : i < xs.length), ∃ g off, xo = some ⟨g, off, none⟩ ∧ w.cell? ⟨g, off + i, none⟩ = some xs[i]) (h1 : ∀ u ∈ xs, u.oneCell' = true) (hl : xs.length ≤ maxLen) (hby : xs.length * by' ≤ 140737488355328) :
    ∃ ta tc w', (Builtin.append_ #[T, T] T #[.slice none 0 0, .slice xo xs.length xcap]).run Try.prog w = .ok (.slice ta xs.length tc) w' ∧ w'.ownsRow w.heap.size E 1 (.slice ta xs.length tc) xs.length xs ∧ Below w.heap.size w w' := by
  obtain ⟨i0, hi0, hz1, hz2, hz3⟩ := zinfo_parts hi
  cases xo with
  | none =>
    obtain ⟨rfl, rfl⟩ := hnil rfl
    exact ⟨none, 0, w, run_append_owned_none (P := Try.prog) w w.heap.size T T E i0 1 hu hi0 (.slice none 0 0) 0 [] (World.ownsRow_nil _ _ _ _), World.ownsRow_nil _ _ _ _, Below.refl _ _⟩
  | some ad =>
    obtain ⟨v', w', hr, h2, h3, h4, h5⟩ := run_append_own_at (P := Try.prog) w w.heap.size T T E i0 zv 1 by' hu hi0 hz1 hz2 hz3 hz (by decide) (.slice none 0 0) 0 [] (World.ownsRow_nil _ _ _ _) ad xs.length xcap xs (by simp) (fun j u hj => by
      obtain ⟨hj1, hj2⟩ := List.getElem?_eq_some_iff.1 hj
      obtain ⟨g, off, e, hc⟩ := hat j hj1
      injection e with e
      subst e
      rw [← hj2, ← hc, Addr.add_lit]) h1 (by simpa using hl) (by simpa using hby) (Nat.le_refl _)
    rw [Nat.zero_add, List.nil_append] at h2
    obtain ⟨ta, tc, rfl⟩ := row_slice h2
    exact ⟨ta, tc, w', hr, h2, (Below.refl _ _).grown h3 (Nat.le_refl _) (fun j hj => by cases hj)⟩
theorem app_ints {w : World} {xo : Option Addr} {xcap : Nat} {l : List Int} (h : IntsAt w xo l) (hnil : xo = none → xcap = 0) (hl : l.length ≤ 17592186043904) :
    ∃ ta tc w', (Builtin.append_ #[22, 22] 22 #[.slice none 0 0, .slice xo l.length xcap]).run Try.prog w = .ok (.slice ta l.length tc) w' ∧ w'.ownsRow w.heap.size 3 1 (.slice ta l.length tc) l.length (l.map (.int .i64)) ∧ Below w.heap.size w w' := by
  have := app_all 22 3 8 _ Try.underlying22 infoInt rfl (w := w) (xo := xo) (xcap := xcap) (xs := l.map (.int .i64)) (fun e => ⟨hnil e, by
    cases l with
    | nil => rfl
    | cons x r => obtain ⟨g, off, e2, _⟩ := h 0 (by simp); rw [e] at e2; cases e2⟩) (fun i hi => by
      obtain ⟨g, off, e, _, hc⟩ := h i (by simpa using hi)
      exact ⟨g, off, e, by rw [hc]; simp⟩) (fun u hu => by obtain ⟨x, _, rfl⟩ := List.mem_map.1 hu; rfl) (by rw [List.length_map]; unfold maxLen; omega) (by rw [List.length_map]; omega)
  rw [List.length_map] at this
  exact this
theorem app_texts {w : World} {xo : Option Addr} {xcap : Nat} {l : List ByteArray} (h : TextsAt w xo l) (hnil : xo = none → xcap = 0) (hl : l.length ≤ 8796093022208) :
    ∃ ta tc w', (Builtin.append_ #[23, 23] 23 #[.slice none 0 0, .slice xo l.length xcap]).run Try.prog w = .ok (.slice ta l.length tc) w' ∧ w'.ownsRow w.heap.size 9 1 (.slice ta l.length tc) l.length (textC l) ∧ Below w.heap.size w w' := by
  have := app_all 23 9 16 _ Try.underlying23 infoStr rfl (w := w) (xo := xo) (xcap := xcap) (xs := textC l) (fun e => ⟨hnil e, by
    have h2 := h
    rw [e] at h2
    rw [h2.none]; rfl⟩) (fun i hi => by
      obtain ⟨g, off, e, _, hc⟩ := h i (by simpa [textC_length] using hi)
      exact ⟨g, off, e, by rw [hc]; simp [textC]⟩) (fun u hu => by obtain ⟨x, _, rfl⟩ := List.mem_map.1 hu; rfl) (by rw [textC_length]; unfold maxLen; omega) (by rw [textC_length]; omega)
  rw [textC_length] at this
  exact this
theorem Rel.new {self : Int} {nodes : List Int} {log : List ByteArray} (h : newOk self nodes = true) (ht : ∀ s ∈ log, s.size ≤ 140737488351232) (hl : log.length ≤ 8796093021952) : Rel (OS.new self nodes log) log.length (List.replicate 7 0) := by
  have hk := OS.Ok.new h ht
  have hh : ∀ i, i < 7 → i ∈ (OS.new self nodes log).nodes → (OS.new self nodes log).had.getD i 0 = log.length := fun i hi hm => by
    have hi' : i ∈ nodes.map Int.toNat := hm
    simp only [OS.new, List.getD_eq_getElem?_getD, List.getElem?_map, List.getElem?_range hi, Option.map_some, Option.getD_some, List.contains_iff_mem]
    rw [if_pos hi']
  have hz : ∀ i, (List.replicate 7 0 : List Nat).getD i 0 = 0 := fun i => by
    rw [List.getD_eq_getElem?_getD, List.getElem?_replicate]
    split <;> rfl
  refine ⟨rfl, fun i hi hm _ => ?_, ?_, rfl, by omega, fun i => by rw [hz]; omega⟩
  · rw [hh i hi hm, hz]; omega
  · exact hh _ hk.slf hk.self
theorem has_zero : hasA (List.replicate 7 0) = #[.int .i64 0, .int .i64 0, .int .i64 0, .int .i64 0, .int .i64 0, .int .i64 0, .int .i64 0] := rfl
theorem made_has {w : World} {B g : Nat} (h : w.ownsRow B 3 1 (.slice (some ⟨g, 0, none⟩) 7 7) 7 (madeCells (Value.int .i64 0).cells (7 * 1)).toList) : w.heap[g]? = some (.cells (hasA (List.replicate 7 0)) 3 (0, 0)) := by
  rcases h.2 with ⟨h0, _⟩ | ⟨g', cap, cur, hv, hg, hh, hn, _, hs, ht⟩
  · cases h0
  · injection hv with e1 e2 e3
    injection e1 with e1
    injection e1 with e1 _ _
    subst e1 e3
    rw [hh]
    have e : cur.toList = (madeCells (Value.int .i64 0).cells (7 * 1)).toList := by
      rw [← ht, List.take_of_length_le (by rw [Array.length_toList, hs]; exact Nat.le_refl _)]
    have e2 : cur = madeCells (Value.int .i64 0).cells (7 * 1) := Array.toList_inj.1 e
    rw [e2]
    have e3 : madeCells (Value.int .i64 0).cells (7 * 1) = hasA (List.replicate 7 0) := by kernel_rfl
    rw [e3]
/-- What the law's own New tells. -/
def RNew (self : Int) (nodes : List Int) (log : List ByteArray) (w : World) (e : Ending) (w' : World) : Prop :=
  (newOk self nodes = false ∧ e = .returned (.pointer none) ∧ Below w.heap.size w w') ∨ (newOk self nodes = true ∧ ∃ R, e = .returned (.pointer (some ⟨R.b, 0, none⟩)) ∧ RA w' R (OS.new self nodes log) ∧ Below w.heap.size w w' ∧ ∀ j, R.all j → w.heap.size ≤ j)
theorem RNew.no {self : Int} {nodes : List Int} {log : List ByteArray} {w w' : World} (h : newOk self nodes = false) (hb : Below w.heap.size w w') : RNew self nodes log w (.returned (.pointer none)) w' := .inl ⟨h, rfl, hb⟩
theorem newOk_rise {self : Int} {nodes : List Int} (h : risingF (-1) nodes = false) : newOk self nodes = false := by unfold newOk; rw [h]; rfl
set_option maxHeartbeats 4000000 in
set_option maxRecDepth 100000 in
theorem rnew (self : Int) (ao lo : Option Addr) (cp lc : Nat) (nodes : List Int) (log : List ByteArray) (w : World) (hN : IntsAt w ao nodes) (hn : nodes.length ≤ 17592186043904) (hnc : ao = none → cp = 0) (hL : TextsAt w lo log) (hs : ∀ s ∈ log, s.size ≤ 140737488351232) (hll : log.length ≤ 8796093021952) (hlc : lo = none → lc = 0) :
    Calls Try.prog 9 #[.int .i64 self, .slice ao nodes.length cp, .slice lo log.length lc] w (RNew self nodes log w) := by
  have HC : Hid (∀ w1, Below w.heap.size w w1 → IntsAt w1 ao nodes) := fun w1 b1 => hN.below b1
  have HT : Hid (∀ w1, Below w.heap.size w w1 → TextsAt w1 lo log) := fun w1 b1 => hL.below b1
  have HNC := hide hnc
  have HLC := hide hlc
  have HS := hide hs
  clear hN hL hnc hlc hs
  have R0 : Hid (risingF (-1) (nodes.drop 0) = risingF (-1) nodes) := rfl
  go_enter Try.func9, Try.ntmps9
  go_wp2
  go_loopw [7, 8] (fun okv iv wv => ∃ (k : Nat) (a : Int), k ≤ nodes.length ∧ iv = .int .i64 (k : Nat) ∧ okv = .bool ((nodes.take k).any fun x => decide (x = self)) ∧ Hid (risingF a (nodes.drop k) = risingF (-1) nodes) ∧ Hid (-1 ≤ a ∧ (k = 0 → a = -1) ∧ (∀ j (hj : j < nodes.length), k = j + 1 → a = nodes[j] ∧ 0 ≤ a)) ∧ Hid (Below w.heap.size w wv)) (fun _ iv _ => nodes.length - (intOf iv).toNat)
  case atStart => exact ⟨0, -1, Nat.zero_le _, rfl, rfl, R0, ⟨by omega, fun _ => rfl, fun j _ h => by omega⟩, Below.refl _ _⟩
  case round =>
    obtain ⟨k, a, hk, rfl, rfl, RV, AV, BV⟩ := hrel
    by_cases hlt : k < nodes.length
    · obtain ⟨g, off, hao, hg, hcell⟩ := HC.out wr BV.out k hlt
      have h0 : (0 : Int) ≤ (k : Int) := by omega
      have h1 : (k : Int) < (nodes.length : Int) := by omega
      have HR2 : Hid ((!(decide (nodes[k] ≤ a) || decide (7 ≤ nodes[k])) && risingF nodes[k] (nodes.drop (k + 1))) = risingF (-1) nodes) := by
        show _ = _
        have := RV.out
        rw [List.drop_eq_getElem_cons hlt, risingF] at this
        exact this
      have HB : Hid (((nodes.take (k + 1)).any fun x => decide (x = self)) = (((nodes.take k).any fun x => decide (x = self)) || decide (nodes[k] = self))) := by
        show _ = _
        rw [List.take_succ_eq_append_getElem hlt, List.any_append]
        simp
      have HP : Hid (∀ j, k = j + 1 → j < nodes.length ∧ wr.cell? ⟨g, off + j, none⟩ = some (.int .i64 a)) := fun j hj => by
        have hj2 : j < nodes.length := by omega
        obtain ⟨g2, off2, e2, _, hc2⟩ := HC.out wr BV.out j hj2
        rw [hao] at e2
        injection e2 with e2
        injection e2 with e3 e4 _
        subst e3 e4
        refine ⟨hj2, ?_⟩
        rw [hc2, (AV.out.2.2 j hj2 hj).1]
      have HX : Hid (∀ j (hj : j < nodes.length), k + 1 = j + 1 → nodes[k] = nodes[j]) := fun j hj e => by
        obtain rfl : k = j := by omega
        rfl
      have ha := AV.out.1
      have ha0 := AV.out.2.1
      have ha1 : Hid (∀ j, k = j + 1 → 0 ≤ a) := fun j hj => (AV.out.2.2 j (by omega) hj).2
      clear RV AV
      rw [hao]
      generalize nodes[k] = x at *
      generalize ((nodes.take k).any fun x => decide (x = self)) = fb at *
      have HFAIL : Hid (x ≤ a ∨ 7 ≤ x → newOk self nodes = false) := fun h => newOk_rise (by rw [← HR2.out]; rcases h with h | h <;> simp [h])
      have HGO : Hid (¬ x ≤ a → ¬ 7 ≤ x → risingF x (nodes.drop (k + 1)) = risingF (-1) nodes) := fun h h2 => by rw [← HR2.out]; simp [h, h2]
      clear HR2
      by_cases hx0 : x < 0
      · have hd1 : decide (x < 0) = true := decide_eq_true hx0
        have HF := hide (HFAIL.out (.inl (by omega)))
        go_wp2
        go_quiet (fail)
        go_wp2
        go_ret
        exact .no HF.out (below_drewN BV.out _)
      have hd1 : decide (x < 0) = false := decide_eq_false hx0
      by_cases hx6 : 6 < x
      · have hd2 : decide (6 < x) = true := decide_eq_true hx6
        have HF := hide (HFAIL.out (.inr (by omega)))
        go_wp2
        go_quiet (fail)
        go_wp2
        go_ret
        exact .no HF.out (below_drewN BV.out _)
      have hd2 : decide (6 < x) = false := decide_eq_false hx6
      have HREL : Hid (∀ m, ¬ x ≤ a → ∃ (k' : Nat) (a' : Int), k' ≤ nodes.length ∧ Value.int .i64 ((k : Int) + 1) = .int .i64 (k' : Nat) ∧ Value.bool (fb || decide (x = self)) = .bool ((nodes.take k').any fun x => decide (x = self)) ∧ Hid (risingF a' (nodes.drop k') = risingF (-1) nodes) ∧ Hid (-1 ≤ a' ∧ (k' = 0 → a' = -1) ∧ (∀ j (hj : j < nodes.length), k' = j + 1 → a' = nodes[j] ∧ 0 ≤ a')) ∧ Hid (Below w.heap.size w (wr.drewN m))) := fun m h =>
        ⟨k + 1, x, by omega, by go_num, by rw [HB.out], HGO.out h (by omega), ⟨by omega, fun e => by omega, fun j hj e => ⟨HX.out j hj e, by omega⟩⟩, below_drewN BV.out _⟩
      rcases Nat.eq_zero_or_pos k with hk0 | hk0
      · have hna : ¬ x ≤ a := by have := ha0 hk0; omega
        have hd3 : decide (0 < k) = false := decide_eq_false (by omega)
        have HR3 := hide (fun m => HREL.out m hna)
        clear HREL HGO HFAIL hna HX HB hk0 ha0 HP ha1
        cases fb
        all_goals go_wp2
        all_goals go_quiet (fail)
        all_goals go_wp2
        all_goals exact ⟨HR3.out _, by simp [intOf]; omega⟩
      · obtain ⟨j, hj⟩ : ∃ j, k = j + 1 := ⟨k - 1, by omega⟩
        obtain ⟨hj2, hcj⟩ := HP.out j hj
        have hd3 : decide (0 < k) = true := decide_eq_true (by omega)
        have hq : (k : Int) - 1 = (j : Int) := by omega
        have y0 : (0 : Int) ≤ (j : Int) := by omega
        have y1 : (j : Int) < (nodes.length : Int) := by omega
        clear hj hk0 ha0 HP ha1
        by_cases hxa : x ≤ a
        · have hd4 : decide (x ≤ a) = true := decide_eq_true hxa
          have HF := hide (HFAIL.out (.inl hxa))
          clear HREL HGO HFAIL HX HB
          go_wp2
          go_quiet (fail)
          go_wp2
          go_ret
          exact .no HF.out (below_drewN BV.out _)
        · have hd4 : decide (x ≤ a) = false := decide_eq_false hxa
          have HR3 := hide (fun m => HREL.out m hxa)
          clear HREL HGO HFAIL HX HB
          cases fb
          all_goals go_wp2
          all_goals go_quiet (fail)
          all_goals go_wp2
          all_goals exact ⟨HR3.out _, by simp [intOf]; omega⟩
    · obtain rfl : k = nodes.length := by omega
      have hi1 : ¬ (nodes.length : Int) < (nodes.length : Int) := by omega
      have HF1 : Hid (risingF (-1) nodes = true) := by
        have := RV.out
        rw [List.drop_length] at this
        exact this.symm
      have e0 : ((nodes.take nodes.length).any fun x => decide (x = self)) = (nodes.any fun x => decide (x = self)) := by rw [List.take_length]
      rw [e0]
      clear RV AV e0
      cases hfb : (nodes.any fun x => decide (x = self)) with
      | false =>
        have HF : Hid (newOk self nodes = false) := by show _ = _; unfold newOk; rw [hfb]; simp
        clear hfb
        go_wp2
        go_ret
        exact .no HF.out BV.out
      | true =>
        have HOK : Hid (newOk self nodes = true) := by show _ = _; unfold newOk; rw [hfb, HF1.out]; rfl
        clear hfb
        obtain ⟨⟨sn, hsn, hs7⟩, hnat, hne, hin⟩ := newOk_nat HOK.out
        have HNAT := hide hnat
        have HREL := hide (Rel.new HOK.out HS.out hll)
        obtain ⟨i0, hi0, hz0, hz1, hz2⟩ := zinfo_parts infoInt
        clear hnat hne hin HF1
        subst hsn
        go_upto_region 11 with (refine wpList_make_full _ rfl _ _ 22 rfl wr.heap.size 3 i0 (.int .i64 0) 1 Try.underlying22 hi0 hz0 hz1 .i64 .i64 _ _ 7 rfl rfl rfl rfl (by rw [hz2]; omega) (by unfold maxLen; omega) (Nat.le_refl _) ?_; intro w1 hown hgrow)
        have hhas : w1.heap[wr.heap.size]? = some (.cells (hasA (List.replicate 7 0)) 3 (0, 0)) := made_has hown
        have BA := hide ((BV.out.grown hgrow BV.out.size (fun j hj => by cases hj)))
        have hgs : wr.heap.size < w1.heap.size := heap_lt hhas
        have hws : w.heap.size ≤ wr.heap.size := BV.out.size
        generalize wr.heap.size = ha at *
        have b2 : Below w1.heap.size w1 (w1.alloc (.cells #[.int .i64 (sn : Int), .slice none 0 0, .slice none 0 0, .int .i64 (log.length : Int), .int .i64 (log.length : Int), .slice (some ⟨ha, 0, none⟩) 7 7] 47)) := (Below.refl _ _).alloc (Nat.le_refl _) _
        have X2 := heap_alloc_new w1 (.cells #[.int .i64 (sn : Int), .slice none 0 0, .slice none 0 0, .int .i64 (log.length : Int), .int .i64 (log.length : Int), .slice (some ⟨ha, 0, none⟩) 7 7] 47 (0, 0))
        have H2 := (Touch.of_below (own := fun _ => False) b2).at hhas (fun e => e)
        have B2 := hide (BA.out.trans (b2.mono BA.out.size))
        have hb2 := heap_lt X2
        generalize hw2 : w1.alloc _ = w2 at *
        generalize hbb : w1.heap.size = b at *
        have X2' : w2.heap[b]? = some (.cells #[.int .i64 (sn : Int), .slice none 0 0, .slice none 0 0, .int .i64 (log.length : Int), .int .i64 (log.length : Int), .slice (some ⟨ha, 0, none⟩) 7 7] 47 (0, 0)) := X2
        have wsb : w.heap.size ≤ b := by omega
        obtain ⟨no, nc, w3, hrun, row3, b3⟩ := app_ints (HC.out w2 B2.out) HNC.out hn
        have X3 := (Touch.of_below (own := fun _ => False) b3).at X2' (fun e => e)
        have H3 := (Touch.of_below (own := fun _ => False) b3).at H2 (fun e => e)
        have c3 := box_cell X3 1 rfl
        have f3 := box_free X3 1
        have c2 := box_cell X2' 1 rfl
        have HRUN := hide hrun
        have hno : ∀ j, no.map Addr.block = some j → w2.heap.size ≤ j := fun j hj => (row3.lt j (by rw [ownBlock_slice]; exact hj)).1
        have hnb : no.map Addr.block ≠ some b := fun e => by have := hno b e; omega
        have X4 := box_set X3 1 (.slice no nodes.length nc)
        have H4 := box_apart H3 (show ha ≠ b by omega) 1 (.slice no nodes.length nc)
        have row4 := set_row row3 b 1 (.slice no nodes.length nc) (by rw [ownBlock_slice]; exact hnb)
        have B4 : Hid (Below w.heap.size w (w3.setCell ⟨b, 1, none⟩ (.slice no nodes.length nc))) := (B2.out.trans (b3.mono B2.out.size)).setCell wsb _
        have ROW4 := hide row4
        have XH4 := hide X4
        have HH4 := hide H4
        clear hrun row3 row4 X4 H4 X2 X2' H2 X3 H3 hown hhas hgrow
        go_upto_region 12 with (at_builtin; refine wpList_append_run rfl _ _ 22 rfl _ _ _ rfl rfl HRUN.out ?_)
        generalize w3.setCell ⟨b, 1, none⟩ (.slice no nodes.length nc) = w4 at *
        obtain ⟨lo2, lc2, w5, hrun, row5, b5⟩ := app_texts (HT.out w4 B4.out) HLC.out (by omega)
        have X5 := (Touch.of_below (own := fun _ => False) b5).at XH4.out (fun e => e)
        have H5 := (Touch.of_below (own := fun _ => False) b5).at HH4.out (fun e => e)
        have row6 := below_row b5 ROW4.out
        have c5 := box_cell X5 2 rfl
        have f5 := box_free X5 2
        have c4 := box_cell XH4.out 2 rfl
        have HRUN2 := hide hrun
        have hlo : ∀ j, lo2.map Addr.block = some j → w4.heap.size ≤ j := fun j hj => (row5.lt j (by rw [ownBlock_slice]; exact hj)).1
        have hb4 := heap_lt XH4.out
        have hlb : lo2.map Addr.block ≠ some b := fun e => by have := hlo b e; omega
        have X7 := hide (box_set X5 2 (.slice lo2 log.length lc2))
        have H7 := hide (box_apart H5 (show ha ≠ b by omega) 2 (.slice lo2 log.length lc2))
        have row7 := hide (set_row row5 b 2 (.slice lo2 log.length lc2) (by rw [ownBlock_slice]; exact hlb))
        have row8 := hide (set_row row6 b 2 (.slice lo2 log.length lc2) (by rw [ownBlock_slice]; exact hnb))
        have B7 : Hid (Below w.heap.size w (w5.setCell ⟨b, 2, none⟩ (.slice lo2 log.length lc2))) := (B4.out.trans (b5.mono B4.out.size)).setCell wsb _
        clear hrun row5 row6 X5 H5
        go_wp2_with (at_builtin; refine wpList_append_run rfl _ _ 23 rfl _ _ _ rfl rfl HRUN2.out ?_)
        go_ret
        refine .inr ⟨HOK.out, ⟨b, no, nc, lo2, lc2, ha⟩, rfl, ⟨⟨log.length, List.replicate 7 0, ⟨?_, ?_, ?_, H7.out, ?_⟩, HREL.out⟩⟩, B7.out, ?_⟩
        · rw [X7.out]
          simp [rBox, OS.new]
        · have := row_base row8.out (Nat.zero_le _)
          have e : (OS.new (sn : Int) nodes log).nodes = nodes.map Int.toNat := rfl
          rw [e, ← HNAT.out, List.length_map]
          exact this
        · exact row_base row7.out (Nat.zero_le _)
        · exact fun e => by have := hno ha e; omega
        · rintro j (e | e | e | e)
          · rw [e]; exact wsb
          · have := hlo j e; have := B4.out.size; omega
          · have := hno j e; have := B2.out.size; omega
          · rw [e]; exact hws
end Go.Proofs.Ytjgbgbgajadgnaa
