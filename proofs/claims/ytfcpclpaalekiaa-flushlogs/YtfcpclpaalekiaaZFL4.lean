/-
  The program's Encode, as it runs (4).
-/
import Derived.Test.YtfcpclpaalekiaaZFK
import Derived.Test.YtfcpclpaalekiaaZQF
namespace Go.Proofs.Ytfcpclpaalekiaa
open Go.RowKit Go.Shelf
attribute [local go_sem ↓] Go.wp_at_zero Go.wp_at_succ
set_option linter.unusedSimpArgs false
set_option linter.unusedVariables false
theorem app_items {w : World} {B B2 n oc m xc : Nat} {oo xo : Option Addr} {xs ys : List K.It} (hown : w.ownsRow B tItem 3 (.slice oo n oc) n (itCells xs)) (hx : w.ownsRow B2 tItem 3 (.slice xo m xc) m (itCells ys)) (hm : ys.length = m) (hl : n + m ≤ 1000000) (hB : B ≤ w.heap.size) :
    ∃ ta tc w', (Builtin.append_ #[60, 60] 60 #[.slice oo n oc, .slice xo m xc]).run Try.prog w = .ok (.slice ta (n + m) tc) w' ∧ w'.ownsRow B tItem 3 (.slice ta (n + m) tc) (n + m) (itCells (xs ++ ys)) ∧ Below B w w' := by
  obtain ⟨i0, hi0, hz0, hz1, hz2⟩ := zinfo_parts infoIt
  cases xo with
  | none =>
    have hm0 : m = 0 ∧ xc = 0 := by
      rcases hx.2 with ⟨e, _⟩ | ⟨g, cap, cur, hv, _⟩
      · injection e with _ e1 e2; exact ⟨e1, e2⟩
      · injection hv with e _ _; cases e
    obtain ⟨rfl, rfl⟩ := hm0
    obtain rfl : ys = [] := List.eq_nil_of_length_eq_zero hm
    rw [List.append_nil]
    exact ⟨oo, oc, w, run_append_owned_none (P := Try.prog) w B 60 60 tItem i0 3 Try.underlying60 hi0 (.slice oo n oc) n (itCells xs) hown, hown, Below.refl _ _⟩
  | some ad =>
    have hlen : (itCells ys).length = m * 3 := by
      rw [← hm]
      clear hx hm
      induction ys with
      | nil => rfl
      | cons y l ih => have e : itCells (y :: l) = [.int .i64 y.k, .int .u64 y.n, .string y.s] ++ itCells l := rfl
                       rw [e, List.length_append, ih, List.length_cons]; simp only [List.length_cons, List.length_nil]; omega
    obtain ⟨v', w', hr, h2, h3, h4, h5⟩ := run_append_own_at (P := Try.prog) w B 60 60 tItem i0 (.agg #[.int .i64 0, .int .u64 0, .string ⟨#[]⟩]) 3 32 Try.underlying60 hi0 hz0 hz1 hz2 rfl (by decide) (.slice oo n oc) n (itCells xs) hown ad m xc (itCells ys) hlen (fun j u hj => by
      rcases hx.2 with ⟨e, _⟩ | ⟨g, cap, cur, hv, hg, hh, hn, _, hs, ht⟩
      · cases e
      · obtain rfl : ad = ⟨g, 0, none⟩ := Option.some.inj (Value.slice.inj hv).1
        exact hx.cells (g := g) rfl j u hj) (by
      intro u hu
      unfold itCells at hu
      obtain ⟨x, _, hx⟩ := List.mem_flatMap.1 hu
      simp at hx
      rcases hx with rfl | rfl | rfl <;> rfl) (by unfold maxLen; omega) (by omega) hB
    obtain ⟨ao, cp, rfl⟩ := row_slice h2
    refine ⟨ao, cp, w', hr, ?_, ?_⟩
    · rw [itCells_append]; exact h2
    · exact (Below.refl _ _).grown h3 hB (fun j hj => by exact (hown.lt j hj).1)
theorem txI_ok (s : ByteArray) (h : s.size ≤ 9223372036854775807) : (txI s).ok := ⟨by show (-9223372036854775808 : Int) ≤ 4; omega, by show (4 : Int) ≤ 9223372036854775807; omega, by show (0 : Int) ≤ 0; omega, by show (0 : Int) < 18446744073709551616; omega, h⟩
theorem itemsL_ok {v : VW} {log : List ByteArray} (h : fitsL v log) : ∀ x ∈ itemsL v log, x.ok := by
  intro x hx
  have : ∃ s ∈ headV v :: log, x = txI s := by
    unfold itemsL at hx
    rcases List.mem_cons.1 hx with e | e
    · exact ⟨_, List.mem_cons_self, e⟩
    · obtain ⟨s, hs, rfl⟩ := List.mem_map.1 e
      exact ⟨s, List.mem_cons_of_mem _ hs, rfl⟩
  obtain ⟨s, hs, rfl⟩ := this
  exact txI_ok s (by have := sizeF_mem hs; have := h.2; omega)
theorem texts_one (w : World) (s : ByteArray) : TextsAt (w.alloc (.cells #[.string s] 9)) (some ⟨w.heap.size, 0, none⟩) [s] := by
  intro i hi
  obtain rfl : i = 0 := by simpa using hi
  have X := heap_alloc_new w (.cells #[.string s] 9)
  exact ⟨w.heap.size, 0, rfl, heap_lt X, box_cell X 0 rfl⟩
theorem headV_size {v : VW} (h : v.right) : (headV v).size ≤ 2000000 := by
  have := codeV_len h
  unfold headV
  simpa [ByteArray.size] using this
end Go.Proofs.Ytfcpclpaalekiaa
namespace Go.Proofs.Ytfcpclpaalekiaa
open Go.RowKit Go.Shelf
set_option maxHeartbeats 8000000
set_option maxRecDepth 100000
attribute [local go_sem ↓] Go.wp_at_zero Go.wp_at_succ
set_option linter.unusedSimpArgs false
set_option linter.unusedVariables false
theorem fe_no {cd : ByteArray} {num : Int} {ao lo : Option Addr} {n cp lc ln : Nat} {w : World} (HE : Hid (Calls Try.prog 27 #[.agg #[.int .i64 num, .slice ao n cp]] (w.alloc (.cells #[.int .i64 num, .slice ao n cp] tView)) fun e w' => e = .returned (.tuple #[.string cd, .int .i64 1]) ∧ Below (w.alloc (.cells #[.int .i64 num, .slice ao n cp] tView)).heap.size (w.alloc (.cells #[.int .i64 num, .slice ao n cp] tView)) w')) :
    Calls Try.prog 17 #[.agg #[.int .i64 num, .slice ao n cp], .slice lo ln lc] w fun e w' => e = .returned (.tuple #[.string ⟨#[]⟩, .int .i64 1]) ∧ Below w.heap.size w w' := by
  have HB := hide ((Below.refl w.heap.size w).alloc (Nat.le_refl _) (.cells #[.int .i64 num, .slice ao n cp] tView))
  have HD := hide (heap_alloc_new w (.cells #[.int .i64 num, .slice ao n cp] tView))
  have y0 := box_cell HD.out 0 rfl
  have y1 := box_cell HD.out 1 rfl
  go_enter Try.func17, Try.ntmps17
  go_wp2_with (go_at_call 27; refine HE.out.mono ?_; rintro e w2 ⟨rfl, b2⟩; have B2 : Hid (Below w.heap.size w w2) := HB.out.trans (b2.mono HB.out.size); clear b2)
  go_ret2
  exact ⟨rfl, B2.out⟩
theorem fe_many {hd : ByteArray} {num : Int} {ao lo : Option Addr} {n cp lc ln : Nat} {w : World} (HE : Hid (Calls Try.prog 27 #[.agg #[.int .i64 num, .slice ao n cp]] (w.alloc (.cells #[.int .i64 num, .slice ao n cp] tView)) fun e w' => e = .returned (.tuple #[.string hd, .int .i64 0]) ∧ Below (w.alloc (.cells #[.int .i64 num, .slice ao n cp] tView)).heap.size (w.alloc (.cells #[.int .i64 num, .slice ao n cp] tView)) w')) (h9 : 990 < ln) :
    Calls Try.prog 17 #[.agg #[.int .i64 num, .slice ao n cp], .slice lo ln lc] w fun e w' => e = .returned (.tuple #[.string ⟨#[]⟩, .int .i64 3]) ∧ Below w.heap.size w w' := by
  have d1 : decide ((990 : Int) < (ln : Int)) = true := decide_eq_true (by omega)
  have HB := hide ((Below.refl w.heap.size w).alloc (Nat.le_refl _) (.cells #[.int .i64 num, .slice ao n cp] tView))
  have HD := hide (heap_alloc_new w (.cells #[.int .i64 num, .slice ao n cp] tView))
  have y0 := box_cell HD.out 0 rfl
  have y1 := box_cell HD.out 1 rfl
  clear h9
  go_enter Try.func17, Try.ntmps17
  go_wp2_with (go_at_call 27; refine HE.out.mono ?_; rintro e w2 ⟨rfl, b2⟩; have B2 : Hid (Below w.heap.size w w2) := HB.out.trans (b2.mono HB.out.size); have B2a : Hid (Below w.heap.size w (w2.alloc (.cells #[.string hd] 9))) := B2.out.alloc B2.out.size _; clear b2)
  go_ret2
  exact ⟨rfl, B2.out⟩
end Go.Proofs.Ytfcpclpaalekiaa
namespace Go.Proofs.Ytfcpclpaalekiaa
open Go.RowKit Go.Shelf
set_option maxHeartbeats 8000000
set_option maxRecDepth 100000
attribute [local go_sem ↓] Go.wp_at_zero Go.wp_at_succ
set_option linter.unusedSimpArgs false
set_option linter.unusedVariables false
theorem fe_big {hd : ByteArray} {h4 sz : Nat} {num : Int} {ao lo : Option Addr} {n cp lc ln : Nat} {w : World} (HE : Hid (Calls Try.prog 27 #[.agg #[.int .i64 num, .slice ao n cp]] (w.alloc (.cells #[.int .i64 num, .slice ao n cp] tView)) fun e w' => e = .returned (.tuple #[.string hd, .int .i64 0]) ∧ Below (w.alloc (.cells #[.int .i64 num, .slice ao n cp] tView)).heap.size (w.alloc (.cells #[.int .i64 num, .slice ao n cp] tView)) w')) (HS1 : Hid (∀ W : World, Calls Try.prog 28 #[.slice (some ⟨W.heap.size, 0, none⟩) 1 1] (W.alloc (.cells #[.string hd] 9)) fun e w' => e = .returned (.int .i64 (h4 : Int)) ∧ ∃ n, w' = (W.alloc (.cells #[.string hd] 9)).drewN n)) (HS2 : Hid (∀ W : World, Below w.heap.size w W → Calls Try.prog 28 #[.slice lo ln lc] W fun e w' => e = .returned (.int .i64 (sz : Int)) ∧ ∃ n, w' = W.drewN n)) (h9 : ln ≤ 990) (h1 : h4 ≤ 3000000) (h2 : sz ≤ 139611588448485376) (h3 : 100000 < h4 + sz) :
    Calls Try.prog 17 #[.agg #[.int .i64 num, .slice ao n cp], .slice lo ln lc] w fun e w' => e = .returned (.tuple #[.string ⟨#[]⟩, .int .i64 3]) ∧ Below w.heap.size w w' := by
  have d1 : decide ((990 : Int) < (ln : Int)) = false := decide_eq_false (by omega)
  have w1 : IntKind.i64.wrap ((h4 : Int) + (sz : Int)) = (h4 : Int) + (sz : Int) := by rw [IntKind.wrap_i64]; omega
  have d2 : decide ((100000 : Int) < (h4 : Int) + (sz : Int)) = true := decide_eq_true (by omega)
  have HB := hide ((Below.refl w.heap.size w).alloc (Nat.le_refl _) (.cells #[.int .i64 num, .slice ao n cp] tView))
  have HD := hide (heap_alloc_new w (.cells #[.int .i64 num, .slice ao n cp] tView))
  have y0 := box_cell HD.out 0 rfl
  have y1 := box_cell HD.out 1 rfl
  clear h9 h1 h2 h3
  go_enter Try.func17, Try.ntmps17
  go_wp2_with (first
    | (go_at_call 27; refine HE.out.mono ?_; rintro e w2 ⟨rfl, b2⟩; have B2 : Hid (Below w.heap.size w w2) := HB.out.trans (b2.mono HB.out.size); have B2a : Hid (Below w.heap.size w (w2.alloc (.cells #[.string hd] 9))) := B2.out.alloc B2.out.size _; clear b2)
    | (go_at_call 28; refine (HS2.out _ B3.out).mono ?_; rintro e w4 ⟨rfl, n2, rfl⟩; have B4 := hide (below_drewN B3.out n2))
    | (go_at_call 28; refine (HS1.out _).mono ?_; rintro e w3 ⟨rfl, n1, rfl⟩; have B3 : Hid (Below w.heap.size w ((w2.alloc (.cells #[.string hd] 9)).drewN n1)) := below_drewN B2a.out n1))
  go_ret2
  exact ⟨rfl, below_drewN B2a.out _⟩
end Go.Proofs.Ytfcpclpaalekiaa
namespace Go.Proofs.Ytfcpclpaalekiaa
open Go.RowKit Go.Shelf
set_option maxHeartbeats 8000000
set_option maxRecDepth 100000
attribute [local go_sem ↓] Go.wp_at_zero Go.wp_at_succ
set_option linter.unusedSimpArgs false
set_option linter.unusedVariables false
theorem fe_fits {hd : ByteArray} {h4 sz : Nat} {lt : List K.It} {R : ByteArray × Int} {num : Int} {ao lo : Option Addr} {n cp lc ln : Nat} {w : World} (HE : Hid (Calls Try.prog 27 #[.agg #[.int .i64 num, .slice ao n cp]] (w.alloc (.cells #[.int .i64 num, .slice ao n cp] tView)) fun e w' => e = .returned (.tuple #[.string hd, .int .i64 0]) ∧ Below (w.alloc (.cells #[.int .i64 num, .slice ao n cp] tView)).heap.size (w.alloc (.cells #[.int .i64 num, .slice ao n cp] tView)) w')) (HS1 : Hid (∀ W : World, Calls Try.prog 28 #[.slice (some ⟨W.heap.size, 0, none⟩) 1 1] (W.alloc (.cells #[.string hd] 9)) fun e w' => e = .returned (.int .i64 (h4 : Int)) ∧ ∃ n, w' = (W.alloc (.cells #[.string hd] 9)).drewN n)) (HS2 : Hid (∀ W : World, Below w.heap.size w W → Calls Try.prog 28 #[.slice lo ln lc] W fun e w' => e = .returned (.int .i64 (sz : Int)) ∧ ∃ n, w' = W.drewN n)) (h9 : ln ≤ 990) (h1 : h4 ≤ 3000000) (h2 : sz ≤ 139611588448485376) (h3 : h4 + sz ≤ 100000) (hlt : lt.length = ln)
    (HI1 : Hid (∀ W : World, Calls Try.prog 30 #[.slice (some ⟨W.heap.size, 0, none⟩) 1 1] (W.alloc (.cells #[.string hd] 9)) fun e w' => ∃ ro rc, e = .returned (.slice ro 1 rc) ∧ w'.ownsRow (W.alloc (.cells #[.string hd] 9)).heap.size tItem 3 (.slice ro 1 rc) 1 (itCells [txI hd]) ∧ Below (W.alloc (.cells #[.string hd] 9)).heap.size (W.alloc (.cells #[.string hd] 9)) w'))
    (HI2 : Hid (∀ W : World, Below w.heap.size w W → Calls Try.prog 30 #[.slice lo ln lc] W fun e w' => ∃ ro rc, e = .returned (.slice ro ln rc) ∧ w'.ownsRow W.heap.size tItem 3 (.slice ro ln rc) ln (itCells lt) ∧ Below W.heap.size W w'))
    (HEN : Hid (∀ (W : World) (B : Nat) (oo : Option Addr) (oc : Nat), W.ownsRow B tItem 3 (.slice oo (1 + ln) oc) (1 + ln) (itCells ([txI hd] ++ lt)) → Calls Try.prog 29 #[.slice oo (1 + ln) oc] W fun e w' => e = .returned (.tuple #[.string R.1, .int .i64 R.2]) ∧ Below W.heap.size W w')) :
    Calls Try.prog 17 #[.agg #[.int .i64 num, .slice ao n cp], .slice lo ln lc] w fun e w' => e = .returned (.tuple #[.string R.1, .int .i64 R.2]) ∧ Below w.heap.size w w' := by
  have d1 : decide ((990 : Int) < (ln : Int)) = false := decide_eq_false (by omega)
  have w1 : IntKind.i64.wrap ((h4 : Int) + (sz : Int)) = (h4 : Int) + (sz : Int) := by rw [IntKind.wrap_i64]; omega
  have d2 : decide ((100000 : Int) < (h4 : Int) + (sz : Int)) = false := decide_eq_false (by omega)
  have H9 := hide h9
  have HB := hide ((Below.refl w.heap.size w).alloc (Nat.le_refl _) (.cells #[.int .i64 num, .slice ao n cp] tView))
  have HD := hide (heap_alloc_new w (.cells #[.int .i64 num, .slice ao n cp] tView))
  have y0 := box_cell HD.out 0 rfl
  have y1 := box_cell HD.out 1 rfl
  clear h9 h1 h2 h3
  go_enter Try.func17, Try.ntmps17
  go_upto_region 6 with (first
    | (go_at_call 27; refine HE.out.mono ?_; rintro e w2 ⟨rfl, b2⟩; have B2 : Hid (Below w.heap.size w w2) := HB.out.trans (b2.mono HB.out.size); have B2a : Hid (Below w.heap.size w (w2.alloc (.cells #[.string hd] 9))) := B2.out.alloc B2.out.size _; clear b2)
    | (go_at_call 28; refine (HS2.out _ B3.out).mono ?_; rintro e w4 ⟨rfl, n2, rfl⟩; have B4 := hide (below_drewN B3.out n2))
    | (go_at_call 28; refine (HS1.out _).mono ?_; rintro e w3 ⟨rfl, n1, rfl⟩; have B3 : Hid (Below w.heap.size w ((w2.alloc (.cells #[.string hd] 9)).drewN n1)) := below_drewN B2a.out n1))
  clear HS1 HS2
  generalize hW4 : (World.drewN (w2.alloc (.cells #[.string hd] 9)) (n1 + n2)) = w4
  have B4b : Hid (Below w.heap.size w w4) := by rw [← hW4]; exact below_drewN B2a.out _
  clear hW4 B4 B3 B2a B2 HE
  have B4a : Hid (Below w.heap.size w (w4.alloc (.cells #[.string hd] 9))) := B4b.out.alloc B4b.out.size _
  go_wp2_with (first
    | (go_at_call 30; refine (HI2.out _ B5.out).mono ?_; rintro e w6 ⟨so, sc, rfl, hrow6, b6⟩; have B6 := hide (B5.out.trans (b6.mono B5.out.size)); obtain ⟨ta, tc, w7, hrun, hrow7, b7⟩ := app_items (ownsRow_base (below_row b6 R5.out) B4a.out.size) hrow6 hlt (by have := H9.out; omega) B6.out.size; have HRUN := hide hrun; have R7 := hide hrow7; have B7 := hide (B6.out.trans b7); clear b6 hrow6 hrun hrow7 b7)
    | (go_at_call 30; refine (HI1.out _).mono ?_; rintro e w5 ⟨ro, rc, rfl, hrow5, b5⟩; have B5 := hide (B4a.out.trans (b5.mono B4a.out.size)); have R5 := hide hrow5; clear b5 hrow5)
    | (at_builtin; refine wpList_append_run rfl _ _ 60 rfl _ _ _ rfl rfl HRUN.out ?_)
    | (go_at_call 29; refine (HEN.out _ _ _ _ R7.out).mono ?_; rintro e w8 ⟨rfl, b8⟩; have B8 := hide (B7.out.trans (b8.mono B7.out.size)); clear b8))
  go_ret2
  exact ⟨rfl, B8.out⟩
end Go.Proofs.Ytfcpclpaalekiaa
namespace Go.Proofs.Ytfcpclpaalekiaa
open Go.RowKit Go.Shelf
set_option maxHeartbeats 8000000
set_option maxRecDepth 100000
attribute [local go_sem ↓] Go.wp_at_zero Go.wp_at_succ
set_option linter.unusedSimpArgs false
set_option linter.unusedVariables false
theorem fencode (v : VW) (ao lo : Option Addr) (cp lc : Nat) (log : List ByteArray) (w : World) (hM : MemsAt w ao v.mem) (hm : v.mem.length ≤ 4611686018427387903) (hL : TextsAt w lo log) (hl : log.length ≤ 17592186044416) (hs : ∀ s ∈ log, s.size ≤ 140737488351232) :
    Calls Try.prog 17 #[v.v ao cp, .slice lo log.length lc] w fun e w' => e = .returned (.tuple #[.string ⟨(encL v log).1.toArray⟩, .int .i64 (encL v log).2]) ∧ Below w.heap.size w w' := by
  have HB := hide ((Below.refl w.heap.size w).alloc (Nat.le_refl _) (.cells #[.int .i64 v.num, .slice ao v.mem.length cp] tView))
  have HE := hide (pencode v ao cp _ (hM.below HB.out) hm)
  simp only [VW.v] at HE ⊢
  by_cases hr : v.right
  · rw [if_pos hr, if_pos hr] at HE
    have hcd : (⟨(codeV v).toArray⟩ : ByteArray) = headV v := rfl
    rw [hcd] at HE
    by_cases h9 : 990 < log.length
    · have HQ : encL v log = ([], 3) := by
        unfold encL
        rw [if_pos hr, if_neg (fun h => by have := h.1; omega)]
      rw [HQ]
      exact fe_many HE h9
    · have h90 : log.length ≤ 990 := by omega
      have hh := headV_size hr
      have hz := sizeF_up (l := log) (by omega) hs
      have HS1 : Hid (∀ W : World, Calls Try.prog 28 #[.slice (some ⟨W.heap.size, 0, none⟩) 1 1] (W.alloc (.cells #[.string (headV v)] 9)) fun e w' => e = .returned (.int .i64 ((sizeF [headV v] : Nat) : Int)) ∧ ∃ n, w' = (W.alloc (.cells #[.string (headV v)] 9)).drewN n) := fun W => fsize _ 1 [headV v] _ (texts_one W _) (by simp) (fun s h => by rw [List.mem_singleton.1 h]; omega)
      have HS2 : Hid (∀ W : World, Below w.heap.size w W → Calls Try.prog 28 #[.slice lo log.length lc] W fun e w' => e = .returned (.int .i64 (sizeF log : Nat)) ∧ ∃ n, w' = W.drewN n) := fun W b => fsize lo lc log W (hL.below b) h90 hs
      have h4 : sizeF [headV v] = 4 + (headV v).size := rfl
      have h5 : sizeF (headV v :: log) = 4 + (headV v).size + sizeF log := rfl
      by_cases hf : sizeF [headV v] + sizeF log ≤ 100000
      · have hfit : fitsL v log := ⟨h90, by omega⟩
        have HQ : encL v log = K.encF (itemsL v log) := by
          unfold encL
          rw [if_pos hr, if_pos hfit, encF_L hfit]
        have hok := itemsL_ok hfit
        have hil : (itemsL v log).length = 1 + log.length := by unfold itemsL; simp; omega
        refine fe_fits (R := (⟨(encL v log).1.toArray⟩, (encL v log).2)) (lt := log.map txI) HE HS1 HS2 h90 (by omega) hz hf (List.length_map _) (fun W => fitems _ 1 [headV v] _ (texts_one W _) (by simp)) (fun W b => fitems lo lc log W (hL.below b) h90) fun W B oo oc h => ?_
        have := K.encode_any oo oc (itemsL v log) W (its_of_row (L := itemsL v log) h hil) hok (by rw [hil]; unfold maxLen; omega)
        rw [hil] at this
        rw [HQ]
        exact this
      · have HQ : encL v log = ([], 3) := by
          unfold encL
          rw [if_pos hr, if_neg (fun h => by have := h.2; omega)]
        rw [HQ]
        exact fe_big HE HS1 HS2 h90 (by omega) hz (by omega)
  · rw [if_neg hr, if_neg hr] at HE
    have HQ : encL v log = ([], 1) := by
      unfold encL
      rw [if_neg hr]
    rw [HQ]
    exact fe_no HE
end Go.Proofs.Ytfcpclpaalekiaa
