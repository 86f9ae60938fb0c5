/-
  ViewStays, as it runs, of what the program answers (mkls.py).
-/
import Derived.Test.YtbkglpbkbfopjaaZLS1
namespace Go.Proofs.Ytbkglpbkbfopjaa
open Go.RowKit

attribute [local go_sem ↓] Go.wp_at_zero Go.wp_at_succ
set_option linter.unusedSimpArgs false
set_option linter.unusedVariables false
theorem ls_ret {w W : World} {a : Act} {v : Vls} {r : Bool} (hF : Fls a v) (h4 : v.v4 = .bool r) (hB : Below w.heap.size w W) :
    bodyPost Try.prog Try.f6 (fun e w' => e = .returned (.bool r) ∧ Below w.heap.size w w') .ret a W := by
  have g4 := slot_get (hF.s4.trans h4)
  refine bodyPost_ret (v := .bool r) ?_ hF.defers ⟨rfl, hB⟩
  simp [results, Try.results6, go_sem, g4]
set_option maxHeartbeats 16000000 in
set_option maxRecDepth 100000 in
theorem stays_walk (HX : ExSays) (HN : NextSays) (HR : RightSays) (x : VW) (Q : List Int) (ao aw : Option Addr) (cp cw : Nat) (w : World) (hM : MemsAt w ao x.mem) (hQ : IntsAt w aw Q) (hl : x.mem.length ≤ 4611686018427387903) (hlQ : Q.length ≤ 17592186043904) (hnil : aw = none → cw = 0) :
    Calls Try.prog 6 #[x.v ao cp, .slice aw Q.length cw] w fun e w' => e = .returned (.bool true) ∧ Below w.heap.size w w' := by
  have HXX := hide HX
  have HNN := hide HN
  have HM := hide hM
  have HQ := hide hQ
  have HNL := hide hnil
  have RR : Hid (∀ W, Below w.heap.size w W → Calls Try.prog 12 #[x.v ao cp] W fun e w' => e = .returned (.bool (decide x.right)) ∧ Below W.heap.size W w') := fun W b => HR x ao cp W (hM.below b) hl
  have X0 := hide (heap_alloc_new w (.cells #[.int .i64 x.num, .slice ao x.mem.length cp] tView))
  have HB := hide ((Below.refl w.heap.size w).alloc (Nat.le_refl _) (.cells #[.int .i64 x.num, .slice ao x.mem.length cp] tView))
  clear hM hQ HX HN HR hnil
  simp only [VW.v] at RR ⊢
  go_enter Try.func6, Try.ntmps6
  go_upto_region 1 with fail
  rename_i Ko hKo
  generalize w.alloc (.cells #[.int .i64 x.num, .slice ao x.mem.length cp] tView) = w1 at *
  refine reg_mono (ls_r1 (by kernel_rfl) _ (v := ⟨_, _, _, _, _, _, _, _, _⟩) ⟨rfl, rfl, rfl, rfl, rfl, rfl, rfl, rfl, rfl, rfl, rfl⟩ (HXX.out w1) ?_)
  intro a2 w2 F2 b2
  refine hKo _ _ ?_
  have D2 := (b2.block _ (heap_lt X0.out)).trans X0.out
  have B2 := HB.out.trans (b2.mono HB.out.size)
  refine wp_seq (wp_seq (reg_mono (ls_r2 (by kernel_rfl) _ F2 rfl D2 (RR.out w2 B2) ?_)))
  intro a3 w3 F3 h19 b3
  have D3 := (b3.block _ (heap_lt D2)).trans D2
  have B3 := B2.trans (b3.mono B2.size)
  by_cases c1 : ¬ x.right ∨ 9007199254740991 ≤ x.num
  · rw [show (!decide x.right || decide (9007199254740991 ≤ x.num)) = true by rcases c1 with e | e <;> simp [e]] at h19
    refine wp_cond_true h19 (wp_seq (reg_mono (ls_r3 (by kernel_rfl) _ F3 rfl ?_)))
    intro a4 F4
    exact wp_ret (ls_ret F4 rfl B3)
  have hv : x.right := Decidable.not_not.1 fun e => c1 (.inl e)
  have hn : ¬ 9007199254740991 ≤ x.num := fun e => c1 (.inr e)
  rw [show (!decide x.right || decide (9007199254740991 ≤ x.num)) = false by simp [hv]; omega] at h19
  refine wp_cond_false h19 (wp_skip ?_)
  show Code.wp _ _ _ _ _
  have hn7 : x.mem.length ≤ 7 := hv.2.2.2.1
  refine wp_seq (reg_mono (ls_r4 (by kernel_rfl) _ F3 ?_))
  intro a4 F4
  refine wp_mid (fun a W => ∃ (v : Vls) (oo : Option Addr) (oc : Nat), Fls a v ∧ v.v2 = .pointer (some ⟨w.heap.size, 0, none⟩) ∧ v.v5 = .bool true ∧ v.v6 = .slice oo Q.length oc ∧ W.heap[w.heap.size]? = some (.cells #[.int .i64 x.num, .slice ao x.mem.length cp] tView (0, 0)) ∧ W.ownsRow w.heap.size 3 1 (.slice oo Q.length oc) Q.length (intCells Q) ∧ Below w.heap.size w W) ?_ ?_
  · cases aw with
    | none =>
      obtain rfl : cw = 0 := HNL.out rfl
      have hq0 : Q = [] := by
        cases Q with
        | nil => rfl
        | cons n Q => obtain ⟨b, off, e, _⟩ := HQ.out 0 (by simp); cases e
      subst hq0
      refine ls_r5n (by kernel_rfl) _ F4 rfl rfl ?_
      intro a5 F5
      exact ⟨_, none, 0, F5, rfl, rfl, rfl, D3, World.ownsRow_nil _ _ _ _, B3⟩
    | some ad =>
      refine ls_r5 (L := Q) (by kernel_rfl) _ F4 rfl rfl (HQ.out.below B3) hlQ ?_
      intro a5 w5 oo oc F5 t5 R5
      refine ⟨_, oo, oc, F5, rfl, rfl, rfl, t5.at D3 (fun e => e), ⟨R5.1, ?_⟩, B3.trans (t5.toBelow B3.size fun _ _ e => e)⟩
      rcases R5.2 with e | ⟨g', cap', cur, e, hg, rest⟩
      · exact .inl e
      · exact .inr ⟨g', cap', cur, e, Nat.le_trans B3.size hg, rest⟩
  clear F2 F3 F4 h19 D2 D3 B2 B3 b2 b3
  rintro a5 w5 ⟨v5, oo, oc, F5, g2, g5, g6, D5, R5, B5⟩
  refine wp_seq (wp_seq (reg_mono (ls_r6 (by kernel_rfl) _ F5 ?_)))
  intro a6 F6
  refine wp_block (wp_loop (fun a W => ∃ (i : Nat) (v : Vls) (oo : Option Addr) (oc : Nat), i ≤ x.mem.length ∧ Fls a v ∧ v.v2 = .pointer (some ⟨w.heap.size, 0, none⟩) ∧ v.v5 = .bool true ∧ v.v6 = .slice oo (Q.length + i) oc ∧ v.v7 = .int .i64 (i : Int) ∧ W.heap[w.heap.size]? = some (.cells #[.int .i64 x.num, .slice ao x.mem.length cp] tView (0, 0)) ∧ W.ownsRow w.heap.size 3 1 (.slice oo (Q.length + i) oc) (Q.length + i) (intCells (Q ++ (x.mem.take i).map MB.node)) ∧ Below w.heap.size w W) (fun a _ => x.mem.length - (intOf (a.tmps.getD 7 undef)).toNat) ⟨0, _, oo, oc, Nat.zero_le _, F6, g2, g5, g6, rfl, D5, by simpa using R5, B5⟩ ?_)
  clear F5 F6 g2 g5 g6 D5 R5 B5
  rintro a7 w7 ⟨i, v7, oo, oc, hi, F7, g2, g5, g6, g7, D7, R7, B7⟩
  have hm7 : (intOf (a7.tmps.getD 7 undef)).toNat = i := by rw [F7.s7, g7]; simp [intOf]
  refine wp_seq (wp_seq (reg_mono (ls_r7 (by kernel_rfl) _ F7 g2 g7 D7 ?_)))
  intro a8 F8 h28
  by_cases hlt : i < x.mem.length
  · rw [decide_eq_true hlt] at h28
    refine wp_cond_true h28 (wp_skip ?_)
    show Code.wp _ _ _ _ _
    obtain ⟨b, off, hao, _, y0, y1⟩ := HM.out.below B7 i hlt
    refine wp_seq (wp_block (reg_all (ls_r9 (by kernel_rfl) _ F8 g2 g6 g7 hlt (by rw [← hao]; exact D7) y0 R7 (by omega) B7.size ?_)))
    intro a9 w9 oo9 oc9 F9 t9 R9
    show Code.wp _ _ _ _ _
    refine reg_all (ls_r8 (by kernel_rfl) _ F9 g7 (by omega) ?_)
    intro a10 F10
    refine ⟨⟨i + 1, _, oo9, oc9, by omega, F10, g2, g5, rfl, rfl, t9.at D7 fun e => int_not R7 e D7 rfl, ?_, B7.trans (t9.toBelow B7.size fun j hj e => by have := (R7.lt j e).1; omega)⟩, ?_⟩
    · rw [List.take_add_one, List.getElem?_eq_getElem hlt, List.map_append, ← List.append_assoc]
      exact R9
    · have hm10 : (intOf (a10.tmps.getD 7 undef)).toNat = i + 1 := by rw [F10.s7]; simp only [intOf]; omega
      rw [hm10, hm7]
      omega
  rw [decide_eq_false hlt] at h28
  refine wp_cond_false h28 (wp_exit ?_)
  show Code.wp _ _ _ _ _
  obtain rfl : i = x.mem.length := by omega
  rw [List.take_length] at R7
  have hwl : (Q ++ x.mem.map MB.node).length = Q.length + x.mem.length := by simp
  have hE := HNN.out x x.mem (Q ++ x.mem.map MB.node) ao ao oo cp cp oc w7 (HM.out.below B7) (HM.out.below B7) (ints_of_row R7 hwl) hl hl (by rw [hwl]; omega)
  rw [hwl, next_stays hv (by show x.num < 9007199254740991; omega) (fun m hm => List.mem_append_right _ (List.mem_map_of_mem hm))] at hE
  refine wp_seq (reg_mono (ls_r10 (by kernel_rfl) _ F8 g2 g6 D7 hE ?_))
  intro a9 w9 ro rc F9 N9 b9
  have D9 := box_alloc ((b9.block _ (heap_lt D7)).trans D7) (.cells #[.int .i64 (x.num + 1), .slice ro x.mem.length rc] tView)
  have B9' := B7.trans (b9.mono B7.size)
  have B9 := B9'.alloc B9'.size (.cells #[.int .i64 (x.num + 1), .slice ro x.mem.length rc] tView)
  have P9 := heap_alloc_new w9 (.cells #[.int .i64 (x.num + 1), .slice ro x.mem.length rc] tView)
  have M9 : MemsAt (w9.alloc (.cells #[.int .i64 (x.num + 1), .slice ro x.mem.length rc] tView)) ro x.mem := mems_of_row (World.ownsRow.alloc N9 _) rfl
  clear N9 B9'
  simp only at F9 ⊢
  generalize w9.alloc (.cells #[.int .i64 (x.num + 1), .slice ro x.mem.length rc] tView) = w10 at *
  generalize w9.heap.size = p at *
  refine wp_seq (wp_seq (reg_mono (ls_r11 (by kernel_rfl) _ F9 g2 rfl rfl D9 P9 ?_)))
  intro a11 F11 h58
  refine wp_cond_false h58 (wp_skip ?_)
  show Code.wp _ _ _ _ _
  refine wp_seq (wp_seq (reg_mono (ls_r13 (by kernel_rfl) _ F11 ?_)))
  intro a12 F12
  refine wp_block (wp_loop (fun a W => ∃ (i : Nat) (v : Vls), i ≤ x.mem.length ∧ Fls a v ∧ v.v2 = .pointer (some ⟨w.heap.size, 0, none⟩) ∧ v.v5 = .bool true ∧ v.v8 = .pointer (some ⟨p, 0, none⟩) ∧ v.v10 = .int .i64 (i : Int) ∧ Touch (fun _ => False) w10 W) (fun a _ => x.mem.length - (intOf (a.tmps.getD 10 undef)).toNat) ⟨0, _, Nat.zero_le _, F12, g2, g5, rfl, rfl, Touch.refl _ _⟩ ?_)
  clear F7 F8 F9 F11 F12 g2 g5 g6 g7
  rintro a13 w13 ⟨i, v13, hi13, F13, g2, g5, g8, g10, t13⟩
  have hm13 : (intOf (a13.tmps.getD 10 undef)).toNat = i := by rw [F13.s10, g10]; simp [intOf]
  have D13 := t13.at D9 fun e => e
  have P13 := t13.at P9 fun e => e
  have b13 : Below w10.heap.size w10 w13 := t13.toBelow (Nat.le_refl _) fun _ _ e => e
  have B13 := B9.trans (b13.mono B9.size)
  refine wp_seq (wp_seq (reg_mono (ls_r14 (by kernel_rfl) _ F13 g8 g10 P13 ?_)))
  intro a14 F14 h63
  by_cases hlk : i < x.mem.length
  · rw [decide_eq_true hlk] at h63
    refine wp_cond_true h63 (wp_skip ?_)
    show Code.wp _ _ _ _ _
    obtain ⟨b, off, hao, _, y0, y1⟩ := HM.out.below B13 i hlk
    obtain ⟨b2, off2, hro, _, z0, z1⟩ := M9.below b13 i hlk
    refine wp_seq (wp_block (wp_seq (reg_mono (ls_r16 (by kernel_rfl) _ F14 g2 g8 g10 hlk (by rw [← hao]; exact D13) (by rw [← hro]; exact P13) y0 y1 z0 z1 ?_))))
    intro a15 w15 F15 h76 t15
    refine wp_cond_false h76 (wp_skip ?_)
    show Code.wp _ _ _ _ _
    refine reg_all (ls_r15 (by kernel_rfl) _ F15 g10 (by omega) ?_)
    intro a16 F16
    refine ⟨⟨i + 1, _, by omega, F16, g2, g5, g8, rfl, t13.andThen t15 fun _ _ e => e⟩, ?_⟩
    have hm16 : (intOf (a16.tmps.getD 10 undef)).toNat = i + 1 := by rw [F16.s10]; simp only [intOf]; omega
    rw [hm16, hm13]
    omega
  rw [decide_eq_false hlk] at h63
  refine wp_cond_false h63 (wp_exit ?_)
  show Code.wp _ _ _ _ _
  refine wp_seq (reg_mono (ls_r18 (by kernel_rfl) _ F14 g5 ?_))
  intro a15 F15
  exact wp_ret (ls_ret F15 rfl B13)
end Go.Proofs.Ytbkglpbkbfopjaa
