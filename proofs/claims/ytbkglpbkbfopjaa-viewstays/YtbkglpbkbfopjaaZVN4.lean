/-
  carillonref12's Next, as it runs (mkvn4.py).
-/
import Derived.Test.YtbkglpbkbfopjaaZVN3
namespace Go.Proofs.Ytbkglpbkbfopjaa
open Go.RowKit

attribute [local go_sem ↓] Go.wp_at_zero Go.wp_at_succ
set_option linter.unusedSimpArgs false
set_option linter.unusedVariables false

/-- What Next leaves: the members in a row of one's own. -/
structure NextGave (w w' : World) (e : Ending) (r : VW × Int) : Prop where
  res : ∃ ro rc, e = .returned (.tuple #[r.1.v ro rc, .int .i64 r.2]) ∧ w'.ownsRow w.heap.size tMember 2 (.slice ro r.1.mem.length rc) r.1.mem.length (mbCells r.1.mem)
  below : Below w.heap.size w w'
theorem vn_ret {w W : World} {a : Act} {v : Vvn} {rb : Nat} {r : VW × Int} {ro : Option Addr} {rc : Nat} (hF : Fvn a v) (h6 : v.v6 = .pointer (some ⟨rb, 0, none⟩)) (h7 : v.v7 = .int .i64 r.2) (hR : W.heap[rb]? = some (.cells #[.int .i64 r.1.num, .slice ro r.1.mem.length rc] tView (0, 0))) (hrow : W.ownsRow w.heap.size tMember 2 (.slice ro r.1.mem.length rc) r.1.mem.length (mbCells r.1.mem)) (hB : Below w.heap.size w W) {T : VW × Int} (hT : r = T) :
    bodyPost Try.prog Try.f19 (fun e w' => NextGave w w' e T) .ret a W := by
  subst hT
  have g6 := slot_get (hF.s6.trans h6)
  have g7 := slot_get (hF.s7.trans h7)
  have c0 := box_cell hR 0 rfl
  have c1 := box_cell hR 1 rfl
  refine bodyPost_ret (v := .tuple #[.agg #[.int .i64 r.1.num, .slice ro r.1.mem.length rc], .int .i64 r.2]) ?_ hF.defers ⟨⟨ro, rc, rfl, hrow⟩, hB⟩
  simp [results, Try.results19, go_sem, g6, g7, c0, c1]
theorem life_take (A : List MB) (k : Int) (i : Nat) (hi : i < A.length) : lifeOf (A.take (i + 1)) k = if A[i].node = k then max (lifeOf (A.take i) k) A[i].life else lifeOf (A.take i) k := by
  unfold lifeOf
  rw [List.take_add_one, List.foldl_append, List.getElem?_eq_getElem hi]
  rfl
theorem mem_take (L : List Int) (k : Int) (i : Nat) (hi : i < L.length) : decide (k ∈ L.take (i + 1)) = (decide (k ∈ L.take i) || L[i] == k) := by
  rw [List.take_add_one, List.getElem?_eq_getElem hi]
  simp only [Option.toList_some, List.mem_append, List.mem_singleton, Bool.decide_or]
  congr 1
  by_cases e : k = L[i]
  · rw [decide_eq_true e, e]; simp
  · rw [decide_eq_false e]
    symm
    rw [beq_eq_false_iff_ne]
    exact fun c => e c.symm
/-- Its boxes, the members so far. -/
structure NW (w : World) (x : VW) (ao : Option Addr) (cp ob : Nat) (W : World) (D : List MB) (oo : Option Addr) (oc : Nat) : Prop where
  d : W.heap[w.heap.size]? = some (.cells #[.int .i64 x.num, .slice ao x.mem.length cp] tView (0, 0))
  r : W.heap[w.heap.size + 1]? = some (.cells #[.int .i64 0, .slice none 0 0] tView (0, 0))
  o : W.heap[ob]? = some (.cells #[.int .i64 (x.num + 1), .slice oo D.length oc] tView (0, 0))
  row : W.ownsRow w.heap.size tMember 2 (.slice oo D.length oc) D.length (mbCells D)
  ob : w.heap.size + 2 ≤ ob
  below : Below w.heap.size w W
theorem row_not {W : World} {B n : Nat} {v : Value} {xs : List Value} (h : W.ownsRow B tMember 2 v n xs) {j k : Nat} (hj : v.ownBlock = some j) {cs : Array Value} (hk : W.heap[k]? = some (.cells cs tView (0, 0))) : j ≠ k := fun e => by
  subst e
  rcases h.2 with ⟨rfl, _⟩ | ⟨g, cap, cur, rfl, _, hh, _⟩
  · cases hj
  · obtain rfl : g = j := Option.some.inj hj
    rw [hk] at hh
    injection hh with hh
    injection hh with _ hh _
    exact absurd hh (by decide)
attribute [local go_sem ↓] Go.wp_at_zero Go.wp_at_succ
set_option maxHeartbeats 16000000 in
set_option maxRecDepth 100000 in
theorem rnext (x : VW) (A : List MB) (Q : List Int) (ao aa aw : Option Addr) (cp ca cw : Nat) (w : World) (hM : MemsAt w ao x.mem) (hA : MemsAt w aa A) (hQ : IntsAt w aw Q) (hl : x.mem.length ≤ 4611686018427387904) (hlA : A.length ≤ 4611686018427387903) (hlQ : Q.length ≤ 4611686018427387903) :
    Calls Try.prog 19 #[x.v ao cp, .slice aa A.length ca, .slice aw Q.length cw] w fun e w' => NextGave w w' e (x.next A Q) := by
  have HM := hide hM
  have HA := hide hA
  have HQ := hide hQ
  obtain ⟨T, hT⟩ : ∃ T, x.next A Q = T := ⟨_, rfl⟩
  rw [hT]
  have HT := hide hT
  have X0 := heap_alloc_new w (.cells #[.int .i64 x.num, .slice ao x.mem.length cp] tView)
  have X1 := heap_alloc_new (w.alloc (.cells #[.int .i64 x.num, .slice ao x.mem.length cp] tView)) (.cells #[.int .i64 0, .slice none 0 0] tView)
  rw [show (w.alloc (.cells #[.int .i64 x.num, .slice ao x.mem.length cp] tView)).heap.size = w.heap.size + 1 by simp] at X1
  have HD := hide (box_alloc X0 (.cells #[.int .i64 0, .slice none 0 0] tView))
  have HR := hide X1
  have HB := hide (((Below.refl w.heap.size w).alloc (Nat.le_refl _) (.cells #[.int .i64 x.num, .slice ao x.mem.length cp] tView)).alloc (by simp) (.cells #[.int .i64 0, .slice none 0 0] tView))
  have hs2 : ((w.alloc (.cells #[.int .i64 x.num, .slice ao x.mem.length cp] tView)).alloc (.cells #[.int .i64 0, .slice none 0 0] tView)).heap.size = w.heap.size + 2 := by simp
  have HS := hide hs2
  clear hM hA hQ hT X0 X1 hs2
  simp only [VW.v]
  go_enter Try.func19, Try.ntmps19
  go_upto_region 1 with fail
  rename_i Ko hKo
  generalize (w.alloc (.cells #[.int .i64 x.num, .slice ao x.mem.length cp] tView)).alloc (.cells #[.int .i64 0, .slice none 0 0] tView) = w1 at *
  refine reg_mono (vn_r1 (x := x) (by kernel_rfl) _ (v := ⟨_, _, _, _, _, _, _, _, _, _, _, _, _, _⟩) ⟨rfl, rfl, rfl, rfl, rfl, rfl, rfl, rfl, rfl, rfl, rfl, rfl, rfl, rfl, rfl, rfl⟩ rfl HD.out (HM.out.below HB.out) ?_)
  intro a2 w2 F2 b2
  refine hKo _ _ ?_
  have D2 := (b2.block _ (heap_lt HD.out)).trans HD.out
  have R2 := (b2.block _ (heap_lt HR.out)).trans HR.out
  have B2 := HB.out.trans (b2.mono HB.out.size)
  have S2 : w.heap.size + 2 ≤ w2.heap.size := by rw [← HS.out]; exact b2.size
  refine wp_seq (wp_seq (reg_mono (vn_r2 (by kernel_rfl) _ F2 rfl rfl D2 ?_)))
  intro a3 F3 h25
  by_cases c1 : ¬ x.right ∨ x.num = big
  · rw [show (!decide x.right || x.num == big) = true by rcases c1 with e | e <;> simp [e]] at h25
    refine wp_cond_true h25 (wp_seq (reg_mono (vn_r3 (by kernel_rfl) _ F3 rfl R2 ?_)))
    intro a4 w4 F4 t4 r4
    refine wp_ret ?_
    have eT : T = (⟨0, []⟩, 1) := by rw [← HT.out]; unfold VW.next; rw [if_pos c1]
    exact vn_ret (r := (⟨0, []⟩, 1)) F4 rfl rfl r4 (World.ownsRow_nil _ _ _ _) (B2.trans (t4.toBelow B2.size fun k hk e => by omega)) eT.symm
  have hv : x.right := Decidable.not_not.1 fun e => c1 (.inl e)
  have hn : x.num ≠ big := fun e => c1 (.inr e)
  rw [show (!decide x.right || x.num == big) = false by simp [hv, hn]] at h25
  refine wp_cond_false h25 (wp_skip ?_)
  show Code.wp _ _ _ _ _
  have hnum : 1 ≤ x.num ∧ x.num < big := ⟨hv.1, by have := hv.2.1; omega⟩
  -- all alive are right
  refine wp_seq (wp_seq (reg_mono (vn_r4 (by kernel_rfl) _ F3 ?_)))
  intro a4 F4
  refine wp_block (wp_loop (fun a W => ∃ i v, i ≤ A.length ∧ (∀ j (hj : j < A.length), j < i → A[j].right) ∧ Fvn a v ∧ v.v1 = .slice aa A.length ca ∧ v.v2 = .slice aw Q.length cw ∧ v.v3 = .pointer (some ⟨w.heap.size, 0, none⟩) ∧ v.v6 = .pointer (some ⟨w.heap.size + 1, 0, none⟩) ∧ v.v9 = .int .i64 (i : Int) ∧ Below w2.heap.size w2 W) (fun a _ => A.length - (intOf (a.tmps.getD 9 undef)).toNat) ⟨0, _, Nat.zero_le _, fun j _ hj => absurd hj (Nat.not_lt_zero _), F4, rfl, rfl, rfl, rfl, rfl, Below.refl _ _⟩ ?_)
  clear F2 F3 F4 h25
  rintro a5 w5 ⟨i, v5, hi, hok, F5, g1, g2, g3, g6, g9, b5⟩
  have D5 := (b5.block _ (heap_lt D2)).trans D2
  have R5 := (b5.block _ (heap_lt R2)).trans R2
  have B5 := B2.trans (b5.mono B2.size)
  have hm5 : (intOf (a5.tmps.getD 9 undef)).toNat = i := by rw [F5.s9, g9]; simp [intOf]
  refine wp_seq (wp_seq (reg_mono (vn_r5 (by kernel_rfl) _ F5 g1 g9 ?_)))
  intro a6 F6 h30
  by_cases hlt : i < A.length
  · rw [decide_eq_true hlt] at h30
    refine wp_cond_true h30 (wp_skip ?_)
    show Code.wp _ _ _ _ _
    obtain ⟨b, off, haa, _, y0, y1⟩ := HA.out.below B5 i hlt
    refine wp_seq (wp_block (wp_seq (reg_mono (vn_r7 (m := A[i]) (by kernel_rfl) _ F6 (g1.trans (by rw [haa])) g9 hlt y0 y1 ?_))))
    intro a7 w7 F7 b7
    refine wp_seq (reg_mono (vn_r8 (by kernel_rfl) _ F7 rfl ?_))
    intro a8 F8 h39
    have B7 := B5.trans (b7.mono B5.size)
    by_cases c2 : A[i].right
    · rw [decide_eq_true c2] at h39
      refine wp_cond_false h39 (wp_skip ?_)
      show Code.wp _ _ _ _ _
      refine reg_all (vn_r6 (by kernel_rfl) _ F8 g9 (by omega) ?_)
      intro a9 F9
      refine ⟨⟨i + 1, _, by omega, fun j hj hji => ?_, F9, g1, g2, g3, g6, rfl, b5.trans (b7.mono b5.size)⟩, ?_⟩
      · by_cases e : j = i
        · subst e; exact c2
        · exact hok j hj (by omega)
      · have hm9 : (intOf (a9.tmps.getD 9 undef)).toNat = i + 1 := by rw [F9.s9]; simp only [intOf]; omega
        rw [hm9, hm5]
        omega
    · rw [decide_eq_false c2] at h39
      refine wp_cond_true h39 (wp_seq (reg_mono (vn_r9 (by kernel_rfl) _ F8 g6 ((b7.block _ (heap_lt R5)).trans R5) ?_)))
      intro a9 w9 F9 t9 r9
      refine wp_ret ?_
      have eT : T = (⟨0, []⟩, 1) := by
        rw [← HT.out]
        unfold VW.next
        rw [if_neg c1, if_pos (fun e => c2 (e _ (List.getElem_mem hlt)))]
      exact vn_ret (r := (⟨0, []⟩, 1)) F9 g6 rfl r9 (World.ownsRow_nil _ _ _ _) (B7.trans (t9.toBelow B7.size fun k hk e => by omega)) eT.symm
  rw [decide_eq_false hlt] at h30
  refine wp_cond_false h30 (wp_exit ?_)
  show Code.wp _ _ _ _ _
  have hall : ∀ m ∈ A, m.right := fun m hm => by
    obtain ⟨j, hj, rfl⟩ := List.getElem_of_mem hm
    exact hok j hj (by omega)
  refine wp_seq (reg_mono (vn_r10 (by kernel_rfl) _ F6 g3 D5 hnum ?_))
  intro a7 F7
  have hs5 : w.heap.size + 2 ≤ w5.heap.size := Nat.le_trans S2 b5.size
  have N7 : NW w x ao cp w5.heap.size (w5.alloc (.cells #[.int .i64 (x.num + 1), .slice none 0 0] tView)) [] none 0 := ⟨box_alloc D5 _, box_alloc R5 _, heap_alloc_new _ _, World.ownsRow_nil _ _ _ _, hs5, B5.alloc (by omega) _⟩
  generalize w5.alloc (.cells #[.int .i64 (x.num + 1), .slice none 0 0] tView) = w7 at *
  generalize w5.heap.size = ob at *
  refine wp_seq (wp_seq (reg_mono (vn_r11 (by kernel_rfl) _ F7 ?_)))
  intro a8 F8
  -- node by node
  refine wp_block (wp_loop (fun a W => ∃ k : Nat, ∃ v oo oc, k ≤ 7 ∧ Fvn a v ∧ v.v1 = .slice aa A.length ca ∧ v.v2 = .slice aw Q.length cw ∧ v.v3 = .pointer (some ⟨w.heap.size, 0, none⟩) ∧ v.v6 = .pointer (some ⟨w.heap.size + 1, 0, none⟩) ∧ v.v11 = .pointer (some ⟨ob, 0, none⟩) ∧ v.v12 = .int .i64 (k : Int) ∧ NW w x ao cp ob W (nextUpto A Q k) oo oc) (fun a _ => 7 - (intOf (a.tmps.getD 12 undef)).toNat) ⟨0, _, none, 0, Nat.zero_le _, F8, g1, g2, g3, g6, rfl, rfl, N7⟩ ?_)
  clear F5 F6 F7 F8 g1 g2 g3 g6 g9 h30 D5 R5 B5 hm5 N7 b5
  rintro a9 w9 ⟨k, v9, oo, oc, hk, F9, g1, g2, g3, g6, g11, g12, N9⟩
  have hm9 : (intOf (a9.tmps.getD 12 undef)).toNat = k := by rw [F9.s12, g12]; simp [intOf]
  have hlen := next_len A Q k
  refine wp_seq (wp_seq (reg_mono (vn_r12 (by kernel_rfl) _ F9 g12 ?_)))
  intro a10 F10 h46
  by_cases hk7 : k < 7
  · rw [decide_eq_true hk7] at h46
    refine wp_cond_true h46 (wp_skip ?_)
    show Code.wp _ _ _ _ _
    refine wp_seq (wp_block (wp_seq (reg_mono (vn_r14 (by kernel_rfl) _ F10 ?_))))
    intro a11 F11
    refine wp_mid (fun a W => ∃ v, Fvn a v ∧ v.v1 = .slice aa A.length ca ∧ v.v2 = .slice aw Q.length cw ∧ v.v3 = .pointer (some ⟨w.heap.size, 0, none⟩) ∧ v.v6 = .pointer (some ⟨w.heap.size + 1, 0, none⟩) ∧ v.v11 = .pointer (some ⟨ob, 0, none⟩) ∧ v.v12 = .int .i64 (k : Int) ∧ v.v13 = .bool (decide ((k : Int) ∈ Q)) ∧ W = w9) ?_ ?_
    · refine wp_seq (reg_mono (vn_r15 (by kernel_rfl) _ F11 ?_))
      intro a12 F12
      refine wp_block (wp_loop (fun a W => ∃ i v, i ≤ Q.length ∧ Fvn a v ∧ v.v1 = .slice aa A.length ca ∧ v.v2 = .slice aw Q.length cw ∧ v.v3 = .pointer (some ⟨w.heap.size, 0, none⟩) ∧ v.v6 = .pointer (some ⟨w.heap.size + 1, 0, none⟩) ∧ v.v11 = .pointer (some ⟨ob, 0, none⟩) ∧ v.v12 = .int .i64 (k : Int) ∧ v.v13 = .bool (decide ((k : Int) ∈ Q.take i)) ∧ v.v14 = .int .i64 (i : Int) ∧ W = w9) (fun a _ => Q.length - (intOf (a.tmps.getD 14 undef)).toNat) ⟨0, _, Nat.zero_le _, F12, g1, g2, g3, g6, g11, g12, rfl, rfl, rfl⟩ ?_)
      rintro a13 w13 ⟨i, v13, hi, F13, q1, q2, q3, q6, q11, q12, q13, q14, rfl⟩
      have hm13 : (intOf (a13.tmps.getD 14 undef)).toNat = i := by rw [F13.s14, q14]; simp [intOf]
      refine wp_seq (wp_seq (reg_mono (vn_r16 (by kernel_rfl) _ F13 q2 q14 ?_)))
      intro a14 F14 h52
      by_cases hlt2 : i < Q.length
      · rw [decide_eq_true hlt2] at h52
        refine wp_cond_true h52 (wp_skip ?_)
        show Code.wp _ _ _ _ _
        obtain ⟨b, off, haw, _, y0⟩ := HQ.out.below N9.below i hlt2
        refine wp_seq (wp_block (reg_all (vn_r18 (by kernel_rfl) _ F14 (q2.trans (by rw [haw])) q12 q13 q14 hlt2 y0 ?_)))
        intro a15 F15
        show Code.wp _ _ _ _ _
        refine reg_all (vn_r17 (by kernel_rfl) _ F15 q14 (by omega) ?_)
        intro a16 F16
        refine ⟨⟨i + 1, _, by omega, F16, q1, q2, q3, q6, q11, q12, by rw [mem_take Q k i hlt2], rfl, rfl⟩, ?_⟩
        have hm16 : (intOf (a16.tmps.getD 14 undef)).toNat = i + 1 := by rw [F16.s14]; simp only [intOf]; omega
        rw [hm16, hm13]
        omega
      · rw [decide_eq_false hlt2] at h52
        refine wp_cond_false h52 (wp_exit ?_)
        exact ⟨_, F14, q1, q2, q3, q6, q11, q12, by rw [q13, List.take_of_length_le (by omega)], rfl⟩
    clear F11 F10 F9 g1 g2 g3 g6 g11 g12 h46
    rintro a11 w11 ⟨v11, F11, g1, g2, g3, g6, g11, g12, g13, rfl⟩
    refine wp_seq (reg_mono (vn_r19 (by kernel_rfl) _ F11 ?_))
    intro a12 F12
    refine wp_mid (fun a W => ∃ v, Fvn a v ∧ v.v1 = .slice aa A.length ca ∧ v.v2 = .slice aw Q.length cw ∧ v.v3 = .pointer (some ⟨w.heap.size, 0, none⟩) ∧ v.v6 = .pointer (some ⟨w.heap.size + 1, 0, none⟩) ∧ v.v11 = .pointer (some ⟨ob, 0, none⟩) ∧ v.v12 = .int .i64 (k : Int) ∧ v.v13 = .bool (decide ((k : Int) ∈ Q)) ∧ v.v15 = .int .i64 (lifeOf A k) ∧ W = w11) ?_ ?_
    · refine wp_seq (reg_mono (vn_r20 (by kernel_rfl) _ F12 ?_))
      intro a13 F13
      refine wp_block (wp_loop (fun a W => ∃ i v, i ≤ A.length ∧ Fvn a v ∧ v.v1 = .slice aa A.length ca ∧ v.v2 = .slice aw Q.length cw ∧ v.v3 = .pointer (some ⟨w.heap.size, 0, none⟩) ∧ v.v6 = .pointer (some ⟨w.heap.size + 1, 0, none⟩) ∧ v.v11 = .pointer (some ⟨ob, 0, none⟩) ∧ v.v12 = .int .i64 (k : Int) ∧ v.v13 = .bool (decide ((k : Int) ∈ Q)) ∧ v.v15 = .int .i64 (lifeOf (A.take i) k) ∧ v.v16 = .int .i64 (i : Int) ∧ W = w11) (fun a _ => A.length - (intOf (a.tmps.getD 16 undef)).toNat) ⟨0, _, Nat.zero_le _, F13, g1, g2, g3, g6, g11, g12, g13, rfl, rfl, rfl⟩ ?_)
      rintro a14 w14 ⟨i, v14, hi, F14, q1, q2, q3, q6, q11, q12, q13, q15, q16, rfl⟩
      have hm14 : (intOf (a14.tmps.getD 16 undef)).toNat = i := by rw [F14.s16, q16]; simp [intOf]
      refine wp_seq (wp_seq (reg_mono (vn_r21 (by kernel_rfl) _ F14 q1 q16 ?_)))
      intro a15 F15 h67
      by_cases hlt2 : i < A.length
      · rw [decide_eq_true hlt2] at h67
        refine wp_cond_true h67 (wp_skip ?_)
        show Code.wp _ _ _ _ _
        obtain ⟨b, off, haa, _, y0, y1⟩ := HA.out.below N9.below i hlt2
        have hlt3 := life_take A k i hlt2
        refine wp_seq (wp_block (wp_seq (reg_mono (vn_r23 (m := A[i]) (by kernel_rfl) _ F15 (q1.trans (by rw [haa])) q12 q16 hlt2 y0 ?_))))
        intro a16 F16 h76
        by_cases c3 : A[i].node = (k : Int)
        · rw [show (A[i].node == (k : Int)) = true by rw [c3]; simp] at h76
          rw [if_pos c3] at hlt3
          refine wp_cond_true h76 (reg_all (vn_r24 (m := A[i]) (by kernel_rfl) _ F16 (q1.trans (by rw [haa])) q15 q16 hlt2 y1 ?_))
          intro a17 F17
          show Code.wp _ _ _ _ _
          refine reg_all (vn_r22 (by kernel_rfl) _ F17 q16 (by omega) ?_)
          intro a18 F18
          refine ⟨⟨i + 1, _, by omega, F18, q1, q2, q3, q6, q11, q12, q13, by rw [hlt3], rfl, rfl⟩, ?_⟩
          have hm18 : (intOf (a18.tmps.getD 16 undef)).toNat = i + 1 := by rw [F18.s16]; simp only [intOf]; omega
          rw [hm18, hm14]
          omega
        · rw [show (A[i].node == (k : Int)) = false by rw [beq_eq_false_iff_ne]; exact c3] at h76
          rw [if_neg c3] at hlt3
          refine wp_cond_false h76 (wp_skip ?_)
          show Code.wp _ _ _ _ _
          refine reg_all (vn_r22 (by kernel_rfl) _ F16 q16 (by omega) ?_)
          intro a18 F18
          refine ⟨⟨i + 1, _, by omega, F18, q1, q2, q3, q6, q11, q12, q13, by rw [hlt3]; exact q15, rfl, rfl⟩, ?_⟩
          have hm18 : (intOf (a18.tmps.getD 16 undef)).toNat = i + 1 := by rw [F18.s16]; simp only [intOf]; omega
          rw [hm18, hm14]
          omega
      · rw [decide_eq_false hlt2] at h67
        refine wp_cond_false h67 (wp_exit ?_)
        exact ⟨_, F15, q1, q2, q3, q6, q11, q12, q13, by rw [q15, List.take_of_length_le (by omega)], rfl⟩
    clear F11 F12 g1 g2 g3 g6 g11 g12 g13
    rintro a13 w13 ⟨v13, F13, g1, g2, g3, g6, g11, g12, g13, g15, rfl⟩
    refine wp_seq (reg_mono (vn_r25 (by kernel_rfl) _ F13 g13 g15 ?_))
    intro a14 F14 h88
    have hsucc := nextUpto_succ A Q k
    unfold nextOne at hsucc
    by_cases c4 : (k : Int) ∈ Q ∧ 0 < lifeOf A k
    · rw [show (decide ((k : Int) ∈ Q) && decide (0 < lifeOf A k)) = true by simp [c4.1, c4.2]] at h88
      rw [if_pos c4] at hsucc
      refine wp_cond_true h88 (reg_all (vn_r26 (by kernel_rfl) _ F14 g11 g12 g15 N9.o N9.row rfl (by omega) N9.below.size (fun j e => row_not N9.row e N9.o) ?_))
      intro a15 w15 oo2 oc2 F15 t15 o15 r15 n15
      show Code.wp _ _ _ _ _
      refine reg_all (vn_r13 (by kernel_rfl) _ F15 g12 (by omega) ?_)
      intro a16 F16
      have hlen2 : (nextUpto A Q (k + 1)).length = (nextUpto A Q k).length + 1 := by rw [hsucc, List.length_append]; rfl
      have own : ∀ j, j = ob ∨ (Value.slice oo (nextUpto A Q k).length oc).ownBlock = some j → w.heap.size ≤ j := fun j e => by
        rcases e with rfl | e
        · have := N9.ob; omega
        · exact (N9.row.lt j e).1
      refine ⟨⟨k + 1, _, oo2, oc2, by omega, F16, g1, g2, g3, g6, g11, rfl, ?_⟩, ?_⟩
      · refine ⟨t15.at N9.d fun e => ?_, t15.at N9.r fun e => ?_, by rw [hlen2]; exact o15, by rw [hlen2, hsucc]; exact r15, N9.ob, N9.below.trans (t15.toBelow N9.below.size fun j hj e => by have := own j e; omega)⟩
        · rcases e with e | e
          · have := N9.ob; omega
          · exact row_not N9.row e N9.d rfl
        · rcases e with e | e
          · have := N9.ob; omega
          · exact row_not N9.row e N9.r rfl
      · have hm16 : (intOf (a16.tmps.getD 12 undef)).toNat = k + 1 := by rw [F16.s12]; simp only [intOf]; omega
        rw [hm16, hm9]
        omega
    · rw [show (decide ((k : Int) ∈ Q) && decide (0 < lifeOf A k)) = false by
        rw [Bool.and_eq_false_iff]
        by_cases c5 : (k : Int) ∈ Q
        · exact .inr (decide_eq_false fun e => c4 ⟨c5, e⟩)
        · exact .inl (decide_eq_false c5)] at h88
      rw [if_neg c4, List.append_nil] at hsucc
      refine wp_cond_false h88 (wp_skip ?_)
      show Code.wp _ _ _ _ _
      refine reg_all (vn_r13 (by kernel_rfl) _ F14 g12 (by omega) ?_)
      intro a16 F16
      refine ⟨⟨k + 1, _, oo, oc, by omega, F16, g1, g2, g3, g6, g11, rfl, by rw [hsucc]; exact N9⟩, ?_⟩
      have hm16 : (intOf (a16.tmps.getD 12 undef)).toNat = k + 1 := by rw [F16.s12]; simp only [intOf]; omega
      rw [hm16, hm9]
      omega
  · rw [decide_eq_false hk7] at h46
    refine wp_cond_false h46 (wp_exit ?_)
    show Code.wp _ _ _ _ _
    obtain rfl : k = 7 := by omega
    refine wp_seq (wp_seq (reg_mono (vn_r27 (x := x) (y := ⟨x.num + 1, nextUpto A Q 7⟩) (by kernel_rfl) _ F10 g3 g11 N9.d N9.o (HM.out.below N9.below) (mems_of_row N9.row rfl) hl (by show (nextUpto A Q 7).length ≤ _; omega) ?_)))
    intro a11 w11 F11 h102 b11
    have B11 := N9.below.trans (b11.mono N9.below.size)
    have R11 := (b11.block _ (heap_lt N9.r)).trans N9.r
    by_cases c6 : comm x.mem (nextUpto A Q 7) < x.maj
    · rw [decide_eq_true c6] at h102
      refine wp_cond_true h102 (wp_seq (reg_mono (vn_r28 (by kernel_rfl) _ F11 g6 R11 ?_)))
      intro a12 w12 F12 t12 r12
      refine wp_ret ?_
      have eT : T = (⟨0, []⟩, 12) := by
        rw [← HT.out]
        unfold VW.next
        rw [if_neg c1, if_neg (fun e => e hall), if_pos c6]
      exact vn_ret (r := (⟨0, []⟩, 12)) F12 g6 rfl r12 (World.ownsRow_nil _ _ _ _) (B11.trans (t12.toBelow B11.size fun k hk e => by omega)) eT.symm
    · rw [decide_eq_false c6] at h102
      refine wp_cond_false h102 (wp_skip ?_)
      show Code.wp _ _ _ _ _
      have O11 := (b11.block _ (heap_lt N9.o)).trans N9.o
      have W11 := (Touch.of_below (own := fun _ => False) b11).row N9.row fun _ _ e => e
      refine wp_seq (reg_mono (vn_r29 (by kernel_rfl) _ F11 g6 g11 O11 R11 ?_))
      intro a12 w12 F12 t12 r12
      refine wp_ret ?_
      have eT : T = (⟨x.num + 1, nextUpto A Q 7⟩, 0) := by
        rw [← HT.out]
        unfold VW.next
        rw [if_neg c1, if_neg (fun e => e hall), if_neg c6]
      exact vn_ret (r := (⟨x.num + 1, nextUpto A Q 7⟩, 0)) F12 g6 rfl r12 (t12.row W11 fun j hj e => row_not W11 hj R11 e) (B11.trans (t12.toBelow B11.size fun k hk e => by omega)) eT.symm
end Go.Proofs.Ytbkglpbkbfopjaa
