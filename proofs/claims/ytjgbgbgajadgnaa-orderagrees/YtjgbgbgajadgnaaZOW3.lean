/-
  agree, as it runs.
-/
import Derived.Test.YtjgbgbgajadgnaaZOW2
import Derived.Test.YtjgbgbgajadgnaaZOX3
namespace Go.Proofs.Ytjgbgbgajadgnaa
open Go.RowKit

set_option linter.unusedSimpArgs false
set_option linter.unusedVariables false
def sureS (S : List (OL × OS)) : List Nat := S.map fun x => x.2.sure
def uC (U : List Nat) : List Value := U.map fun (x : Nat) => .int .i64 (x : Int)
theorem uC_get (U : List Nat) (i : Nat) (hi : i < U.length) : (uC U)[i]? = some (.int .i64 (U[i] : Int)) := by simp [uC, hi]
theorem int_cell {w : World} {B g n cp : Nat} {U : List Nat} (h : w.ownsRow B 3 1 (.slice (some ⟨g, 0, none⟩) n cp) n (uC U)) (i : Nat) (hi : i < U.length) : w.cell? ⟨g, i, none⟩ = some (.int .i64 (U[i] : Int)) := by
  have hl : U.length = n := by have := h.1; simpa [uC] using this
  have := h.cellAt i (by omega)
  rw [this, uC_get U i hi]
theorem upd_take {A B : List Nat} (hl : A.length = B.length) (k : Nat) (hk : k < A.length) : (A.take k ++ B.drop k).set k A[k] = A.take (k + 1) ++ B.drop (k + 1) := by
  have e : (A.take k).length = k := by rw [List.length_take]; omega
  have e2 : B.drop k = B[k]'(by omega) :: B.drop (k + 1) := List.drop_eq_getElem_cons (by omega)
  rw [List.set_append_right _ _ (by omega), e, Nat.sub_self, List.take_succ_eq_append_getElem hk, List.append_assoc, e2]
  rfl
theorem cnt_take {l : List Nat} (v k : Nat) (hk : k < l.length) : cnt (l.take (k + 1)) v = cnt (l.take k) v + (if v ≤ l[k] then 1 else 0) := by
  unfold cnt
  rw [List.take_succ_eq_append_getElem hk, List.countP_append]
  simp [List.countP_cons]
set_option maxHeartbeats 8000000 in
set_option maxRecDepth 100000 in
theorem pagree {w W : World} {X : Nat → Prop} {n : Nat} {S : List (OL × OS)} {q : OS} {T : Nat → List TL} (hA : AgS n S q T) {g oc ug uc : Nat} (hE0 : EnI w W X S g oc) {U : List Nat} (hu0 : W.ownsRow 0 3 1 (.slice (some ⟨ug, 0, none⟩) n uc) n (uC U)) (hxu : X ug) (hub : w.heap.size ≤ ug) (hUl : U.length = n) (hU : ∀ i (h : i < S.length), U[i]'(by rw [hUl, ← hA.len]; exact h) ≤ S[i].2.sure) (hq : q.log.length ≤ 1000000) :
    Calls Try.prog 29 #[.slice (some ⟨g, 0, none⟩) n oc, .slice (some ⟨ug, 0, none⟩) n uc] W fun e W' => e = .returned (.bool true) ∧ EnI w W' X S g oc ∧ W'.ownsRow 0 3 1 (.slice (some ⟨ug, 0, none⟩) n uc) n (uC (sureS S)) ∧ Touch (fun j => j = ug) W W' := by
  have hn0 := hA.n0
  have hn7 := hA.n7
  have hSl := hA.len
  have hll : ∀ i (h : i < S.length), S[i].2.log.length ≤ q.log.length := fun i h => (hA.each i h).log.length_le
  have hsl : (sureS S).length = n := by simp [sureS, hSl]
  have hlens : (lensS S).length = n := by simp [lensS, hSl]
  go_enter Try.func29, Try.ntmps29
  refine wp_seq (reg_mono (ag_r0 (by kernel_rfl) _ (v := ⟨_, _, _, _, _, _, _, _⟩) ⟨rfl, rfl, rfl, rfl, rfl, rfl, rfl, rfl, rfl, rfl⟩ ?_))
  intro a0 F0
  try dsimp only at F0
  have h0S : 0 < S.length := by omega
  have hq0 := hA.q0 h0S
  have hlog0 := glog (L := S[0].1) (o := S[0].2) hE0.grp h0S rfl (hA.each 0 h0S).fine.ok (by have := hll 0 h0S; omega)
  rw [hq0] at hlog0
  refine wp_seq (reg_mono (ag_r1 (R := fun h W1 => W1.ownsRow W.heap.size 9 1 (.slice (some ⟨h, 0, none⟩) q.log.length q.log.length) q.log.length (textC q.log) ∧ Group w W1 X S ∧ Below W.heap.size W W1) (by kernel_rfl) _ F0 rfl hn0 (hE0.ptr 0 h0S) hlog0 ?_))
  rintro a1 w1 h0 F1 ⟨row1, _, b1⟩
  try dsimp only at F1
  refine wp_midR (fun a W' => ∃ v : Vag, Fag a v ∧ EnI w W' X S g oc ∧ W'.ownsRow 0 3 1 (.slice (some ⟨ug, 0, none⟩) n uc) n (uC (sureS S)) ∧ Touch (fun j => j = ug) W W') ?_ ?_
  · refine wp_seq (reg_mono (ag_r2 (by kernel_rfl) _ F1 ?_))
    intro a2 F2
    try dsimp only at F2
    refine wp_block (wp_loop (fun a W' => ∃ (k : Nat) (v : Vag), k ≤ n ∧ Fag a v ∧ v.v0 = .slice (some ⟨g, 0, none⟩) n oc ∧ v.v1 = .slice (some ⟨ug, 0, none⟩) n uc ∧ v.v5 = .slice (some ⟨h0, 0, none⟩) q.log.length q.log.length ∧ v.v6 = .int .i64 (k : Int) ∧ EnI w W' X S g oc ∧ W'.ownsRow 0 3 1 (.slice (some ⟨ug, 0, none⟩) n uc) n (uC ((sureS S).take k ++ U.drop k)) ∧ Touch (fun j => j = ug) W W' ∧ W'.ownsRow W.heap.size 9 1 (.slice (some ⟨h0, 0, none⟩) q.log.length q.log.length) q.log.length (textC q.log)) (fun a _ => n - (intOf (a.tmps.getD 6 undef)).toNat) ⟨0, _, Nat.zero_le _, F2, rfl, rfl, rfl, rfl, hE0.further b1, by simpa using below_row b1 hu0, (Touch.of_below b1), row1⟩ ?_)
    clear F2 F1 F0 row1 b1 hlog0
    rintro a W1 ⟨k, v, hk, F, q0, q1, q5, q6, hE, hu, hT, hr0⟩
    obtain ⟨v0, v1, v4, v5, v6, v7, v8, v9⟩ := v
    simp only at q0 q1 q5 q6
    subst q0 q1 q5 q6
    have hs6 : a.tmps.getD 6 undef = .int .i64 (k : Int) := F.s6
    refine wp_seq (wp_seq (reg_mono (ag_r3 (by kernel_rfl) _ F rfl rfl ?_)))
    intro a3 F3 g3
    by_cases hlt : k < n
    case neg =>
      rw [decide_eq_false (by omega)] at g3
      obtain rfl : k = n := by omega
      refine wp_cond_false g3 (wp_exit ⟨_, F3, hE, ?_, hT⟩)
      rw [List.take_of_length_le (by omega), List.drop_eq_nil_of_le (by omega), List.append_nil] at hu
      exact hu
    rw [decide_eq_true (by omega)] at g3
    refine wp_cond_true g3 (wp_skip ?_)
    show Code.wp _ _ _ _ _
    have hkS : k < S.length := by omega
    have hkU : k < U.length := by omega
    have hag := hA.each k hkS
    have hlk := hll k hkS
    have hlog := glog (L := S[k].1) (o := S[k].2) hE.grp hkS rfl hag.fine.ok (by omega)
    refine wp_seq (wp_block ?_)
    refine wp_seq (reg_mono (ag_r5 (R := fun h W2 => W2.ownsRow W1.heap.size 9 1 (.slice (some ⟨h, 0, none⟩) S[k].2.log.length S[k].2.log.length) S[k].2.log.length (textC S[k].2.log) ∧ Group w W2 X S ∧ Below W1.heap.size W1 W2) (by kernel_rfl) _ F3 rfl rfl hlt (hE.ptr k hkS) hlog ?_))
    rintro a5 w5 h5 F5 ⟨row5, _, b5⟩
    try dsimp only at F5
    have hE5 := hE.further b5
    have hu5 := below_row b5 hu
    have hr5 := below_row b5 hr0
    have hTx : ∀ W2, Below w5.heap.size w5 W2 → Calls Try.prog 23 #[.slice (some ⟨h5, 0, none⟩) S[k].2.log.length S[k].2.log.length, .slice (some ⟨h0, 0, none⟩) S[k].2.log.length q.log.length] W2 fun e w' => e = .returned (.bool true) ∧ Below W2.heap.size W2 w' := by
      intro W2 b2
      have t1 : TextsAt W2 (some ⟨h5, 0, none⟩) S[k].2.log := texts_own (below_row b2 row5)
      have t2 : TextsAt W2 (some ⟨h0, 0, none⟩) S[k].2.log := by
        have := (texts_own (below_row b2 hr5)).take S[k].2.log.length
        rw [← (List.prefix_iff_eq_take.1 hag.log)] at this
        exact this
      exact ptexts _ _ _ _ _ W2 t1 t2 (by omega)
    have hSu : ∀ W2, Below w5.heap.size w5 W2 → Calls Try.prog 28 #[.pointer (some ⟨S[k].1.b, 0, none⟩)] W2 fun e w' => e = .returned (.int .i64 (S[k].2.sure : Int)) ∧ Below W2.heap.size W2 w' := by
      intro W2 b2
      exact (gsure (L := S[k].1) (o := S[k].2) (hE5.grp.further b2) hkS rfl).mono fun e w' ⟨h1, h2⟩ => ⟨h1, by rw [h2]; exact Below.refl _ _⟩
    have huk : w5.cell? ⟨ug, k, none⟩ = some (.int .i64 (U[k] : Int)) := by
      have := int_cell hu5 k (by simp [hsl, hUl]; omega)
      rw [this]
      congr 3
      rw [List.getElem_append_right (by simp [hsl]; omega)]
      simp [hsl, Nat.min_eq_left (show k ≤ n by omega)]
    have hgl : g < w5.heap.size := hE5.grp.xl g hE5.gx
    have hul : ug < w5.heap.size := hE5.grp.xl ug hxu
    refine wp_seq (wp_seq (reg_mono (ag_r6 (by kernel_rfl) _ F5 rfl rfl rfl rfl rfl hlt (hE5.ptr k hkS) hgl hul huk hlk (hU k hkS) hag.fine.ok.sure hTx hSu ?_)))
    intro a6 w6 F6 g6 b6
    refine wp_cond_false g6 (wp_skip ?_)
    show Code.wp _ _ _ _ _
    have hE6 := hE5.further b6
    have hu6 := below_row b6 hu5
    have hr6 := below_row b6 hr5
    have huk6 : w6.cell? ⟨ug, k, none⟩ = some (.int .i64 (U[k] : Int)) := (b6.cell (p := ⟨ug, k, none⟩) hul).trans huk
    refine wp_seq (reg_mono (ag_r8 (by kernel_rfl) _ F6 rfl rfl rfl hlt (hE6.ptr k hkS) huk6 (hu6.frozenAt k) (gsure (L := S[k].1) (o := S[k].2) hE6.grp hkS rfl) ?_))
    intro a8 F8
    try dsimp only at F8
    -- the store
    have hst := hu6.stored k (.int .i64 (S[k].2.sure : Int))
    have htu : Touch (fun j => j = ug) w6 (w6.setCell ⟨ug, k, none⟩ (.int .i64 (S[k].2.sure : Int))) := (Touch.refl _ w6).setCell _ _ (fun _ => rfl)
    have hgu : g ≠ ug := fun e => by
      have := row_types hE6.row hu6 (j := g) rfl (by rw [e]; rfl)
      revert this
      decide +kernel
    have hE8 : EnI w (w6.setCell ⟨ug, k, none⟩ (.int .i64 (S[k].2.sure : Int))) X S g oc := by
      refine ⟨hE6.grp.wrote htu (fun j _ e => by subst e; exact ⟨hxu, hub⟩) (fun j hx => .inl hx) (fun j hx => Nat.lt_of_lt_of_le (hE6.grp.xl j hx) htu.size), htu.row hE6.row fun k e => ?_, hE6.gx⟩
      obtain rfl : g = k := Option.some.inj e
      exact hgu
    have hu8 : (w6.setCell ⟨ug, k, none⟩ (.int .i64 (S[k].2.sure : Int))).ownsRow 0 3 1 (.slice (some ⟨ug, 0, none⟩) n uc) n (uC ((sureS S).take (k + 1) ++ U.drop (k + 1))) := by
      have := hst.1
      rw [← upd_take (by rw [hsl, hUl]) k (by rw [hsl]; exact hlt)]
      unfold uC at this ⊢
      rw [List.map_set]
      have e : (sureS S)[k]'(by rw [hsl]; exact hlt) = S[k].2.sure := by simp [sureS]
      rw [e]
      exact this
    have hT8 : Touch (fun j => j = ug) W (w6.setCell ⟨ug, k, none⟩ (.int .i64 (S[k].2.sure : Int))) := ((hT.below b5).below b6).andThen htu fun _ _ e => e
    have hru : h0 ≠ ug := fun e => by
      have := row_types hr6 hu6 (j := h0) rfl (by rw [e]; rfl)
      revert this
      decide +kernel
    have hr8 : (w6.setCell ⟨ug, k, none⟩ (.int .i64 (S[k].2.sure : Int))).ownsRow W.heap.size 9 1 (.slice (some ⟨h0, 0, none⟩) q.log.length q.log.length) q.log.length (textC q.log) := htu.row hr6 fun k e => by
      obtain rfl : h0 = k := Option.some.inj e
      exact hru
    generalize w6.setCell ⟨ug, k, none⟩ (.int .i64 (S[k].2.sure : Int)) = w8 at *
    clear hst htu hu6 hr6 hE6 huk6 huk hTx hSu hE5 hu5 hr5 row5 b5 b6 hgl hul hlog hE hu hT hr0 F6 F5 F3 F
    refine wp_seq (reg_mono (ag_r9 (by kernel_rfl) _ F8 ?_))
    intro a9 F9
    try dsimp only at F9
    have hu8k : ∀ W2, Below w8.heap.size w8 W2 → W2.cell? ⟨ug, k, none⟩ = some (.int .i64 (S[k].2.sure : Int)) := fun W2 b2 => by
      have := int_cell (below_row b2 hu8) k (by simp [hsl, hUl]; omega)
      rw [this]
      congr 3
      rw [List.getElem_append_left (by simp [hsl]; omega)]
      simp [sureS]
    refine wp_midR (fun a W' => ∃ v : Vag, Fag a v ∧ v.v0 = .slice (some ⟨g, 0, none⟩) n oc ∧ v.v1 = .slice (some ⟨ug, 0, none⟩) n uc ∧ v.v5 = .slice (some ⟨h0, 0, none⟩) q.log.length q.log.length ∧ v.v6 = .int .i64 (k : Int) ∧ v.v8 = .int .i64 (cnt (lensS S) S[k].2.sure : Int) ∧ Below w8.heap.size w8 W') ?_ ?_
    · refine wp_seq (reg_mono (ag_r10 (by kernel_rfl) _ F9 ?_))
      intro a10 F10
      try dsimp only at F10
      refine wp_block (wp_loop (fun a W' => ∃ (m : Nat) (v : Vag), m ≤ n ∧ Fag a v ∧ v.v0 = .slice (some ⟨g, 0, none⟩) n oc ∧ v.v1 = .slice (some ⟨ug, 0, none⟩) n uc ∧ v.v5 = .slice (some ⟨h0, 0, none⟩) q.log.length q.log.length ∧ v.v6 = .int .i64 (k : Int) ∧ v.v8 = .int .i64 (cnt ((lensS S).take m) S[k].2.sure : Int) ∧ v.v9 = .int .i64 (m : Int) ∧ Below w8.heap.size w8 W') (fun a _ => n - (intOf (a.tmps.getD 9 undef)).toNat) ⟨0, _, Nat.zero_le _, F10, rfl, rfl, rfl, rfl, rfl, rfl, Below.refl _ _⟩ ?_)
      clear F10 F9 F8 g3 g6
      rintro a W2 ⟨m, v, hm, F, q0, q1, q5, q6, q8, q9, b2⟩
      obtain ⟨v0, v1, v4, v5, v6, v7, v8, v9⟩ := v
      simp only at q0 q1 q5 q6 q8 q9
      subst q0 q1 q5 q6 q8 q9
      refine wp_seq (wp_seq (reg_mono (ag_r11 (by kernel_rfl) _ F rfl rfl ?_)))
      intro a11 F11 g11
      by_cases hmn : m < n
      case neg =>
        rw [decide_eq_false (by omega)] at g11
        refine wp_cond_false g11 (wp_exit ⟨_, F11, rfl, rfl, rfl, rfl, ?_, b2⟩)
        rw [List.take_of_length_le (by omega)]
      rw [decide_eq_true (by omega)] at g11
      refine wp_cond_true g11 (wp_skip ?_)
      show Code.wp _ _ _ _ _
      have hmS : m < S.length := by omega
      have hE2 := hE8.further b2
      have hLen : ∀ W3, Below W2.heap.size W2 W3 → Calls Try.prog 25 #[.pointer (some ⟨S[m].1.b, 0, none⟩)] W3 fun e w' => e = .returned (.int .i64 (S[m].2.log.length : Int)) ∧ Below W3.heap.size W3 w' := by
        intro W3 b3
        exact (glen (L := S[m].1) (o := S[m].2) (hE2.grp.further b3) hmS rfl).mono fun e w' ⟨h1, h2⟩ => ⟨h1, by rw [h2]; exact Below.refl _ _⟩
      have hct := cnt_take (l := lensS S) S[k].2.sure m (by omega)
      have el : (lensS S)[m]'(by omega) = S[m].2.log.length := by simp [lensS]
      rw [el] at hct
      refine wp_seq (wp_block (wp_seq (reg_mono (ag_r13 (by kernel_rfl) _ F11 rfl rfl rfl rfl hmn (hE2.ptr m hmS) hlt (hE2.grp.xl g hE2.gx) (hE2.grp.xl ug hxu) (hu8k W2 b2) hLen ?_))))
      intro a13 w13 F13 g13 b13
      have b3 : Below w8.heap.size w8 w13 := b2.trans (b13.mono b2.size)
      have hcb : cnt ((lensS S).take m) S[k].2.sure ≤ 7 := by
        have : cnt ((lensS S).take m) S[k].2.sure ≤ ((lensS S).take m).length := List.countP_le_length
        rw [List.length_take] at this
        omega
      by_cases hge : S[k].2.sure ≤ S[m].2.log.length
      · rw [decide_eq_true (by omega)] at g13
        rw [if_pos hge] at hct
        refine wp_cond_true g13 ?_
        refine reg_all (ag_r14 (by kernel_rfl) _ F13 rfl (by omega) ?_)
        intro a14 F14
        try dsimp only at F14
        refine reg_mono (ag_r12 (by kernel_rfl) _ F14 rfl (by omega) ?_)
        intro a12 F12
        try dsimp only at F12
        exact ⟨⟨m + 1, _, hmn, F12, rfl, rfl, rfl, rfl, by (rw [hct]) <;> rfl, rfl, b3⟩, size14 hmn F.s9 F12.s9⟩
      · rw [decide_eq_false (by omega)] at g13
        rw [if_neg hge, Nat.add_zero] at hct
        refine wp_cond_false g13 (wp_skip ?_)
        show Code.wp _ _ _ _ _
        refine reg_mono (ag_r12 (by kernel_rfl) _ F13 rfl (by omega) ?_)
        intro a12 F12
        try dsimp only at F12
        exact ⟨⟨m + 1, _, hmn, F12, rfl, rfl, rfl, rfl, by (rw [hct]) <;> rfl, rfl, b3⟩, size14 hmn F.s9 F12.s9⟩
    clear F9 F8 g3 g6
    rintro a W2 ⟨v, F, q0, q1, q5, q6, q8, b2⟩
    obtain ⟨v0, v1, v4, v5, v6, v7, v8, v9⟩ := v
    simp only at q0 q1 q5 q6 q8
    subst q0 q1 q5 q6 q8
    have hmost := hA.most hkS
    have hcb : cnt (lensS S) S[k].2.sure ≤ 7 := by
      have : cnt (lensS S) S[k].2.sure ≤ (lensS S).length := List.countP_le_length
      omega
    refine wp_seq (reg_mono (ag_r15 (by kernel_rfl) _ F rfl rfl (by omega) (by omega) ?_))
    intro a15 F15 g15
    refine wp_cond_false g15 (wp_skip ?_)
    show Code.wp _ _ _ _ _
    refine reg_mono (ag_r4 (by kernel_rfl) _ F15 rfl (by omega) ?_)
    intro a4 F4
    try dsimp only at F4
    exact ⟨⟨k + 1, _, hlt, F4, rfl, rfl, rfl, rfl, hE8.further b2, below_row b2 hu8, hT8.below b2, below_row b2 hr8⟩, size14 hlt hs6 F4.s6⟩
  rintro a W' ⟨v, F, hE, hu, hT⟩
  refine wp_seq (reg_mono (ag_r17 (by kernel_rfl) _ F ?_))
  intro a17 F17
  refine wp_ret ?_
  refine ag_ret (x := true) F17 rfl ?_
  exact ⟨rfl, hE, hu, hT⟩
end Go.Proofs.Ytjgbgbgajadgnaa
