/-
  have, as it runs (mkue.py).
-/
import Derived.Test.YtfoomgdlbkjaeaaGreatZUE
namespace Go.Proofs.YtfoomgdlbkjaeaaGreat.Y
open Go.RowKit Go.Maps
set_option maxHeartbeats 8000000
set_option maxRecDepth 100000
attribute [local go_sem ↓] Go.wp_at_zero Go.wp_at_succ
set_option linter.unusedSimpArgs false
set_option linter.unusedVariables false
def haveF (fin : Int) : Int → List Rec → Bool
  | _, [] => true
  | fr, r :: l => decide (RightP r) && decide (fr ≤ r.off) && decide (r.off < fin) && haveF fin (r.off + 1) l
theorem haveF_cons (fin fr : Int) (r : Rec) (l : List Rec) : haveF fin fr (r :: l) = (decide (RightP r) && decide (fr ≤ r.off) && decide (r.off < fin) && haveF fin (r.off + 1) l) := rfl
theorem ha_ret {W : World} {a : Act} {v : Vha} {b : Bool} {R : Ending → World → Prop} (hF : Fha a v) (h4 : v.v4 = .bool b) (h : R (.returned (.bool b)) W) :
    bodyPost Tryz.prog Tryz.f46 R .ret a W := by
  have g4 := slot_get (hF.s4.trans h4)
  refine bodyPost_ret (v := .bool b) ?_ hF.defers h
  simp [results, Tryz.results46, go_sem, g4]
theorem drop_atU {α : Type} (l : List α) {i : Nat} (h : i < l.length) : l.drop i = l[i] :: l.drop (i + 1) := by simp
theorem thave {w : World} {L : LOC} {G : TG} (h : TAt w L G) (hfi : G.fin ≤ 9007199254840991) (l : List Rec) (ro : Option Addr) (rc : Nat) (hq : OwnsQ w 39 5 (.slice ro l.length rc) l.length (recCells l)) (hok : ∀ r ∈ l, r.ok) (hl : l.length ≤ 1000000) :
    Calls Tryz.prog 46 #[.pointer (some ⟨L.b, 0, none⟩), .slice ro l.length rc] w fun e w' =>
      e = .returned (.bool (haveF G.fin G.low l)) ∧ Touch L.own w w' ∧ (haveF G.fin G.low l = true → TAt w' { L with ro := ro, rc := rc } { G with recs := l }) := by
  go_enter Tryz.func46, Tryz.ntmps46
  refine wp_seq (reg_mono (ha_r0 (by kernel_rfl) _ (v := ⟨_, _, _, _, _, _, _, _⟩) ⟨rfl, rfl, rfl, rfl, rfl, rfl, rfl, rfl, rfl, rfl⟩ ?_))
  intro a0 F0
  try dsimp only at F0
  refine wp_seq (reg_mono (ha_r1 (by kernel_rfl) _ F0 rfl h.box ?_))
  intro a1 F1
  try dsimp only at F1
  refine wp_seq (wp_seq (reg_mono (ha_r2 (by kernel_rfl) _ F1 rfl ?_)))
  intro a2 F2
  try dsimp only at F2
  refine wp_block (wp_loop (fun a W => ∃ (i : Nat) (v : Vha) (fr : Int), i ≤ l.length ∧ Fha a v ∧ v.v0 = .pointer (some ⟨L.b, 0, none⟩) ∧ v.v1 = .slice ro l.length rc ∧ v.v5 = .int .i64 fr ∧ v.v12 = .slice ro l.length rc ∧ v.v13 = .int .i64 (l.length : Int) ∧ v.v14 = .int .i64 (i : Int) ∧ haveF G.fin G.low l = haveF G.fin fr (l.drop i) ∧ Below w.heap.size w W) (fun a _ => l.length - (intOf (a.tmps.getD 14 undef)).toNat) ⟨0, _, _, Nat.zero_le _, F2, rfl, rfl, rfl, rfl, rfl, rfl, by simp, Below.refl _ _⟩ ?_)
  clear F0 F1 F2
  rintro a3 w3 ⟨i, v, fr, hi, F3, q0, q1, q5, q12, q13, q14, hv, B3⟩
  have hmi : (intOf (a3.tmps.getD 14 undef)).toNat = i := by rw [F3.s14, q14]; simp [intOf]
  have T3 := h.below B3
  have Q3 := hq.keep (own := fun _ => False) (Touch.of_below B3) (fun _ _ e => e)
  refine wp_seq (reg_mono (ha_r3 (by kernel_rfl) _ F3 q14 q13 ?_))
  intro a4 F4 g4
  by_cases hil : i < l.length
  case pos =>
    rw [decide_eq_true hil] at g4
    refine wp_seq (wp_cond_true g4 (wp_skip ?_))
    show Code.wp _ _ _ _ _
    obtain ⟨_, g, off, hro, _, c0, c1, c2, c3, c4⟩ := (recs_of_q Q3).five i hil
    have q12' := q12
    rw [hro] at q12'
    have hoi := hok _ (List.getElem_mem hil)
    rw [drop_atU l hil, haveF_cons] at hv
    generalize l[i] = x at *
    obtain ⟨xo, xp, xs, xk, xv⟩ := x
    dsimp only at c0 c1 c2 c3 c4 hv
    have hC := right_any ⟨xo, xp, xs, xk, xv⟩ hoi
    simp only [Rec.v] at hC
    refine wp_seq (wp_block (wp_seq (reg_mono (ha_r4 (by kernel_rfl) _ F4 q12' q14 hil c0 c1 c2 c3 c4 ?_))))
    intro a5 F5
    try dsimp only at F5
    have bA := (Below.refl w3.heap.size w3).alloc (Nat.le_refl _) (.cells #[.int .i64 xo, .string xp, .int .i64 xs, .string xk, .string xv] 39)
    have XA := heap_alloc_new w3 (.cells #[.int .i64 xo, .string xp, .int .i64 xs, .string xk, .string xv] 39)
    have BA := B3.trans (bA.mono B3.size)
    generalize w3.alloc (.cells #[.int .i64 xo, .string xp, .int .i64 xs, .string xk, .string xv] 39) = w4 at *
    have TA := h.below BA
    by_cases h1 : RightP ⟨xo, xp, xs, xk, xv⟩
    case neg =>
      rw [decide_eq_false h1] at hC hv
      refine wp_seq (wp_seq (reg_mono (ha_r5a (by kernel_rfl) _ F5 q0 rfl q5 TA.box XA hC ?_)))
      intro a6 w6 F6 g6 b6
      have hv : haveF G.fin G.low l = false := by rw [hv]; rfl
      refine wp_cond_true g6 (wp_seq (reg_mono (ha_r6 (by kernel_rfl) _ F6 ?_)))
      intro a7 F7
      try dsimp only at F7
      exact wp_ret (ha_ret (b := false) (R := fun e w' => e = .returned (.bool (haveF G.fin G.low l)) ∧ Touch L.own w w' ∧ (haveF G.fin G.low l = true → TAt w' { L with ro := ro, rc := rc } { G with recs := l })) F7 rfl ⟨by rw [hv], Touch.of_below (BA.trans (b6.mono BA.size)), fun e => by rw [hv] at e; cases e⟩)
    rw [decide_eq_true h1] at hC hv
    by_cases h2 : xo < fr
    case pos =>
      refine wp_seq (wp_seq (reg_mono (ha_r5b (by kernel_rfl) _ F5 q0 rfl q5 TA.box XA hC h2 ?_)))
      intro a6 w6 F6 g6 b6
      have hv : haveF G.fin G.low l = false := by rw [hv, decide_eq_false (by omega : ¬ fr ≤ xo)]; rfl
      refine wp_cond_true g6 (wp_seq (reg_mono (ha_r6 (by kernel_rfl) _ F6 ?_)))
      intro a7 F7
      try dsimp only at F7
      exact wp_ret (ha_ret (b := false) (R := fun e w' => e = .returned (.bool (haveF G.fin G.low l)) ∧ Touch L.own w w' ∧ (haveF G.fin G.low l = true → TAt w' { L with ro := ro, rc := rc } { G with recs := l })) F7 rfl ⟨by rw [hv], Touch.of_below (BA.trans (b6.mono BA.size)), fun e => by rw [hv] at e; cases e⟩)
    by_cases h3 : xo ≥ (G.fin : Int)
    case pos =>
      refine wp_seq (wp_seq (reg_mono (ha_r5c (by kernel_rfl) _ F5 q0 rfl q5 TA.box XA hC h2 h3 ?_)))
      intro a6 w6 F6 g6 b6
      have hv : haveF G.fin G.low l = false := by rw [hv, decide_eq_false (by omega : ¬ xo < (G.fin : Int))]; simp
      refine wp_cond_true g6 (wp_seq (reg_mono (ha_r6 (by kernel_rfl) _ F6 ?_)))
      intro a7 F7
      try dsimp only at F7
      exact wp_ret (ha_ret (b := false) (R := fun e w' => e = .returned (.bool (haveF G.fin G.low l)) ∧ Touch L.own w w' ∧ (haveF G.fin G.low l = true → TAt w' { L with ro := ro, rc := rc } { G with recs := l })) F7 rfl ⟨by rw [hv], Touch.of_below (BA.trans (b6.mono BA.size)), fun e => by rw [hv] at e; cases e⟩)
    rw [decide_eq_true (by omega : fr ≤ xo), decide_eq_true (by omega : xo < (G.fin : Int))] at hv
    refine wp_seq (wp_seq (reg_mono (ha_r5d (by kernel_rfl) _ F5 q0 rfl q5 TA.box XA hC h2 h3 ?_)))
    intro a6 w6 F6 g6 b6
    refine wp_cond_false g6 (wp_skip ?_)
    show Code.wp _ _ _ _ _
    have X6 := (b6.block _ (heap_lt XA)).trans XA
    have B6 := BA.trans (b6.mono BA.size)
    have hx0 := h1.out.1
    refine reg_all (ha_r7 (by kernel_rfl) _ F6 rfl X6 hx0 (by omega) ?_)
    intro a7 F7
    try dsimp only at F7
    show Code.wp _ _ _ _ _
    refine reg_mono (ha_r8 (by kernel_rfl) _ F7 q14 (by omega) ?_)
    intro a8 F8
    try dsimp only at F8
    refine ⟨⟨i + 1, _, _, by omega, F8, q0, q1, rfl, q12, q13, rfl, by rw [hv]; simp, B6⟩, ?_⟩
    rw [hmi, F8.s14]
    simp [intOf]
    omega
  rw [decide_eq_false hil] at g4
  refine wp_seq (wp_cond_false g4 (wp_exit ?_))
  show Code.wp _ _ _ _ _
  obtain rfl : i = l.length := by omega
  rw [List.drop_length] at hv
  have hv2 : haveF G.fin G.low l = true := hv
  refine wp_seq (reg_mono (ha_r9 (by kernel_rfl) _ F4 q0 q1 T3.box ?_))
  intro a5 F5
  try dsimp only at F5
  refine wp_seq (reg_mono (ha_r10 (by kernel_rfl) _ F5 ?_))
  intro a6 F6
  try dsimp only at F6
  refine wp_ret (ha_ret (b := true) (R := fun e w' => e = .returned (.bool (haveF G.fin G.low l)) ∧ Touch L.own w w' ∧ (haveF G.fin G.low l = true → TAt w' { L with ro := ro, rc := rc } { G with recs := l })) F6 rfl ⟨by rw [hv2], ?_, fun _ => ⟨?_, ?_, ?_⟩⟩)
  · exact (Touch.of_below B3).setCell _ _ (fun _ => .inl rfl)
  · have := box_set T3.box 3 (.slice ro l.length rc)
    simpa using this
  · exact Q3.set L.b 3 _ (fun e => absurd (Q3.type e T3.box) (by decide))
  · exact T3.map.setCell (a := ⟨L.b, 3, none⟩) T3.mb_ne _
end Go.Proofs.YtfoomgdlbkjaeaaGreat.Y
