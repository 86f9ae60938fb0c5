/-
  carillonref16's Poll, whole (mkzc.py).
-/
import Derived.Test.YtominplelmbecaaZZB
namespace Go.Proofs.Ytominplelmbecaa.Y
open Go.RowKit

attribute [local go_sem ↓] Go.wp_at_zero Go.wp_at_succ
set_option linter.unusedSimpArgs false
set_option linter.unusedVariables false
theorem filtP_snoc (P : Rec → Bool) (l : List Rec) (i : Nat) (h : i < l.length) : (l.take (i + 1)).filter P = (l.take i).filter P ++ (if P l[i] = true then [l[i]] else []) := by
  rw [List.take_succ_eq_append_getElem h, List.filter_append]
  congr 1
  by_cases hp : P l[i] = true
  · rw [if_pos hp, List.filter_cons_of_pos hp, List.filter_nil]
  · rw [if_neg hp, List.filter_cons_of_neg hp, List.filter_nil]
theorem filtP_end {P : Rec → Bool} {l : List Rec} {most : Int} {i : Nat} (hb : (((l.take i).filter P).length : Int) ≤ most) (he : l.length ≤ i ∨ most ≤ (((l.take i).filter P).length : Int)) : (l.filter P).take most.toNat = (l.take i).filter P := by
  have hs : l.filter P = (l.take i).filter P ++ (l.drop i).filter P := by rw [← List.filter_append, List.take_append_drop]
  rw [hs]
  rcases he with he | he
  · rw [List.drop_eq_nil_of_le he, List.filter_nil, List.append_nil]
    exact List.take_of_length_le (by omega)
  · rw [show most.toNat = ((l.take i).filter P).length by omega, List.take_left]
/-- What the document's Poll tells. -/
def zP (x ed : Int) (r : Rec) : Bool := decide (x ≤ r.off) && decide (r.off < ed)
def zout (S : SB) (lo : Int) (l : List Rec) (n : Int) : List Rec := (l.filter (zP S.next (max S.cur lo + 100))).take n.toNat
def zpollF (S : SB) (nm : ByteArray) (lo fi : Int) (l : List Rec) (n : Int) : SB × List Rec × Int := if S.right = true ∧ (S.top.toList == nm.toList) = true ∧ ¬ fi < S.next ∧ ¬ n < 1 ∧ ¬ 50 < n then ({ S with next := nextF S (zout S lo l n) }, zout S lo l n, 0) else (S, [], 7)
theorem next_iff {l : List Rec} (hr : Rises l) {S : SB} {x ed : Int} (hx : S.next = x) {i : Nat} (hi : i < l.length) : nextF S ((l.take i).filter (zP x ed)) ≤ l[i].off ↔ x ≤ l[i].off := by
  generalize hO : (l.take i).filter (zP x ed) = O
  cases hl : O.length with
  | zero =>
    obtain rfl := List.eq_nil_of_length_eq_zero hl
    show S.next ≤ _ ↔ _
    rw [hx]
  | succ k =>
    have hk : k < O.length := by omega
    rw [nextF_last S hl hk]
    have hm : O[k] ∈ (l.take i).filter (zP x ed) := by rw [hO]; exact List.getElem_mem hk
    obtain ⟨h1, h2⟩ := List.mem_filter.1 hm
    obtain ⟨j, hj, ej⟩ := List.mem_iff_getElem.1 h1
    rw [List.length_take] at hj
    rw [List.getElem_take] at ej
    have h3 := hr.lt (i := j) (j := i) (by omega) hi
    rw [ej] at h3
    simp only [zP, Bool.and_eq_true, decide_eq_true_eq] at h2
    exact ⟨fun _ => by omega, fun _ => by omega⟩
theorem nextF_snoc (S : SB) (l : List Rec) (r : Rec) : nextF S (l ++ [r]) = r.off + 1 := by
  unfold nextF
  rw [List.getLast?_append]
  rfl
set_option maxHeartbeats 8000000 in
set_option maxRecDepth 100000 in
theorem zpoll {w : World} {X : XL} {G : XG} (h : XAt w X G) (hr : Rises G.recs) (hl : G.recs.length ≤ 100000) (hof : ∀ r ∈ G.recs, 0 ≤ r.off ∧ r.off ≤ 100000000000000000) (l0 : 0 ≤ G.low) (l1 : G.low ≤ 100000000000000000) (S : SB) (hk : S.ok) (n : Int) :
    Calls Try.prog 17 #[S.v, .pointer (some ⟨X.b, 0, none⟩), .int .i64 n] w fun e w' => ∃ ao cp, e = .returned (.tuple #[SB.v (zpollF S G.name G.low G.fin G.recs n).1, .slice ao (zpollF S G.name G.low G.fin G.recs n).2.1.length cp, .int .i64 (zpollF S G.name G.low G.fin G.recs n).2.2]) ∧ RecsAt w' (.slice ao (zpollF S G.name G.low G.fin G.recs n).2.1.length cp) (zpollF S G.name G.low G.fin G.recs n).2.1 ∧ Below w.heap.size w w' ∧ ∀ g, (Value.slice ao 0 cp).ownBlock = some g → w.heap.size ≤ g := by
  obtain ⟨hx00, hx10, hx20, _, hx40⟩ := xcells h
  have hq0 := h.row
  have hlx0 := heap_lt h.box
  obtain ⟨nm, lo, fi, _, l⟩ := G
  obtain ⟨xb, _, _, ro, rc⟩ := X
  simp only at hx00 hx10 hx20 hx40 hq0 hlx0 hr hl hof l0 l1
  clear h
  obtain ⟨xn, xt, xc, xx⟩ := S
  unfold zpollF
  simp only [SB.v]
  obtain ⟨b1, x1, x2⟩ := two_boxes w (.string xn) (.string xt) (.int .i64 xc) (.int .i64 xx)
  go_enter Try.func17, Try.ntmps17
  refine wp_seq (reg_mono (zp_r0 (by kernel_rfl) _ (v := ⟨_, _, _, _, _, _, _, _, _, _, _, _⟩) ⟨rfl, rfl, rfl, rfl, rfl, rfl, rfl, rfl, rfl, rfl, rfl, rfl, rfl, rfl⟩ rfl ?_))
  intro a0 F0
  try dsimp only at F0
  generalize (w.alloc _).alloc _ = w1 at *
  have E1 := zright ⟨xn, xt, xc, xx⟩ hk w1
  simp only [SB.v] at E1
  refine wp_seq (reg_mono (zp_r1 (by kernel_rfl) _ F0 rfl x1 E1 ?_))
  intro a1 w2 F1 b2
  try dsimp only at F1
  have y1 := Below.at b2 x1
  have y2 := Below.at b2 x2
  have B2 := b1.trans (b2.mono b1.size)
  clear b1 b2 x1 x2 F0 E1
  have hlx : xb < w2.heap.size := Nat.lt_of_lt_of_le hlx0 B2.size
  have hx0 := (B2.cell (p := ⟨xb, 0, none⟩) hlx0).trans hx00
  have hx2 := (B2.cell (p := ⟨xb, 2, none⟩) hlx0).trans hx20
  cases hri : SB.right ⟨xn, xt, xc, xx⟩ with
  | false =>
    rw [hri] at F1
    rw [if_neg (fun q => by cases q.1)]
    refine wp_seq (wp_seq (reg_mono (zp_r2c0 (by kernel_rfl) _ F1 rfl rfl rfl rfl y1 hlx hx0 hx2 ?_)))
    intro a2 w3 F2 g2 b2
    refine wp_cond_true g2 ?_
    refine wp_seq (reg_mono (zp_r3 (by kernel_rfl) _ F2 rfl rfl (Below.at b2 y1) (Below.at b2 y2) ?_))
    intro a3 F3
    try dsimp only at F3
    refine wp_ret ?_
    simp only [Exit.then]
    exact zp_ret (T := ⟨xn, xt, xc, xx⟩) F3 rfl (set4_box (Below.at b2 y2)) rfl rfl ⟨none, 0, rfl, recs_nil _, set4_below (B2.trans (b2.mono B2.size)) (Nat.le_succ _), fun g hg => by cases hg⟩
  | true =>
    rw [hri] at F1
    cases hn : (xt.toList == nm.toList) with
    | false =>
      rw [if_neg (fun q => by cases q.2.1)]
      refine wp_seq (wp_seq (reg_mono (zp_r2c1 (by kernel_rfl) _ F1 rfl rfl rfl rfl y1 hlx hx0 hx2 hn ?_)))
      intro a2 w3 F2 g2 b2
      refine wp_cond_true g2 ?_
      refine wp_seq (reg_mono (zp_r3 (by kernel_rfl) _ F2 rfl rfl (Below.at b2 y1) (Below.at b2 y2) ?_))
      intro a3 F3
      try dsimp only at F3
      refine wp_ret ?_
      simp only [Exit.then]
      exact zp_ret (T := ⟨xn, xt, xc, xx⟩) F3 rfl (set4_box (Below.at b2 y2)) rfl rfl ⟨none, 0, rfl, recs_nil _, set4_below (B2.trans (b2.mono B2.size)) (Nat.le_succ _), fun g hg => by cases hg⟩
    | true =>
      by_cases h2 : fi < xx
      case pos =>
        rw [if_neg (fun q => q.2.2.1 h2)]
        refine wp_seq (wp_seq (reg_mono (zp_r2c2 (by kernel_rfl) _ F1 rfl rfl rfl rfl y1 hlx hx0 hx2 hn h2 ?_)))
        intro a2 w3 F2 g2 b2
        refine wp_cond_true g2 ?_
        refine wp_seq (reg_mono (zp_r3 (by kernel_rfl) _ F2 rfl rfl (Below.at b2 y1) (Below.at b2 y2) ?_))
        intro a3 F3
        try dsimp only at F3
        refine wp_ret ?_
        simp only [Exit.then]
        exact zp_ret (T := ⟨xn, xt, xc, xx⟩) F3 rfl (set4_box (Below.at b2 y2)) rfl rfl ⟨none, 0, rfl, recs_nil _, set4_below (B2.trans (b2.mono B2.size)) (Nat.le_succ _), fun g hg => by cases hg⟩
      by_cases h3 : n < 1
      case pos =>
        rw [if_neg (fun q => q.2.2.2.1 h3)]
        refine wp_seq (wp_seq (reg_mono (zp_r2c3 (by kernel_rfl) _ F1 rfl rfl rfl rfl y1 hlx hx0 hx2 hn h2 h3 ?_)))
        intro a2 w3 F2 g2 b2
        refine wp_cond_true g2 ?_
        refine wp_seq (reg_mono (zp_r3 (by kernel_rfl) _ F2 rfl rfl (Below.at b2 y1) (Below.at b2 y2) ?_))
        intro a3 F3
        try dsimp only at F3
        refine wp_ret ?_
        simp only [Exit.then]
        exact zp_ret (T := ⟨xn, xt, xc, xx⟩) F3 rfl (set4_box (Below.at b2 y2)) rfl rfl ⟨none, 0, rfl, recs_nil _, set4_below (B2.trans (b2.mono B2.size)) (Nat.le_succ _), fun g hg => by cases hg⟩
      by_cases h4 : 50 < n
      case pos =>
        rw [if_neg (fun q => q.2.2.2.2 h4)]
        refine wp_seq (wp_seq (reg_mono (zp_r2c4 (by kernel_rfl) _ F1 rfl rfl rfl rfl y1 hlx hx0 hx2 hn h2 h3 h4 ?_)))
        intro a2 w3 F2 g2 b2
        refine wp_cond_true g2 ?_
        refine wp_seq (reg_mono (zp_r3 (by kernel_rfl) _ F2 rfl rfl (Below.at b2 y1) (Below.at b2 y2) ?_))
        intro a3 F3
        try dsimp only at F3
        refine wp_ret ?_
        simp only [Exit.then]
        exact zp_ret (T := ⟨xn, xt, xc, xx⟩) F3 rfl (set4_box (Below.at b2 y2)) rfl rfl ⟨none, 0, rfl, recs_nil _, set4_below (B2.trans (b2.mono B2.size)) (Nat.le_succ _), fun g hg => by cases hg⟩
      rw [if_pos ⟨rfl, rfl, h2, h3, h4⟩]
      refine wp_seq (wp_seq (reg_mono (zp_r2c5 (by kernel_rfl) _ F1 rfl rfl rfl rfl y1 hlx hx0 hx2 hn h2 h3 h4 ?_)))
      intro a2 w3 F2 g2 b3
      refine wp_cond_false g2 (wp_skip ?_)
      show Code.wp _ _ _ _ _
      have u1 := Below.at b3 y1
      have u2 := Below.at b3 y2
      have B3 := B2.trans (b3.mono B2.size)
      obtain ⟨r0, r1, r2⟩ := right_out hri
      simp only at r0 r1 r2
      obtain ⟨mm, hmm⟩ : ∃ mm, max xc lo = mm := ⟨_, rfl⟩
      have hx1 := (B3.cell (p := ⟨xb, 1, none⟩) hlx0).trans hx10
      refine wp_seq (reg_mono (zp_r4 (by kernel_rfl) _ F2 rfl rfl u1 (Nat.lt_of_lt_of_le hlx0 B3.size) hx1 hmm (by omega) (by omega) ?_))
      intro a4 w4 F4 b4
      try dsimp only at F4
      have v1' := Below.at b4 u1
      have v2' := Below.at b4 u2
      have B4 := B3.trans (b4.mono B3.size)
      refine wp_seq (reg_mono (zp_r5 (by kernel_rfl) _ F4 ?_))
      intro a5 F5
      try dsimp only at F5
      refine wp_seq (wp_seq (reg_mono (zp_r6 (by kernel_rfl) _ F5 ?_)))
      intro a6 F6
      try dsimp only at F6
      have hw4 : w.heap.size + 1 < w4.heap.size := heap_lt v2'
      have hout : ∀ O, (l.filter (zP xx (mm + 100))).take n.toNat = O → zout ⟨xn, xt, xc, xx⟩ lo l n = O := fun O e => by unfold zout; simp only; rw [hmm]; exact e
      refine wp_block (wp_loop (fun a W => ∃ (i oc : Nat) (oo : Option Addr) (O : List Rec) (v : Vzp), i ≤ l.length ∧ O = (l.take i).filter (zP xx (mm + 100)) ∧ (O.length : Int) ≤ n ∧ Fzp a v ∧ v.v1 = .pointer (some ⟨xb, 0, none⟩) ∧ v.v2 = .int .i64 n ∧ v.v3 = .pointer (some ⟨w.heap.size, 0, none⟩) ∧ v.v6 = .pointer (some ⟨w.heap.size + 1, 0, none⟩) ∧ v.v10 = .int .i64 (mm + 100) ∧ v.v11 = .slice oo O.length oc ∧ v.v12 = .int .i64 (i : Int) ∧ W.ownsRow w4.heap.size 63 5 (.slice oo O.length oc) O.length (recCells O) ∧ Below w.heap.size w W ∧ W.heap[w.heap.size]? = some (.cells #[.string xn, .string xt, .int .i64 xc, .int .i64 (nextF ⟨xn, xt, xc, xx⟩ O)] 37 (0, 0)) ∧ W.heap[w.heap.size + 1]? = some (.cells #[.string ⟨#[]⟩, .string ⟨#[]⟩, .int .i64 0, .int .i64 0] 37 (0, 0)) ∧ w4.heap.size ≤ W.heap.size) (fun a _ => l.length - (intOf (a.tmps.getD 12 undef)).toNat) ⟨0, 0, none, [], _, Nat.zero_le _, rfl, by simp; omega, F6, rfl, rfl, rfl, rfl, rfl, rfl, rfl, nil_own _ _ _ _, B4, v1', v2', Nat.le_refl _⟩ ?_)
      clear F1 F2 F4 F5 F6 g2 y1 y2 u1 u2 v1' v2' b3 b4 hx0 hx2 hx1 B2 B3
      rintro a W ⟨i, oc, oo, O, v, hi, hO, hb, F, q1, q2, q3, q6, q10, q11, q12, own, bW, s1, s2, hsz⟩
      have hmi : (intOf (a.tmps.getD 12 undef)).toNat = i := by rw [F.s12, q12]; simp [intOf]
      obtain ⟨v0, v1, v2, v3, v6, v7, v8, v9, v10, v11, v12, v13⟩ := v
      simp only at q1 q2 q3 q6 q10 q11 q12
      subst q1 q2 q3 q6 q10 q11 q12
      have hcW := (bW.cell (p := ⟨xb, 4, none⟩) hlx0).trans hx40
      have hqW : OwnsQ W 63 5 (.slice ro l.length rc) l.length (recCells l) := hq0.congr fun j hj => bW.block j (hq0.lt hj)
      by_cases hlt : i < l.length
      case neg =>
        obtain rfl : i = l.length := by omega
        refine wp_seq (wp_seq (reg_mono (zp_r7b (by kernel_rfl) _ F rfl rfl hcW ?_)))
        intro a7 F7 g7
        refine wp_cond_false g7 (wp_exit ?_)
        have he := hout O (by rw [hO] at hb ⊢; exact filtP_end hb (.inl (Nat.le_refl _)))
        show Code.wp _ _ _ _ _
        refine wp_seq (reg_mono (zp_r13 (by kernel_rfl) _ F7 rfl rfl rfl s1 s2 ?_))
        intro a13 F13
        try dsimp only at F13
        have T13 : Touch (fun j => j = w.heap.size + 1) W (set4 W (w.heap.size + 1) (.string xn) (.string xt) (.int .i64 xc) (.int .i64 (nextF ⟨xn, xt, xc, xx⟩ O))) := set4_touch _ _
        refine wp_ret (zp_ret (T := ⟨xn, xt, xc, nextF ⟨xn, xt, xc, xx⟩ O⟩) F13 rfl (set4_box s2) rfl rfl ⟨oo, oc, by rw [he]; rfl, ?_, set4_below bW (Nat.le_succ _), fun g hg => ?_⟩)
        · rw [he]
          exact recs_touch (recs_of_q (OwnsQ.of_row own)) T13 fun j hj e => by
            have := (own.lt j hj).1
            omega
        · have := (own.lt g ((own_block _ _ _ _).trans hg)).1
          omega
      refine wp_seq (wp_seq (reg_mono (zp_r7a (by kernel_rfl) _ F rfl rfl rfl rfl hlt hcW ?_)))
      intro a7 F7 g7
      by_cases hms : (O.length : Int) < n
      case neg =>
        rw [decide_eq_false hms] at g7
        refine wp_cond_false g7 (wp_exit ?_)
        have he := hout O (by rw [hO] at hb hms ⊢; exact filtP_end hb (.inr (by omega)))
        show Code.wp _ _ _ _ _
        refine wp_seq (reg_mono (zp_r13 (by kernel_rfl) _ F7 rfl rfl rfl s1 s2 ?_))
        intro a13 F13
        try dsimp only at F13
        have T13 : Touch (fun j => j = w.heap.size + 1) W (set4 W (w.heap.size + 1) (.string xn) (.string xt) (.int .i64 xc) (.int .i64 (nextF ⟨xn, xt, xc, xx⟩ O))) := set4_touch _ _
        refine wp_ret (zp_ret (T := ⟨xn, xt, xc, nextF ⟨xn, xt, xc, xx⟩ O⟩) F13 rfl (set4_box s2) rfl rfl ⟨oo, oc, by rw [he]; rfl, ?_, set4_below bW (Nat.le_succ _), fun g hg => ?_⟩)
        · rw [he]
          exact recs_touch (recs_of_q (OwnsQ.of_row own)) T13 fun j hj e => by
            have := (own.lt j hj).1
            omega
        · have := (own.lt g ((own_block _ _ _ _).trans hg)).1
          omega
      rw [decide_eq_true hms] at g7
      refine wp_cond_true g7 (wp_skip ?_)
      show Code.wp _ _ _ _ _
      obtain ⟨rb, of, hro, hrb, x0, x1, x2, x3, x4⟩ := q_five hqW rfl hlt
      have hsn := filtP_snoc (zP xx (mm + 100)) l i hlt
      rw [← hO] at hsn
      have hiff := next_iff (ed := mm + 100) hr (S := ⟨xn, xt, xc, xx⟩) rfl hlt
      rw [← hO] at hiff
      have hrof := hof _ (List.getElem_mem hlt)
      generalize l[i] = r at *
      rw [hro] at hcW
      refine wp_seq (wp_block ?_)
      refine wp_seq (reg_mono (zp_r9 (by kernel_rfl) _ F7 rfl rfl hlt hcW x0 x1 x2 x3 x4 ?_))
      intro a9 F9
      try dsimp only at F9
      have D9 := heap_alloc_new W (.cells #[.int .i64 r.off, .string r.prod, .int .i64 r.seq, .string r.key, .string r.val] 63)
      have b9 : Below W.heap.size W (W.alloc (.cells #[.int .i64 r.off, .string r.prod, .int .i64 r.seq, .string r.key, .string r.val] 63)) := (Below.refl _ _).alloc (Nat.le_refl _) _
      have hdb : w4.heap.size ≤ W.heap.size := hsz
      have own9 := own_below own b9
      have ownd : ∀ j, (Value.slice oo O.length oc).ownBlock = some j → j < W.heap.size := fun j hj => (own.lt j hj).2
      generalize W.heap.size = db at *
      generalize W.alloc _ = W9 at *
      have bW9 := bW.trans (b9.mono (by omega))
      have s19 := (b9.block _ (by omega)).trans s1
      have s29 := (b9.block _ (by omega)).trans s2
      have hsz9 : w4.heap.size ≤ W9.heap.size := by have := heap_lt D9; omega
      clear own s1 s2 bW F F7 g7
      by_cases hp : zP xx (mm + 100) r = true
      case pos =>
        have hp2 := hp
        simp only [zP, Bool.and_eq_true, decide_eq_true_eq] at hp2
        rw [if_pos hp] at hsn
        refine wp_seq (reg_mono (zp_r10t (by kernel_rfl) _ F9 rfl rfl rfl s19 (box_cell D9 0 rfl) (hiff.2 hp2.1) hp2.2 ?_))
        intro a10 F10 g10
        refine wp_cond_true g10 ?_
        have hOl : O.length ≤ i := by rw [hO]; exact Nat.le_trans (List.length_filter_le _ _) (by rw [List.length_take]; omega)
        obtain ⟨t11, c11, w11, r11, o11, g11⟩ := app_rec (own_below own9 ((Below.refl W9.heap.size W9).alloc (Nat.le_refl _) (.cells #[.int .i64 r.off, .string r.prod, .int .i64 r.seq, .string r.key, .string r.val] 63))) (q_lit (w := W9) (e := 63) (cs := #[.int .i64 r.off, .string r.prod, .int .i64 r.seq, .string r.key, .string r.val]) rfl) (by intro u hu; simp at hu; rcases hu with rfl | rfl | rfl | rfl | rfl <;> rfl) (by omega) (by simp; omega)
        refine wp_seq (reg_mono (zp_r11 (by kernel_rfl) _ F10 rfl rfl (box_cell D9 0 rfl) (box_cell D9 1 rfl) (box_cell D9 2 rfl) (box_cell D9 3 rfl) (box_cell D9 4 rfl) r11 ?_))
        intro a11 F11
        try dsimp only at F11
        have b11 : Below w4.heap.size W9 w11 := ((Below.refl w4.heap.size W9).alloc hsz9 _).trans (grown_below g11 (fun k e => (own9.lt k e).1) (by simp; omega))
        have D11 : w11.cell? ⟨db, 0, none⟩ = some (.int .i64 r.off) := by
          have hb1 : (W9.alloc (.cells #[.int .i64 r.off, .string r.prod, .int .i64 r.seq, .string r.key, .string r.val] 63)).heap[db]? = some (.cells #[.int .i64 r.off, .string r.prod, .int .i64 r.seq, .string r.key, .string r.val] 63 (0, 0)) := Below.at ((Below.refl _ _).alloc (Nat.le_refl _) _) D9
          exact box_cell ((g11.block db (heap_lt hb1) (fun e => by have := ownd db e.symm; omega)).trans hb1) 0 rfl
        have t1 := (b11.block _ (by omega)).trans s19
        have t2 := (b11.block _ (by omega)).trans s29
        refine reg_all (zp_r12 (by kernel_rfl) _ F11 rfl rfl t1 D11 hrof.1 hrof.2 ?_)
        intro a12 F12
        try dsimp only at F12
        show Code.wp _ _ _ _ _
        have bW11 : Below w.heap.size w w11 := bW9.trans (b11.mono (by omega))
        have z1 : (w11.setCell ⟨w.heap.size, 3, none⟩ (.int .i64 (r.off + 1))).heap[w.heap.size]? = some (.cells #[.string xn, .string xt, .int .i64 xc, .int .i64 (r.off + 1)] 37 (0, 0)) := by simp [World.setCell, Array.getElem?_modify, t1]
        have z2 := set_other (o := 3) (x := .int .i64 (r.off + 1)) t2 (show w.heap.size ≠ w.heap.size + 1 by omega)
        have z3 : Below w.heap.size w (w11.setCell ⟨w.heap.size, 3, none⟩ (.int .i64 (r.off + 1))) := bW11.setCell (Nat.le_refl _) _
        have z4 : (w11.setCell ⟨w.heap.size, 3, none⟩ (.int .i64 (r.off + 1))).ownsRow w4.heap.size 63 5 (.slice t11 (O.length + 1) c11) (O.length + 1) _ := Touch.row (own := fun j => j = w.heap.size) ((Touch.refl _ _).setCell _ _ (fun _ => rfl)) o11 (fun k hk e => by have := (o11.lt k hk).1; omega)
        have hsz11 : w4.heap.size ≤ (w11.setCell ⟨w.heap.size, 3, none⟩ (.int .i64 (r.off + 1))).heap.size := by
          have := b11.size
          simp [World.setCell]
          omega
        generalize w11.setCell _ _ = w12 at *
        refine reg_mono (zp_r8 (by kernel_rfl) _ F12 rfl (by omega) ?_)
        intro a8 F8
        try dsimp only at F8
        have el : (O ++ [r]).length = O.length + 1 := by simp
        refine ⟨⟨i + 1, c11, t11, O ++ [r], _, hlt, hsn.symm, by rw [el]; omega, F8, rfl, rfl, rfl, rfl, rfl, by rw [el], rfl, ?_, z3, ?_, z2, hsz11⟩, ?_⟩
        · rw [el, recCells_snoc]
          exact z4
        · rw [nextF_snoc]
          exact z1
        · rw [hmi, F8.s12]
          simp [intOf]
          omega
      rw [if_neg hp, List.append_nil] at hsn
      have cont : ∀ a10 v10, Fzp a10 v10 → v10.v1 = .pointer (some ⟨xb, 0, none⟩) → v10.v2 = .int .i64 n → v10.v3 = .pointer (some ⟨w.heap.size, 0, none⟩) → v10.v6 = .pointer (some ⟨w.heap.size + 1, 0, none⟩) → v10.v10 = .int .i64 (mm + 100) → v10.v11 = .slice oo O.length oc → v10.v12 = .int .i64 ((i + 1 : Nat) : Int) → (fun a W => ∃ (i oc : Nat) (oo : Option Addr) (O : List Rec) (v : Vzp), i ≤ l.length ∧ O = (l.take i).filter (zP xx (mm + 100)) ∧ (O.length : Int) ≤ n ∧ Fzp a v ∧ v.v1 = .pointer (some ⟨xb, 0, none⟩) ∧ v.v2 = .int .i64 n ∧ v.v3 = .pointer (some ⟨w.heap.size, 0, none⟩) ∧ v.v6 = .pointer (some ⟨w.heap.size + 1, 0, none⟩) ∧ v.v10 = .int .i64 (mm + 100) ∧ v.v11 = .slice oo O.length oc ∧ v.v12 = .int .i64 (i : Int) ∧ W.ownsRow w4.heap.size 63 5 (.slice oo O.length oc) O.length (recCells O) ∧ Below w.heap.size w W ∧ W.heap[w.heap.size]? = some (.cells #[.string xn, .string xt, .int .i64 xc, .int .i64 (nextF ⟨xn, xt, xc, xx⟩ O)] 37 (0, 0)) ∧ W.heap[w.heap.size + 1]? = some (.cells #[.string ⟨#[]⟩, .string ⟨#[]⟩, .int .i64 0, .int .i64 0] 37 (0, 0)) ∧ w4.heap.size ≤ W.heap.size) a10 W9 := by
        intro a10 v10 F10 q1 q2 q3 q6 q10 q11 q12
        exact ⟨i + 1, oc, oo, O, v10, hlt, hsn.symm, hb, F10, q1, q2, q3, q6, q10, q11, q12, own9, bW9, s19, s29, hsz9⟩
      by_cases hx : xx ≤ r.off
      case pos =>
        have hed : ¬ r.off < mm + 100 := fun q => hp (by simp [zP, hx, q])
        refine wp_seq (reg_mono (zp_r10g (by kernel_rfl) _ F9 rfl rfl rfl s19 (box_cell D9 0 rfl) (hiff.2 hx) hed ?_))
        intro a10 F10 g10
        refine wp_cond_false g10 (wp_skip ?_)
        show Code.wp _ _ _ _ _
        refine reg_mono (zp_r8 (by kernel_rfl) _ F10 rfl (by omega) ?_)
        intro a8 F8
        try dsimp only at F8
        refine ⟨cont _ _ F8 rfl rfl rfl rfl rfl rfl rfl, ?_⟩
        rw [hmi, F8.s12]
        simp [intOf]
        omega
      refine wp_seq (reg_mono (zp_r10f (by kernel_rfl) _ F9 rfl rfl rfl s19 (box_cell D9 0 rfl) (fun q => hx (hiff.1 q)) ?_))
      intro a10 F10 g10
      refine wp_cond_false g10 (wp_skip ?_)
      show Code.wp _ _ _ _ _
      refine reg_mono (zp_r8 (by kernel_rfl) _ F10 rfl (by omega) ?_)
      intro a8 F8
      try dsimp only at F8
      refine ⟨cont _ _ F8 rfl rfl rfl rfl rfl rfl rfl, ?_⟩
      rw [hmi, F8.s12]
      simp [intOf]
      omega
end Go.Proofs.Ytominplelmbecaa.Y
