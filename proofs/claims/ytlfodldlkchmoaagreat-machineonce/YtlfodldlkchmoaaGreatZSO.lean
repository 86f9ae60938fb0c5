/-
  seek, ack whole (mkso.py).
-/
import Derived.Test.YtlfodldlkchmoaaGreatZSK
namespace Go.Proofs.YtlfodldlkchmoaaGreat.Y
open Go.RowKit
set_option maxHeartbeats 4000000
set_option maxRecDepth 100000
attribute [local go_sem ↓] Go.wp_at_zero Go.wp_at_succ
set_option linter.unusedSimpArgs false
set_option linter.unusedVariables false
def seekI (S : SB) (G : TG) (n : Int) : SB × Bool := if (S.top.toList == G.name.toList) = true ∧ 0 ≤ n ∧ n ≤ (G.fin : Int) then ({ S with cur := n, next := n }, true) else (S, false)
theorem sseek {w : World} {L : LOC} {G : TG} {c : Nat} (h : TAt w L G) (hk : G.Ok c) (S : SB) (n : Int) :
    Calls Tryz.prog 137 #[S.v, .pointer (some ⟨L.b, 0, none⟩), .int .i64 n] w fun e w' => e = .returned (.tuple #[SB.v (seekI S G n).1, .slice none 0 0, .bool (seekI S G n).2]) ∧ Below w.heap.size w w' := by
  obtain ⟨xn, xt, xc, xx⟩ := S
  simp only [SB.v] at *
  have hb1 : Below w.heap.size w ((w.alloc (.cells #[.string xn, .string xt, .int .i64 xc, .int .i64 xx] 190)).alloc (.cells #[.string ⟨#[]⟩, .string ⟨#[]⟩, .int .i64 0, .int .i64 0] 190)) := ((Below.refl w.heap.size w).alloc (Nat.le_refl _) _).alloc (by simp) _
  have x1 : ((w.alloc (.cells #[.string xn, .string xt, .int .i64 xc, .int .i64 xx] 190)).alloc (.cells #[.string ⟨#[]⟩, .string ⟨#[]⟩, .int .i64 0, .int .i64 0] 190)).heap[w.heap.size]? = some (.cells #[.string xn, .string xt, .int .i64 xc, .int .i64 xx] 190 (0, 0)) := box_alloc (heap_alloc_new w _) _
  have x2 : ((w.alloc (.cells #[.string xn, .string xt, .int .i64 xc, .int .i64 xx] 190)).alloc (.cells #[.string ⟨#[]⟩, .string ⟨#[]⟩, .int .i64 0, .int .i64 0] 190)).heap[w.heap.size + 1]? = some (.cells #[.string ⟨#[]⟩, .string ⟨#[]⟩, .int .i64 0, .int .i64 0] 190 (0, 0)) := by
    have := heap_alloc_new (w.alloc (.cells #[.string xn, .string xt, .int .i64 xc, .int .i64 xx] 190)) (.cells #[.string ⟨#[]⟩, .string ⟨#[]⟩, .int .i64 0, .int .i64 0] 190)
    simpa using this
  have T1 := h.below hb1
  unfold seekI
  simp only
  go_enter Tryz.func137, Tryz.ntmps137
  refine wp_seq (reg_mono (sk_r0 (by kernel_rfl) _ (v := ⟨_, _, _, _, _, _, _⟩) ⟨rfl, rfl, rfl, rfl, rfl, rfl, rfl, rfl, rfl⟩ rfl ?_))
  intro a1 F1
  try dsimp only at F1
  generalize (w.alloc (.cells #[.string xn, .string xt, .int .i64 xc, .int .i64 xx] 190)).alloc (.cells #[.string ⟨#[]⟩, .string ⟨#[]⟩, .int .i64 0, .int .i64 0] 190) = w1 at *
  cases y1 : (xt.toList == G.name.toList) with
  | false =>
    rw [if_neg (fun q => by cases q.1)]
    refine wp_seq (wp_seq (reg_mono (sk_r1a (by kernel_rfl) _ F1 rfl rfl rfl T1 hk x1 y1 ?_)))
    intro a2 w2 F2 s2 b2
    refine wp_cond_true s2 ?_
    refine wp_seq (reg_mono (sk_r2 (by kernel_rfl) _ F2 rfl rfl (Below.at b2 x1) (Below.at b2 x2) ?_))
    intro a3 F3
    try dsimp only at F3
    refine wp_ret ?_
    simp only [Exit.then]
    have X3 := set4_box (x0 := .string xn) (x1 := .string xt) (x2 := .int .i64 xc) (x3 := .int .i64 xx) (Below.at b2 x2)
    obtain ⟨⟨e0, e1, e2, e3⟩, _⟩ := box4 X3
    refine bodyPost_ret (v := .tuple #[.agg #[.string xn, .string xt, .int .i64 xc, .int .i64 xx], .slice none 0 0, .bool false]) ?_ F3.defers ⟨rfl, set4_below (hb1.trans (b2.mono hb1.size)) (Nat.le_succ _)⟩
    simp [results, Tryz.results137, go_sem, slot_get F3.s6, slot_get F3.s7, slot_get F3.s8, e0, e1, e2, e3]
  | true =>
    by_cases y2 : n < 0
    · rw [if_neg (fun q => by omega)]
      refine wp_seq (wp_seq (reg_mono (sk_r1b (by kernel_rfl) _ F1 rfl rfl rfl T1 hk x1 y1 (decide_eq_true y2) ?_)))
      intro a2 w2 F2 s2 b2
      refine wp_cond_true s2 ?_
      refine wp_seq (reg_mono (sk_r2 (by kernel_rfl) _ F2 rfl rfl (Below.at b2 x1) (Below.at b2 x2) ?_))
      intro a3 F3
      try dsimp only at F3
      refine wp_ret ?_
      simp only [Exit.then]
      have X3 := set4_box (x0 := .string xn) (x1 := .string xt) (x2 := .int .i64 xc) (x3 := .int .i64 xx) (Below.at b2 x2)
      obtain ⟨⟨e0, e1, e2, e3⟩, _⟩ := box4 X3
      refine bodyPost_ret (v := .tuple #[.agg #[.string xn, .string xt, .int .i64 xc, .int .i64 xx], .slice none 0 0, .bool false]) ?_ F3.defers ⟨rfl, set4_below (hb1.trans (b2.mono hb1.size)) (Nat.le_succ _)⟩
      simp [results, Tryz.results137, go_sem, slot_get F3.s6, slot_get F3.s7, slot_get F3.s8, e0, e1, e2, e3]
    · by_cases y3 : n > (G.fin : Int)
      · rw [if_neg (fun q => by omega)]
        refine wp_seq (wp_seq (reg_mono (sk_r1c (by kernel_rfl) _ F1 rfl rfl rfl T1 hk x1 y1 (decide_eq_false y2) (decide_eq_true y3) ?_)))
        intro a2 w2 F2 s2 b2
        refine wp_cond_true s2 ?_
        refine wp_seq (reg_mono (sk_r2 (by kernel_rfl) _ F2 rfl rfl (Below.at b2 x1) (Below.at b2 x2) ?_))
        intro a3 F3
        try dsimp only at F3
        refine wp_ret ?_
        simp only [Exit.then]
        have X3 := set4_box (x0 := .string xn) (x1 := .string xt) (x2 := .int .i64 xc) (x3 := .int .i64 xx) (Below.at b2 x2)
        obtain ⟨⟨e0, e1, e2, e3⟩, _⟩ := box4 X3
        refine bodyPost_ret (v := .tuple #[.agg #[.string xn, .string xt, .int .i64 xc, .int .i64 xx], .slice none 0 0, .bool false]) ?_ F3.defers ⟨rfl, set4_below (hb1.trans (b2.mono hb1.size)) (Nat.le_succ _)⟩
        simp [results, Tryz.results137, go_sem, slot_get F3.s6, slot_get F3.s7, slot_get F3.s8, e0, e1, e2, e3]
      · rw [if_pos ⟨rfl, by omega, by omega⟩]
        refine wp_seq (wp_seq (reg_mono (sk_r1d (by kernel_rfl) _ F1 rfl rfl rfl T1 hk x1 y1 (decide_eq_false y2) (decide_eq_false y3) ?_)))
        intro a2 w2 F2 s2 b2
        refine wp_cond_false s2 (wp_skip ?_)
        have x1b := Below.at b2 x1
        have x2b := Below.at b2 x2
        refine wp_seq (reg_mono (sk_r3 (by kernel_rfl) _ F2 rfl rfl x1b ?_))
        rintro a3 w3 F3 rfl
        have x1c := box_set x1b 2 (.int .i64 n)
        have x2c := box_apart x2b (show w.heap.size + 1 ≠ w.heap.size by omega) 2 (.int .i64 n)
        have b3 : Below w.heap.size w (w2.setCell ⟨w.heap.size, 2, none⟩ (.int .i64 n)) := (hb1.trans (b2.mono hb1.size)).setCell (p := ⟨w.heap.size, 2, none⟩) (Nat.le_refl _) _
        refine wp_seq (reg_mono (sk_r4 (by kernel_rfl) _ F3 rfl rfl rfl x1c x2c ?_))
        intro a4 w4 F4 b4
        try dsimp only at F4
        refine wp_ret ?_
        have X3 := set4_box (x0 := .string xn) (x1 := .string xt) (x2 := .int .i64 n) (x3 := .int .i64 n) (Below.at b4 x2c)
        obtain ⟨⟨e0, e1, e2, e3⟩, _⟩ := box4 X3
        refine bodyPost_ret (v := .tuple #[.agg #[.string xn, .string xt, .int .i64 n, .int .i64 n], .slice none 0 0, .bool true]) ?_ F4.defers ⟨rfl, set4_below (b3.trans (b4.mono b3.size)) (Nat.le_succ _)⟩
        simp [results, Tryz.results137, go_sem, slot_get F4.s6, slot_get F4.s7, slot_get F4.s8, e0, e1, e2, e3]
def ackI (S : SB) (n : Int) : SB × Bool := if 0 ≤ n ∧ n < S.next then ({ S with cur := max S.cur (n + 1) }, true) else (S, false)
theorem sack {w : World} (S : SB) (tp : Option Addr) (n : Int) (hn : S.next ≤ 9007199254740991) :
    Calls Tryz.prog 136 #[S.v, .pointer tp, .int .i64 n] w fun e w' => e = .returned (.tuple #[SB.v (ackI S n).1, .slice none 0 0, .bool (ackI S n).2]) ∧ Below w.heap.size w w' := by
  obtain ⟨xn, xt, xc, xx⟩ := S
  simp only [SB.v] at *
  unfold ackI
  simp only
  have hb2 : ∀ u : Int, Below w.heap.size w ((w.alloc (.cells #[.string xn, .string xt, .int .i64 u, .int .i64 xx] 190)).alloc (.cells #[.string xn, .string xt, .int .i64 u, .int .i64 xx] 190)) := fun u => ((Below.refl w.heap.size w).alloc (Nat.le_refl _) _).alloc (by simp) _
  have X2 : ∀ u : Int, ((w.alloc (.cells #[.string xn, .string xt, .int .i64 u, .int .i64 xx] 190)).alloc (.cells #[.string xn, .string xt, .int .i64 u, .int .i64 xx] 190)).heap[w.heap.size + 1]? = some (.cells #[.string xn, .string xt, .int .i64 u, .int .i64 xx] 190 (0, 0)) := fun u => by
    have := heap_alloc_new (w.alloc (.cells #[.string xn, .string xt, .int .i64 u, .int .i64 xx] 190)) (.cells #[.string xn, .string xt, .int .i64 u, .int .i64 xx] 190)
    simpa using this
  have HB := hide hb2
  have HX := hide X2
  clear hb2 X2
  by_cases y1 : n < 0
  · rw [if_neg (fun q => by omega)]
    go_enter Tryz.func136, Tryz.ntmps136
    go_wp2
    obtain ⟨⟨e0, e1, e2, e3⟩, _⟩ := box4 (HX.out xc)
    exact bodyPost_ret (v := .tuple #[.agg #[.string xn, .string xt, .int .i64 xc, .int .i64 xx], .slice none 0 0, .bool false]) (by simp [results, Tryz.results136, go_sem, e0, e1, e2, e3]) rfl ⟨rfl, HB.out xc⟩
  · by_cases y2 : n ≥ xx
    · rw [if_neg (fun q => by omega)]
      go_enter Tryz.func136, Tryz.ntmps136
      go_wp2
      obtain ⟨⟨e0, e1, e2, e3⟩, _⟩ := box4 (HX.out xc)
      exact bodyPost_ret (v := .tuple #[.agg #[.string xn, .string xt, .int .i64 xc, .int .i64 xx], .slice none 0 0, .bool false]) (by simp [results, Tryz.results136, go_sem, e0, e1, e2, e3]) rfl ⟨rfl, HB.out xc⟩
    · rw [if_pos ⟨by omega, by omega⟩]
      obtain ⟨mm, hmm⟩ : ∃ mm, max xc (n + 1) = mm := ⟨_, rfl⟩
      rw [hmm]
      have HM := hide hmm
      go_enter Tryz.func136, Tryz.ntmps136
      go_wp2
      obtain ⟨⟨e0, e1, e2, e3⟩, _⟩ := box4 (HX.out mm)
      exact bodyPost_ret (v := .tuple #[.agg #[.string xn, .string xt, .int .i64 mm, .int .i64 xx], .slice none 0 0, .bool true]) (by simp [results, Tryz.results136, go_sem, e0, e1, e2, e3]) rfl ⟨rfl, HB.out mm⟩
end Go.Proofs.YtlfodldlkchmoaaGreat.Y
