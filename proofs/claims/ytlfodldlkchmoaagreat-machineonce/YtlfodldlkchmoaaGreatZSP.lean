/-
  poll whole (mkso.py).
-/
import Derived.Test.YtlfodldlkchmoaaGreatZSM
import Derived.Test.YtlfodldlkchmoaaGreatZSO
namespace Go.Proofs.YtlfodldlkchmoaaGreat.Y
open Go.RowKit
set_option maxHeartbeats 4000000
set_option maxRecDepth 100000
attribute [local go_sem ↓] Go.wp_at_zero Go.wp_at_succ
set_option linter.unusedSimpArgs false
set_option linter.unusedVariables false
def pollOk (S : SB) (G : TG) (n : Int) : Bool := (S.top.toList == G.name.toList) && decide (S.next ≤ (G.fin : Int)) && decide (1 ≤ n) && decide (n ≤ 50)
def nextF (S : SB) (l : List Rec) : Int := match l.getLast? with
  | some r => r.off + 1
  | none => S.next
theorem nextF_last (S : SB) {l : List Rec} {k : Nat} (h : l.length = k + 1) (hk : k < l.length) : nextF S l = l[k].off + 1 := by
  unfold nextF
  rw [List.getLast?_eq_getElem?, h, Nat.add_sub_cancel, List.getElem?_eq_getElem hk]
def pollI (S : SB) (G : TG) (n : Int) : SB × List Rec × Bool := if pollOk S G n = true then ({ S with next := nextF S (grantF G S n) }, grantF G S n, true) else (S, [], false)
theorem grant_mem {G : TG} {S : SB} {n : Int} {r : Rec} (h : r ∈ grantF G S n) : r ∈ G.recs := List.mem_of_mem_drop (List.mem_of_mem_take (List.mem_of_mem_take h))
theorem recs_touch {w w' : World} {own : Nat → Prop} {ao : Option Addr} {n cap : Nat} {l : List Rec} (h : RecsAt w (.slice ao n cap) l) (ht : Touch own w w') (hn : ∀ j, (Value.slice ao n cap).ownBlock = some j → ¬ own j) : RecsAt w' (.slice ao n cap) l := by
  obtain ⟨a, c, hv, hc, ha⟩ := h
  refine ⟨a, c, hv, hc, fun i hi => ?_⟩
  obtain ⟨b, off, e1, e2, e3⟩ := ha i hi
  injection hv with v1 v2 v3
  subst v1
  subst e1
  refine ⟨b, off, rfl, Nat.lt_of_lt_of_le e2 ht.size, fun j hj => ?_⟩
  have e4 := e3 j hj
  have hs : ∃ v, l[i].cells[j]? = some v := ⟨_, List.getElem?_eq_getElem (show j < 5 from hj)⟩
  obtain ⟨v, hv2⟩ := hs
  rw [hv2] at e4 ⊢
  exact ht.cell _ e4 (hn b rfl)
theorem recs_nil (w : World) : RecsAt w (.slice none 0 0) [] := ⟨none, 0, rfl, by omega, fun i hi => absurd hi (Nat.not_lt_zero _)⟩
theorem spoll0 {w : World} {L : LOC} {G : TG} {c : Nat} (h : TAt w L G) (hk : G.Ok c) (S : SB) (c0 : 0 ≤ S.cur) (c1 : S.cur ≤ 9007199254740991) (n : Int) (hn : n ≤ 9223372036854775807) :
    Calls Tryz.prog 135 #[S.v, .pointer (some ⟨L.b, 0, none⟩), .int .i64 n] w fun e w' => ∃ ao cp, e = .returned (.tuple #[SB.v (pollI S G n).1, .slice ao (pollI S G n).2.1.length cp, .bool (pollI S G n).2.2]) ∧ RecsAt w' (.slice ao (pollI S G n).2.1.length cp) (pollI S G n).2.1 ∧ Below w.heap.size w w' ∧ ∀ g, (Value.slice ao 0 cp).ownBlock = some g → w.heap.size ≤ g := by
  have HGr := hide (fun W hW => sgrant (w := W) (h.below hW) hk S c0 c1 n hn)
  obtain ⟨xn, xt, xc, xx⟩ := S
  simp only [SB.v] at *
  have hb1 : Below w.heap.size w ((w.alloc (.cells #[.string xn, .string xt, .int .i64 xc, .int .i64 xx] 190)).alloc (.cells #[.string ⟨#[]⟩, .string ⟨#[]⟩, .int .i64 0, .int .i64 0] 190)) := ((Below.refl w.heap.size w).alloc (Nat.le_refl _) _).alloc (by simp) _
  have x1 : ((w.alloc (.cells #[.string xn, .string xt, .int .i64 xc, .int .i64 xx] 190)).alloc (.cells #[.string ⟨#[]⟩, .string ⟨#[]⟩, .int .i64 0, .int .i64 0] 190)).heap[w.heap.size]? = some (.cells #[.string xn, .string xt, .int .i64 xc, .int .i64 xx] 190 (0, 0)) := box_alloc (heap_alloc_new w _) _
  have x2 : ((w.alloc (.cells #[.string xn, .string xt, .int .i64 xc, .int .i64 xx] 190)).alloc (.cells #[.string ⟨#[]⟩, .string ⟨#[]⟩, .int .i64 0, .int .i64 0] 190)).heap[w.heap.size + 1]? = some (.cells #[.string ⟨#[]⟩, .string ⟨#[]⟩, .int .i64 0, .int .i64 0] 190 (0, 0)) := by
    have := heap_alloc_new (w.alloc (.cells #[.string xn, .string xt, .int .i64 xc, .int .i64 xx] 190)) (.cells #[.string ⟨#[]⟩, .string ⟨#[]⟩, .int .i64 0, .int .i64 0] 190)
    simpa using this
  have T1 := h.below hb1
  unfold pollI pollOk
  simp only at HGr ⊢
  go_enter Tryz.func135, Tryz.ntmps135
  refine wp_seq (reg_mono (pl_r0 (by kernel_rfl) _ (v := ⟨_, _, _, _, _, _, _, _⟩) ⟨rfl, rfl, rfl, rfl, rfl, rfl, rfl, rfl, rfl, rfl⟩ rfl ?_))
  intro a1 F1
  try dsimp only at F1
  generalize (w.alloc (.cells #[.string xn, .string xt, .int .i64 xc, .int .i64 xx] 190)).alloc (.cells #[.string ⟨#[]⟩, .string ⟨#[]⟩, .int .i64 0, .int .i64 0] 190) = w1 at *
  cases y1 : (xt.toList == G.name.toList) with
  | false =>
    rw [if_neg (by simp)]
    refine wp_seq (wp_seq (reg_mono (pl_r1a (by kernel_rfl) _ F1 rfl rfl rfl T1 hk x1 y1 ?_)))
    intro a2 w2 F2 s2 b2
    refine wp_cond_true s2 ?_
    refine wp_seq (reg_mono (pl_r2 (by kernel_rfl) _ F2 rfl rfl (Below.at b2 x1) (Below.at b2 x2) ?_))
    intro a3 F3
    try dsimp only at F3
    refine wp_ret ?_
    simp only [Exit.then]
    have X3 := set4_box (x0 := .string xn) (x1 := .string xt) (x2 := .int .i64 xc) (x3 := .int .i64 xx) (Below.at b2 x2)
    obtain ⟨⟨e0, e1, e2, e3⟩, _⟩ := box4 X3
    refine bodyPost_ret (v := .tuple #[.agg #[.string xn, .string xt, .int .i64 xc, .int .i64 xx], .slice none 0 0, .bool false]) ?_ F3.defers ⟨none, 0, rfl, recs_nil _, set4_below (hb1.trans (b2.mono hb1.size)) (Nat.le_succ _), fun g hg => by cases hg⟩
    simp [results, Tryz.results135, go_sem, slot_get F3.s6, slot_get F3.s7, slot_get F3.s8, e0, e1, e2, e3]
  | true =>
    by_cases y2 : xx > (G.fin : Int)
    · rw [if_neg (by simp; intros; omega)]
      refine wp_seq (wp_seq (reg_mono (pl_r1b (by kernel_rfl) _ F1 rfl rfl rfl T1 hk x1 y1 (decide_eq_true y2) ?_)))
      intro a2 w2 F2 s2 b2
      refine wp_cond_true s2 ?_
      refine wp_seq (reg_mono (pl_r2 (by kernel_rfl) _ F2 rfl rfl (Below.at b2 x1) (Below.at b2 x2) ?_))
      intro a3 F3
      try dsimp only at F3
      refine wp_ret ?_
      simp only [Exit.then]
      have X3 := set4_box (x0 := .string xn) (x1 := .string xt) (x2 := .int .i64 xc) (x3 := .int .i64 xx) (Below.at b2 x2)
      obtain ⟨⟨e0, e1, e2, e3⟩, _⟩ := box4 X3
      refine bodyPost_ret (v := .tuple #[.agg #[.string xn, .string xt, .int .i64 xc, .int .i64 xx], .slice none 0 0, .bool false]) ?_ F3.defers ⟨none, 0, rfl, recs_nil _, set4_below (hb1.trans (b2.mono hb1.size)) (Nat.le_succ _), fun g hg => by cases hg⟩
      simp [results, Tryz.results135, go_sem, slot_get F3.s6, slot_get F3.s7, slot_get F3.s8, e0, e1, e2, e3]
    · by_cases y3 : n < 1
      · rw [if_neg (by simp; intros; omega)]
        refine wp_seq (wp_seq (reg_mono (pl_r1c (by kernel_rfl) _ F1 rfl rfl rfl T1 hk x1 y1 (decide_eq_false y2) (decide_eq_true y3) ?_)))
        intro a2 w2 F2 s2 b2
        refine wp_cond_true s2 ?_
        refine wp_seq (reg_mono (pl_r2 (by kernel_rfl) _ F2 rfl rfl (Below.at b2 x1) (Below.at b2 x2) ?_))
        intro a3 F3
        try dsimp only at F3
        refine wp_ret ?_
        simp only [Exit.then]
        have X3 := set4_box (x0 := .string xn) (x1 := .string xt) (x2 := .int .i64 xc) (x3 := .int .i64 xx) (Below.at b2 x2)
        obtain ⟨⟨e0, e1, e2, e3⟩, _⟩ := box4 X3
        refine bodyPost_ret (v := .tuple #[.agg #[.string xn, .string xt, .int .i64 xc, .int .i64 xx], .slice none 0 0, .bool false]) ?_ F3.defers ⟨none, 0, rfl, recs_nil _, set4_below (hb1.trans (b2.mono hb1.size)) (Nat.le_succ _), fun g hg => by cases hg⟩
        simp [results, Tryz.results135, go_sem, slot_get F3.s6, slot_get F3.s7, slot_get F3.s8, e0, e1, e2, e3]
      · by_cases y4 : n > 50
        · rw [if_neg (by simp; intros; omega)]
          refine wp_seq (wp_seq (reg_mono (pl_r1d (by kernel_rfl) _ F1 rfl rfl rfl T1 hk x1 y1 (decide_eq_false y2) (decide_eq_false y3) (decide_eq_true y4) ?_)))
          intro a2 w2 F2 s2 b2
          refine wp_cond_true s2 ?_
          refine wp_seq (reg_mono (pl_r2 (by kernel_rfl) _ F2 rfl rfl (Below.at b2 x1) (Below.at b2 x2) ?_))
          intro a3 F3
          try dsimp only at F3
          refine wp_ret ?_
          simp only [Exit.then]
          have X3 := set4_box (x0 := .string xn) (x1 := .string xt) (x2 := .int .i64 xc) (x3 := .int .i64 xx) (Below.at b2 x2)
          obtain ⟨⟨e0, e1, e2, e3⟩, _⟩ := box4 X3
          refine bodyPost_ret (v := .tuple #[.agg #[.string xn, .string xt, .int .i64 xc, .int .i64 xx], .slice none 0 0, .bool false]) ?_ F3.defers ⟨none, 0, rfl, recs_nil _, set4_below (hb1.trans (b2.mono hb1.size)) (Nat.le_succ _), fun g hg => by cases hg⟩
          simp [results, Tryz.results135, go_sem, slot_get F3.s6, slot_get F3.s7, slot_get F3.s8, e0, e1, e2, e3]
        · rw [if_pos (by simp; omega)]
          refine wp_seq (wp_seq (reg_mono (pl_r1e (by kernel_rfl) _ F1 rfl rfl rfl T1 hk x1 y1 (decide_eq_false y2) (decide_eq_false y3) (decide_eq_false y4) ?_)))
          intro a2 w2 F2 s2 b2
          refine wp_cond_false s2 (wp_skip ?_)
          have b2w := hb1.trans (b2.mono hb1.size)
          refine wp_seq (reg_mono (pl_r3 (by kernel_rfl) _ F2 rfl rfl rfl (Below.at b2 x1) (R1 := fun w' ao ln cp => ln = (grantF G ⟨xn, xt, xc, xx⟩ n).length ∧ RecsAt w' (.slice ao (grantF G ⟨xn, xt, xc, xx⟩ n).length cp) (grantF G ⟨xn, xt, xc, xx⟩ n) ∧ Below w2.heap.size w2 w' ∧ ∀ g, (Value.slice ao 0 cp).ownBlock = some g → w2.heap.size ≤ g) ((HGr.out w2 b2w).mono ?_) ?_))
          · rintro e w3 ⟨ao, cp, rfl, r3, b3⟩
            exact ⟨ao, _, cp, rfl, rfl, r3, b3⟩
          rintro a3 w3 ao ln cp F3 ⟨rfl, r3, b3, n3⟩
          try dsimp only at F3
          have b3w := b2w.trans (b3.mono b2w.size)
          have x1c := Below.at b3 (Below.at b2 x1)
          have x2c := Below.at b3 (Below.at b2 x2)
          refine wp_seq (wp_seq (reg_mono (pl_r4 (by kernel_rfl) _ F3 rfl ?_)))
          intro a4 F4 s4
          have hbnd : (grantF G ⟨xn, xt, xc, xx⟩ n).length ≤ G.recs.length := by
            unfold grantF readF
            simp only [List.length_take, List.length_drop]
            omega
          have hmem : ∀ r ∈ grantF G ⟨xn, xt, xc, xx⟩ n, RightT G r := fun r hr => hk.right r (grant_mem hr)
          generalize grantF G ⟨xn, xt, xc, xx⟩ n = RL at *
          cases hl : RL.length with
          | zero =>
            obtain rfl : RL = [] := List.eq_nil_of_length_eq_zero hl
            refine wp_cond_true s4 ?_
            refine wp_seq (reg_mono (pl_r5 (by kernel_rfl) _ F4 rfl rfl x1c x2c ?_))
            intro a5 F5
            try dsimp only at F5
            refine wp_ret ?_
            simp only [Exit.then]
            have X3 := set4_box (x0 := .string xn) (x1 := .string xt) (x2 := .int .i64 xc) (x3 := .int .i64 xx) x2c
            obtain ⟨⟨e0, e1, e2, e3⟩, _⟩ := box4 X3
            refine bodyPost_ret (v := .tuple #[.agg #[.string xn, .string xt, .int .i64 xc, .int .i64 xx], .slice none 0 0, .bool true]) ?_ F5.defers ⟨none, 0, rfl, recs_nil _, set4_below b3w (Nat.le_succ _), fun g hg => by cases hg⟩
            simp [results, Tryz.results135, go_sem, slot_get F5.s6, slot_get F5.s7, slot_get F5.s8, e0, e1, e2, e3]
          | succ k =>
            have hkl : k < RL.length := by omega
            have hnx := nextF_last ⟨xn, xt, xc, xx⟩ hl hkl
            have hri := hmem _ (List.getElem_mem hkl)
            obtain ⟨_, g, of, rfl, hg, r0, _⟩ := r3.five k hkl
            rw [hl] at s4 F4 r3
            have s4' : a4.tmps.getD 37 undef = .bool false := s4
            refine wp_cond_false s4' (wp_skip ?_)
            rw [hnx]
            have h1 := hri.lo
            have h2 := hri.hi
            have h3 := hk.fin
            have h4 := hk.len
            have h5 := hk.big
            have h6 := n3 g rfl
            have h7 : w.heap.size + 1 < w2.heap.size := Nat.lt_of_lt_of_le (heap_lt x2) b2.size
            generalize RL[k].off = lo at *
            refine wp_seq (reg_mono (pl_r6 (by kernel_rfl) _ F4 rfl rfl rfl x1c x2c (by omega) (by omega) hg r0 (by omega) (by omega) (by omega) ?_))
            intro a5 w5 F5 t5 x5
            try dsimp only at F5
            refine wp_ret ?_
            obtain ⟨⟨e0, e1, e2, e3⟩, _⟩ := box4 x5
            refine bodyPost_ret (v := .tuple #[.agg #[.string xn, .string xt, .int .i64 xc, .int .i64 (lo + 1)], .slice (some ⟨g, of, none⟩) (k + 1) cp, .bool true]) ?_ F5.defers ⟨some ⟨g, of, none⟩, cp, rfl, ?_, b3w.trans (touch_new t5 b3w.size fun j hj => by omega), fun g' hg' => by
                obtain rfl : g = g' := Option.some.inj hg'
                omega⟩
            · simp [results, Tryz.results135, go_sem, slot_get F5.s6, slot_get F5.s7, slot_get F5.s8, e0, e1, e2, e3]
            · exact recs_touch r3 t5 fun j hj => by
                obtain rfl : g = j := Option.some.inj hj
                omega
end Go.Proofs.YtlfodldlkchmoaaGreat.Y
