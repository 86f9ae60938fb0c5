/-
  carillonref15's of: a producer, a record more (mkvf.py).
-/
import Derived.Test.YtfoomgdlbkjaeaaGreatZVF
namespace Go.Proofs.YtfoomgdlbkjaeaaGreat.Y
open Go.RowKit Go.Maps
set_option maxHeartbeats 8000000
set_option maxRecDepth 100000
attribute [local go_sem ↓] Go.wp_at_zero Go.wp_at_succ
set_option linter.unusedSimpArgs false
set_option linter.unusedVariables false
theorem ul_same (l : Nat → Bool) (i : Nat) : updL l i i = true := by unfold updL; exact if_pos rfl
theorem ul_other (l : Nat → Bool) {i k : Nat} (h : k ≠ i) : updL l i k = l k := by unfold updL; exact if_neg h
theorem xo_r12 {K : Act → World → Prop} {c : Code} (hc : regOf (Tryz.f53.body.getD .skip) 12 = some c) (a : Act) {v : Vxo} {wq : World} {g n cp at9 : Nat} {nm : ByteArray} {sq of9 : Int} {tb m pc tc : Nat} {po ta : Option Addr} {w5 : World} (hF : Fxo a v) (h0v : v.v0 = .slice (some ⟨g, 0, none⟩) n cp) (h7v : v.v7 = .pointer (some ⟨tb, 0, none⟩)) (h8v : v.v8 = .int .i64 (at9 : Int)) (hk : at9 + 3 ≤ n) (hbig : n ≤ 1000000) (y0 : wq.cell? ⟨g, at9 * 3 + 2, none⟩ = some (.string nm)) (y1 : wq.cell? ⟨g, (at9 + 1) * 3 + 1, none⟩ = some (.int .u64 sq)) (y2 : wq.cell? ⟨g, (at9 + 2) * 3 + 1, none⟩ = some (.int .u64 of9)) (h0 : 0 ≤ sq) (h1 : sq ≤ 9007199254740991) (h2 : 0 ≤ of9) (h3 : of9 ≤ 9007199254740991) (c1 : wq.cell? ⟨tb, 3, none⟩ = some (.slice po m pc)) (hr : (Builtin.append_ #[42, 42] 42 #[.slice po m pc, .slice (some ⟨wq.heap.size, 0, none⟩) 1 1]).run Tryz.prog (wq.drew.alloc (.cells #[.string nm, .int .i64 sq, .int .i64 of9] 64)) = .ok (.slice ta (m + 1) tc) w5) (c3 : ∃ v, w5.cell? ⟨tb, 3, none⟩ = some v) (f3 : w5.frozen? ⟨tb, 3, none⟩ = false)
    (hQ : ∀ a', Fxo a' v → K a' (w5.setCell ⟨tb, 3, none⟩ (.slice ta (m + 1) tc))) :
    Code.wp Tryz.prog c (Exit.then K fun _ _ _ => False) a wq := by
  have HQ := hide hQ
  clear hQ
  obtain ⟨v0, v1, v4, v5, v6, v7, v8, v9, v10, v11, v12⟩ := v
  simp only at h0v h7v h8v HQ
  subst h0v h7v h8v
  obtain ⟨u, rfl⟩ := frx_xo hF
  clear hF
  simp only [Tryz.f53, Option.getD_some, regOf] at hc
  injection hc with hc
  subst hc
  have HA := hide hr
  clear hr
  obtain ⟨v3, c3⟩ := c3
  have w1 : IntKind.i64.wrap ((at9 : Int) + 1) = (at9 : Int) + 1 := by rw [IntKind.wrap_i64]; omega
  have w2 : IntKind.i64.wrap ((at9 : Int) + 2) = (at9 : Int) + 2 := by rw [IntKind.wrap_i64]; omega
  have p1 : (0 : Int) ≤ (at9 : Int) + 1 := by omega
  have q1 : (at9 : Int) + 1 < (n : Int) := by omega
  have p2 : (0 : Int) ≤ (at9 : Int) + 2 := by omega
  have q2 : (at9 : Int) + 2 < (n : Int) := by omega
  have t1 : ((at9 : Int) + 1).toNat = at9 + 1 := by omega
  have t2 : ((at9 : Int) + 2).toNat = at9 + 2 := by omega
  have i0 : (0 : Int) ≤ (at9 : Int) := by omega
  have j0 : (at9 : Int) < (n : Int) := by omega
  have w7 : IntKind.i64.wrap sq = sq := by rw [IntKind.wrap_i64]; omega
  have x7 : wrap64 sq = sq := by unfold wrap64; omega
  have w8 : IntKind.i64.wrap of9 = of9 := by rw [IntKind.wrap_i64]; omega
  have x8 : wrap64 of9 = of9 := by unfold wrap64; omega
  refine wp_region_any rfl ?_
  refine wpAny_staged (ns := 253) (uses := (fun i => match i with | 0 => [110] | 1 => [111] | 2 => [112] | 3 => [113] | 4 => [114] | 5 => [115] | 6 => [116] | 7 => [117] | 8 => [118] | 9 => [119] | 10 => [120] | 11 => [121] | 12 => [122] | 13 => [123] | 14 => [124] | 15 => [125] | 16 => [126] | 17 => [127] | 18 => [128] | 19 => [129] | 20 => [130] | 21 => [131] | 22 => [132] | 23 => [133] | 24 => [134] | 25 => [135] | 26 => [136] | 27 => [137] | 28 => [138] | _ => [])) (by kernel_rfl) (by kernel_rfl) (fun l a w => ((fun (x y z : Bool) (W : World) => (x = false → W = wq.drew) ∧ (x = true → y = false → W = wq.drew.alloc (.cells #[.string nm, .int .i64 sq, .int .i64 of9] 64)) ∧ (y = true → z = false → W = w5) ∧ (z = true → W = w5.setCell ⟨tb, 3, none⟩ (.slice ta (m + 1) tc)))) (l 25) (l 26) (l 29) w) ⟨(fun _ => rfl), (fun e => by cases e), (fun e => by cases e), (fun e => by cases e)⟩ (fun i => match i with | 0 => fun σ => σ 110 = .pointer (some ⟨tb, 0, none⟩) | 1 => fun σ => σ 111 = .pointer (some ⟨tb, 0, none⟩) | 2 => fun σ => σ 112 = .pointer (some ⟨tb, 0, none⟩) | 3 => fun σ => σ 113 = .pointer (some ⟨tb, 3, none⟩) | 4 => fun σ => σ 114 = .slice po m pc | 5 => fun σ => σ 115 = .slice (some ⟨g, 0, none⟩) n cp | 6 => fun σ => σ 116 = .int .i64 (at9 : Int) | 7 => fun σ => σ 117 = .pointer (some ⟨g, at9 * 3, none⟩) | 8 => fun σ => σ 118 = .pointer (some ⟨g, at9 * 3 + 2, none⟩) | 9 => fun σ => σ 119 = .string nm | 10 => fun σ => σ 120 = .slice (some ⟨g, 0, none⟩) n cp | 11 => fun σ => σ 121 = .int .i64 (at9 : Int) | 12 => fun σ => σ 122 = .int .i64 ((at9 : Int) + 1) | 13 => fun σ => σ 123 = .pointer (some ⟨g, (at9 + 1) * 3, none⟩) | 14 => fun σ => σ 124 = .pointer (some ⟨g, (at9 + 1) * 3 + 1, none⟩) | 15 => fun σ => σ 125 = .int .u64 sq | 16 => fun σ => σ 126 = .int .i64 sq | 17 => fun σ => σ 127 = .slice (some ⟨g, 0, none⟩) n cp | 18 => fun σ => σ 128 = .int .i64 (at9 : Int) | 19 => fun σ => σ 129 = .int .i64 ((at9 : Int) + 2) | 20 => fun σ => σ 130 = .pointer (some ⟨g, (at9 + 2) * 3, none⟩) | 21 => fun σ => σ 131 = .pointer (some ⟨g, (at9 + 2) * 3 + 1, none⟩) | 22 => fun σ => σ 132 = .int .u64 of9 | 23 => fun σ => σ 133 = .int .i64 of9 | 24 => fun σ => σ 134 = .agg #[.string nm, .int .i64 sq, .int .i64 of9] | 25 => fun σ => σ 135 = .slice (some ⟨wq.heap.size, 0, none⟩) 1 1 | 26 => fun σ => σ 136 = .slice ta (m + 1) tc | 27 => fun σ => σ 137 = .pointer (some ⟨tb, 0, none⟩) | 28 => fun σ => σ 138 = .pointer (some ⟨tb, 3, none⟩) | 29 => fun _ => True | _ => fun _ => True) ?phc ?pstep ?pdone
  case phc =>
    intro i s s' hx h
    rcases i with _ | i; · exact (hx _ (List.mem_singleton.2 rfl)).symm.trans h
    rcases i with _ | i; · exact (hx _ (List.mem_singleton.2 rfl)).symm.trans h
    rcases i with _ | i; · exact (hx _ (List.mem_singleton.2 rfl)).symm.trans h
    rcases i with _ | i; · exact (hx _ (List.mem_singleton.2 rfl)).symm.trans h
    rcases i with _ | i; · exact (hx _ (List.mem_singleton.2 rfl)).symm.trans h
    rcases i with _ | i; · exact (hx _ (List.mem_singleton.2 rfl)).symm.trans h
    rcases i with _ | i; · exact (hx _ (List.mem_singleton.2 rfl)).symm.trans h
    rcases i with _ | i; · exact (hx _ (List.mem_singleton.2 rfl)).symm.trans h
    rcases i with _ | i; · exact (hx _ (List.mem_singleton.2 rfl)).symm.trans h
    rcases i with _ | i; · exact (hx _ (List.mem_singleton.2 rfl)).symm.trans h
    rcases i with _ | i; · exact (hx _ (List.mem_singleton.2 rfl)).symm.trans h
    rcases i with _ | i; · exact (hx _ (List.mem_singleton.2 rfl)).symm.trans h
    rcases i with _ | i; · exact (hx _ (List.mem_singleton.2 rfl)).symm.trans h
    rcases i with _ | i; · exact (hx _ (List.mem_singleton.2 rfl)).symm.trans h
    rcases i with _ | i; · exact (hx _ (List.mem_singleton.2 rfl)).symm.trans h
    rcases i with _ | i; · exact (hx _ (List.mem_singleton.2 rfl)).symm.trans h
    rcases i with _ | i; · exact (hx _ (List.mem_singleton.2 rfl)).symm.trans h
    rcases i with _ | i; · exact (hx _ (List.mem_singleton.2 rfl)).symm.trans h
    rcases i with _ | i; · exact (hx _ (List.mem_singleton.2 rfl)).symm.trans h
    rcases i with _ | i; · exact (hx _ (List.mem_singleton.2 rfl)).symm.trans h
    rcases i with _ | i; · exact (hx _ (List.mem_singleton.2 rfl)).symm.trans h
    rcases i with _ | i; · exact (hx _ (List.mem_singleton.2 rfl)).symm.trans h
    rcases i with _ | i; · exact (hx _ (List.mem_singleton.2 rfl)).symm.trans h
    rcases i with _ | i; · exact (hx _ (List.mem_singleton.2 rfl)).symm.trans h
    rcases i with _ | i; · exact (hx _ (List.mem_singleton.2 rfl)).symm.trans h
    rcases i with _ | i; · exact (hx _ (List.mem_singleton.2 rfl)).symm.trans h
    rcases i with _ | i; · exact (hx _ (List.mem_singleton.2 rfl)).symm.trans h
    rcases i with _ | i; · exact (hx _ (List.mem_singleton.2 rfl)).symm.trans h
    rcases i with _ | i; · exact (hx _ (List.mem_singleton.2 rfl)).symm.trans h
    rcases i with _ | i; · exact h
    exact h
  case pstep =>
    intro i o ho a' w' l hl hr hq hsa hS hd
    match i, ho, hl, hr, hq with
    | 0, ho, hl, hr, hq =>
      obtain rfl := Option.some.inj ho
      try dsimp only at hd
      have g7 : a'.tmps.getD 7 undef = .pointer (some ⟨tb, 0, none⟩) := hsa.rest 7 (by rfl)
      have hT : ((fun (x y z : Bool) (W : World) => (x = false → W = wq.drew) ∧ (x = true → y = false → W = wq.drew.alloc (.cells #[.string nm, .int .i64 sq, .int .i64 of9] 64)) ∧ (y = true → z = false → W = w5) ∧ (z = true → W = w5.setCell ⟨tb, 3, none⟩ (.slice ta (m + 1) tc)))) (l 25) (l 26) false w' := by have h := hS; rw [hq 29 (by kernel_rfl)] at h; exact h
      refine wpOp_of rfl rfl ?_
      have HT9 := hide hT
      clear hT hS
      refine op_run (v := .pointer (some ⟨tb, 0, none⟩)) (w' := w') ?_ ⟨_, rfl, ?_, (by show ((fun (x y z : Bool) (W : World) => (x = false → W = wq.drew) ∧ (x = true → y = false → W = wq.drew.alloc (.cells #[.string nm, .int .i64 sq, .int .i64 of9] 64)) ∧ (y = true → z = false → W = w5) ∧ (z = true → W = w5.setCell ⟨tb, 3, none⟩ (.slice ta (m + 1) tc)))) _ _ _ _; rw [ul_other l (show 25 ≠ 0 by decide), ul_other l (show 26 ≠ 0 by decide), ul_other l (show 29 ≠ 0 by decide)]; rw [hq 29 (by kernel_rfl)]; exact HT9.out)⟩
      · simp only [execOp, Act.eval, g7]; first | (go_simp; done) | rfl
      · try dsimp only
        exact (slots_put (ns := 253) (hsa.size.trans rfl) (by decide))
    | 1, ho, hl, hr, hq =>
      obtain rfl := Option.some.inj ho
      try dsimp only at hd
      have g7 : a'.tmps.getD 7 undef = .pointer (some ⟨tb, 0, none⟩) := hsa.rest 7 (by rfl)
      have hT : ((fun (x y z : Bool) (W : World) => (x = false → W = wq.drew) ∧ (x = true → y = false → W = wq.drew.alloc (.cells #[.string nm, .int .i64 sq, .int .i64 of9] 64)) ∧ (y = true → z = false → W = w5) ∧ (z = true → W = w5.setCell ⟨tb, 3, none⟩ (.slice ta (m + 1) tc)))) (l 25) false false w' := by have h := hS; rw [hq 26 (by kernel_rfl), hq 29 (by kernel_rfl)] at h; exact h
      refine wpOp_of rfl rfl ?_
      have HT9 := hide hT
      clear hT hS
      refine op_run (v := .pointer (some ⟨tb, 0, none⟩)) (w' := w') ?_ ⟨_, rfl, ?_, (by show ((fun (x y z : Bool) (W : World) => (x = false → W = wq.drew) ∧ (x = true → y = false → W = wq.drew.alloc (.cells #[.string nm, .int .i64 sq, .int .i64 of9] 64)) ∧ (y = true → z = false → W = w5) ∧ (z = true → W = w5.setCell ⟨tb, 3, none⟩ (.slice ta (m + 1) tc)))) _ _ _ _; rw [ul_other l (show 25 ≠ 1 by decide), ul_other l (show 26 ≠ 1 by decide), ul_other l (show 29 ≠ 1 by decide)]; rw [hq 26 (by kernel_rfl), hq 29 (by kernel_rfl)]; exact HT9.out)⟩
      · simp only [execOp, Act.eval, g7]; first | (go_simp; done) | rfl
      · try dsimp only
        exact (slots_put (ns := 253) (hsa.size.trans rfl) (by decide))
    | 2, ho, hl, hr, hq =>
      obtain rfl := Option.some.inj ho
      try dsimp only at hd
      have d1 : a'.tmps.getD 111 undef = .pointer (some ⟨tb, 0, none⟩) := hd 1 (by rfl)
      have hT : ((fun (x y z : Bool) (W : World) => (x = false → W = wq.drew) ∧ (x = true → y = false → W = wq.drew.alloc (.cells #[.string nm, .int .i64 sq, .int .i64 of9] 64)) ∧ (y = true → z = false → W = w5) ∧ (z = true → W = w5.setCell ⟨tb, 3, none⟩ (.slice ta (m + 1) tc)))) (l 25) false false w' := by have h := hS; rw [hq 26 (by kernel_rfl), hq 29 (by kernel_rfl)] at h; exact h
      refine wpOp_of rfl rfl ?_
      have HT9 := hide hT
      clear hT hS
      refine op_run (v := .pointer (some ⟨tb, 0, none⟩)) (w' := w') ?_ ⟨_, rfl, ?_, (by show ((fun (x y z : Bool) (W : World) => (x = false → W = wq.drew) ∧ (x = true → y = false → W = wq.drew.alloc (.cells #[.string nm, .int .i64 sq, .int .i64 of9] 64)) ∧ (y = true → z = false → W = w5) ∧ (z = true → W = w5.setCell ⟨tb, 3, none⟩ (.slice ta (m + 1) tc)))) _ _ _ _; rw [ul_other l (show 25 ≠ 2 by decide), ul_other l (show 26 ≠ 2 by decide), ul_other l (show 29 ≠ 2 by decide)]; rw [hq 26 (by kernel_rfl), hq 29 (by kernel_rfl)]; exact HT9.out)⟩
      · simp only [execOp, Act.eval, d1]; first | (go_simp; done) | rfl
      · try dsimp only
        exact (slots_put (ns := 253) (hsa.size.trans rfl) (by decide))
    | 3, ho, hl, hr, hq =>
      obtain rfl := Option.some.inj ho
      try dsimp only at hd
      have d2 : a'.tmps.getD 112 undef = .pointer (some ⟨tb, 0, none⟩) := hd 2 (by rfl)
      have hT : ((fun (x y z : Bool) (W : World) => (x = false → W = wq.drew) ∧ (x = true → y = false → W = wq.drew.alloc (.cells #[.string nm, .int .i64 sq, .int .i64 of9] 64)) ∧ (y = true → z = false → W = w5) ∧ (z = true → W = w5.setCell ⟨tb, 3, none⟩ (.slice ta (m + 1) tc)))) (l 25) false false w' := by have h := hS; rw [hq 26 (by kernel_rfl), hq 29 (by kernel_rfl)] at h; exact h
      refine wpOp_of rfl rfl ?_
      have HT9 := hide hT
      clear hT hS
      refine op_run (v := .pointer (some ⟨tb, 3, none⟩)) (w' := w') ?_ ⟨_, rfl, ?_, (by show ((fun (x y z : Bool) (W : World) => (x = false → W = wq.drew) ∧ (x = true → y = false → W = wq.drew.alloc (.cells #[.string nm, .int .i64 sq, .int .i64 of9] 64)) ∧ (y = true → z = false → W = w5) ∧ (z = true → W = w5.setCell ⟨tb, 3, none⟩ (.slice ta (m + 1) tc)))) _ _ _ _; rw [ul_other l (show 25 ≠ 3 by decide), ul_other l (show 26 ≠ 3 by decide), ul_other l (show 29 ≠ 3 by decide)]; rw [hq 26 (by kernel_rfl), hq 29 (by kernel_rfl)]; exact HT9.out)⟩
      · simp only [execOp, Act.eval, d2]; first | (go_simp; done) | rfl
      · try dsimp only
        exact (slots_put (ns := 253) (hsa.size.trans rfl) (by decide))
    | 4, ho, hl, hr, hq =>
      obtain rfl := Option.some.inj ho
      try dsimp only at hd
      have d3 : a'.tmps.getD 113 undef = .pointer (some ⟨tb, 3, none⟩) := hd 3 (by rfl)
      have hT : ((fun (x y z : Bool) (W : World) => (x = false → W = wq.drew) ∧ (x = true → y = false → W = wq.drew.alloc (.cells #[.string nm, .int .i64 sq, .int .i64 of9] 64)) ∧ (y = true → z = false → W = w5) ∧ (z = true → W = w5.setCell ⟨tb, 3, none⟩ (.slice ta (m + 1) tc)))) (l 25) false false w' := by have h := hS; rw [hq 26 (by kernel_rfl), hq 29 (by kernel_rfl)] at h; exact h
      refine wpOp_of rfl rfl ?_
      have y : w'.cell? ⟨tb, 3, none⟩ = some (.slice po m pc) := by
        cases hb13 : l 25 with
        | false => rw [hb13] at hT; rw [hT.1 rfl]; exact c1
        | true => rw [hb13] at hT; rw [hT.2.1 rfl rfl]; exact Lib.cell?_alloc_some _ c1
      have HT9 := hide hT
      clear hT hS
      refine op_run (v := .slice po m pc) (w' := w') ?_ ⟨_, rfl, ?_, (by show ((fun (x y z : Bool) (W : World) => (x = false → W = wq.drew) ∧ (x = true → y = false → W = wq.drew.alloc (.cells #[.string nm, .int .i64 sq, .int .i64 of9] 64)) ∧ (y = true → z = false → W = w5) ∧ (z = true → W = w5.setCell ⟨tb, 3, none⟩ (.slice ta (m + 1) tc)))) _ _ _ _; rw [ul_other l (show 25 ≠ 4 by decide), ul_other l (show 26 ≠ 4 by decide), ul_other l (show 29 ≠ 4 by decide)]; rw [hq 26 (by kernel_rfl), hq 29 (by kernel_rfl)]; exact HT9.out)⟩
      · simp only [execOp, Act.eval, d3, y]; first | (go_simp; done) | rfl
      · try dsimp only
        exact (slots_put (ns := 253) (hsa.size.trans rfl) (by decide))
    | 5, ho, hl, hr, hq =>
      obtain rfl := Option.some.inj ho
      try dsimp only at hd
      have g0 : a'.tmps.getD 0 undef = .slice (some ⟨g, 0, none⟩) n cp := hsa.rest 0 (by rfl)
      have hT : ((fun (x y z : Bool) (W : World) => (x = false → W = wq.drew) ∧ (x = true → y = false → W = wq.drew.alloc (.cells #[.string nm, .int .i64 sq, .int .i64 of9] 64)) ∧ (y = true → z = false → W = w5) ∧ (z = true → W = w5.setCell ⟨tb, 3, none⟩ (.slice ta (m + 1) tc)))) false false false w' := by have h := hS; rw [hq 25 (by kernel_rfl), hq 26 (by kernel_rfl), hq 29 (by kernel_rfl)] at h; exact h
      refine wpOp_of rfl rfl ?_
      have HT9 := hide hT
      clear hT hS
      refine op_run (v := .slice (some ⟨g, 0, none⟩) n cp) (w' := w') ?_ ⟨_, rfl, ?_, (by show ((fun (x y z : Bool) (W : World) => (x = false → W = wq.drew) ∧ (x = true → y = false → W = wq.drew.alloc (.cells #[.string nm, .int .i64 sq, .int .i64 of9] 64)) ∧ (y = true → z = false → W = w5) ∧ (z = true → W = w5.setCell ⟨tb, 3, none⟩ (.slice ta (m + 1) tc)))) _ _ _ _; rw [ul_other l (show 25 ≠ 5 by decide), ul_other l (show 26 ≠ 5 by decide), ul_other l (show 29 ≠ 5 by decide)]; rw [hq 25 (by kernel_rfl), hq 26 (by kernel_rfl), hq 29 (by kernel_rfl)]; exact HT9.out)⟩
      · simp only [execOp, Act.eval, g0]; first | (go_simp; done) | rfl
      · try dsimp only
        exact (slots_put (ns := 253) (hsa.size.trans rfl) (by decide))
    | 6, ho, hl, hr, hq =>
      obtain rfl := Option.some.inj ho
      try dsimp only at hd
      have g8 : a'.tmps.getD 8 undef = .int .i64 (at9 : Int) := hsa.rest 8 (by rfl)
      have hT : ((fun (x y z : Bool) (W : World) => (x = false → W = wq.drew) ∧ (x = true → y = false → W = wq.drew.alloc (.cells #[.string nm, .int .i64 sq, .int .i64 of9] 64)) ∧ (y = true → z = false → W = w5) ∧ (z = true → W = w5.setCell ⟨tb, 3, none⟩ (.slice ta (m + 1) tc)))) false false false w' := by have h := hS; rw [hq 25 (by kernel_rfl), hq 26 (by kernel_rfl), hq 29 (by kernel_rfl)] at h; exact h
      refine wpOp_of rfl rfl ?_
      have HT9 := hide hT
      clear hT hS
      refine op_run (v := .int .i64 (at9 : Int)) (w' := w') ?_ ⟨_, rfl, ?_, (by show ((fun (x y z : Bool) (W : World) => (x = false → W = wq.drew) ∧ (x = true → y = false → W = wq.drew.alloc (.cells #[.string nm, .int .i64 sq, .int .i64 of9] 64)) ∧ (y = true → z = false → W = w5) ∧ (z = true → W = w5.setCell ⟨tb, 3, none⟩ (.slice ta (m + 1) tc)))) _ _ _ _; rw [ul_other l (show 25 ≠ 6 by decide), ul_other l (show 26 ≠ 6 by decide), ul_other l (show 29 ≠ 6 by decide)]; rw [hq 25 (by kernel_rfl), hq 26 (by kernel_rfl), hq 29 (by kernel_rfl)]; exact HT9.out)⟩
      · simp only [execOp, Act.eval, g8]; first | (go_simp; done) | rfl
      · try dsimp only
        exact (slots_put (ns := 253) (hsa.size.trans rfl) (by decide))
    | 7, ho, hl, hr, hq =>
      obtain rfl := Option.some.inj ho
      try dsimp only at hd
      have d5 : a'.tmps.getD 115 undef = .slice (some ⟨g, 0, none⟩) n cp := hd 5 (by rfl)
      have d6 : a'.tmps.getD 116 undef = .int .i64 (at9 : Int) := hd 6 (by rfl)
      have hT : ((fun (x y z : Bool) (W : World) => (x = false → W = wq.drew) ∧ (x = true → y = false → W = wq.drew.alloc (.cells #[.string nm, .int .i64 sq, .int .i64 of9] 64)) ∧ (y = true → z = false → W = w5) ∧ (z = true → W = w5.setCell ⟨tb, 3, none⟩ (.slice ta (m + 1) tc)))) false false false w' := by have h := hS; rw [hq 25 (by kernel_rfl), hq 26 (by kernel_rfl), hq 29 (by kernel_rfl)] at h; exact h
      refine wpOp_of rfl rfl ?_
      have HT9 := hide hT
      clear hT hS
      refine op_run (v := .pointer (some ⟨g, at9 * 3, none⟩)) (w' := w') ?_ ⟨_, rfl, ?_, (by show ((fun (x y z : Bool) (W : World) => (x = false → W = wq.drew) ∧ (x = true → y = false → W = wq.drew.alloc (.cells #[.string nm, .int .i64 sq, .int .i64 of9] 64)) ∧ (y = true → z = false → W = w5) ∧ (z = true → W = w5.setCell ⟨tb, 3, none⟩ (.slice ta (m + 1) tc)))) _ _ _ _; rw [ul_other l (show 25 ≠ 7 by decide), ul_other l (show 26 ≠ 7 by decide), ul_other l (show 29 ≠ 7 by decide)]; rw [hq 25 (by kernel_rfl), hq 26 (by kernel_rfl), hq 29 (by kernel_rfl)]; exact HT9.out)⟩
      · simp only [execOp, Act.eval, d5, d6, i0, j0]; first | (go_simp; done) | rfl
      · try dsimp only
        exact (slots_put (ns := 253) (hsa.size.trans rfl) (by decide))
    | 8, ho, hl, hr, hq =>
      obtain rfl := Option.some.inj ho
      try dsimp only at hd
      have d7 : a'.tmps.getD 117 undef = .pointer (some ⟨g, at9 * 3, none⟩) := hd 7 (by rfl)
      have hT : ((fun (x y z : Bool) (W : World) => (x = false → W = wq.drew) ∧ (x = true → y = false → W = wq.drew.alloc (.cells #[.string nm, .int .i64 sq, .int .i64 of9] 64)) ∧ (y = true → z = false → W = w5) ∧ (z = true → W = w5.setCell ⟨tb, 3, none⟩ (.slice ta (m + 1) tc)))) false false false w' := by have h := hS; rw [hq 25 (by kernel_rfl), hq 26 (by kernel_rfl), hq 29 (by kernel_rfl)] at h; exact h
      refine wpOp_of rfl rfl ?_
      have HT9 := hide hT
      clear hT hS
      refine op_run (v := .pointer (some ⟨g, at9 * 3 + 2, none⟩)) (w' := w') ?_ ⟨_, rfl, ?_, (by show ((fun (x y z : Bool) (W : World) => (x = false → W = wq.drew) ∧ (x = true → y = false → W = wq.drew.alloc (.cells #[.string nm, .int .i64 sq, .int .i64 of9] 64)) ∧ (y = true → z = false → W = w5) ∧ (z = true → W = w5.setCell ⟨tb, 3, none⟩ (.slice ta (m + 1) tc)))) _ _ _ _; rw [ul_other l (show 25 ≠ 8 by decide), ul_other l (show 26 ≠ 8 by decide), ul_other l (show 29 ≠ 8 by decide)]; rw [hq 25 (by kernel_rfl), hq 26 (by kernel_rfl), hq 29 (by kernel_rfl)]; exact HT9.out)⟩
      · simp only [execOp, Act.eval, d7]; first | (go_simp; done) | rfl
      · try dsimp only
        exact (slots_put (ns := 253) (hsa.size.trans rfl) (by decide))
    | 9, ho, hl, hr, hq =>
      obtain rfl := Option.some.inj ho
      try dsimp only at hd
      have d8 : a'.tmps.getD 118 undef = .pointer (some ⟨g, at9 * 3 + 2, none⟩) := hd 8 (by rfl)
      have hT : ((fun (x y z : Bool) (W : World) => (x = false → W = wq.drew) ∧ (x = true → y = false → W = wq.drew.alloc (.cells #[.string nm, .int .i64 sq, .int .i64 of9] 64)) ∧ (y = true → z = false → W = w5) ∧ (z = true → W = w5.setCell ⟨tb, 3, none⟩ (.slice ta (m + 1) tc)))) false false false w' := by have h := hS; rw [hq 25 (by kernel_rfl), hq 26 (by kernel_rfl), hq 29 (by kernel_rfl)] at h; exact h
      refine wpOp_of rfl rfl ?_
      have y : w'.cell? ⟨g, at9 * 3 + 2, none⟩ = some (.string nm) := by rw [hT.1 rfl]; exact y0
      have HT9 := hide hT
      clear hT hS
      refine op_run (v := .string nm) (w' := w') ?_ ⟨_, rfl, ?_, (by show ((fun (x y z : Bool) (W : World) => (x = false → W = wq.drew) ∧ (x = true → y = false → W = wq.drew.alloc (.cells #[.string nm, .int .i64 sq, .int .i64 of9] 64)) ∧ (y = true → z = false → W = w5) ∧ (z = true → W = w5.setCell ⟨tb, 3, none⟩ (.slice ta (m + 1) tc)))) _ _ _ _; rw [ul_other l (show 25 ≠ 9 by decide), ul_other l (show 26 ≠ 9 by decide), ul_other l (show 29 ≠ 9 by decide)]; rw [hq 25 (by kernel_rfl), hq 26 (by kernel_rfl), hq 29 (by kernel_rfl)]; exact HT9.out)⟩
      · simp only [execOp, Act.eval, d8, y]; first | (go_simp; done) | rfl
      · try dsimp only
        exact (slots_put (ns := 253) (hsa.size.trans rfl) (by decide))
    | 10, ho, hl, hr, hq =>
      obtain rfl := Option.some.inj ho
      try dsimp only at hd
      have g0 : a'.tmps.getD 0 undef = .slice (some ⟨g, 0, none⟩) n cp := hsa.rest 0 (by rfl)
      have hT : ((fun (x y z : Bool) (W : World) => (x = false → W = wq.drew) ∧ (x = true → y = false → W = wq.drew.alloc (.cells #[.string nm, .int .i64 sq, .int .i64 of9] 64)) ∧ (y = true → z = false → W = w5) ∧ (z = true → W = w5.setCell ⟨tb, 3, none⟩ (.slice ta (m + 1) tc)))) false false false w' := by have h := hS; rw [hq 25 (by kernel_rfl), hq 26 (by kernel_rfl), hq 29 (by kernel_rfl)] at h; exact h
      refine wpOp_of rfl rfl ?_
      have HT9 := hide hT
      clear hT hS
      refine op_run (v := .slice (some ⟨g, 0, none⟩) n cp) (w' := w') ?_ ⟨_, rfl, ?_, (by show ((fun (x y z : Bool) (W : World) => (x = false → W = wq.drew) ∧ (x = true → y = false → W = wq.drew.alloc (.cells #[.string nm, .int .i64 sq, .int .i64 of9] 64)) ∧ (y = true → z = false → W = w5) ∧ (z = true → W = w5.setCell ⟨tb, 3, none⟩ (.slice ta (m + 1) tc)))) _ _ _ _; rw [ul_other l (show 25 ≠ 10 by decide), ul_other l (show 26 ≠ 10 by decide), ul_other l (show 29 ≠ 10 by decide)]; rw [hq 25 (by kernel_rfl), hq 26 (by kernel_rfl), hq 29 (by kernel_rfl)]; exact HT9.out)⟩
      · simp only [execOp, Act.eval, g0]; first | (go_simp; done) | rfl
      · try dsimp only
        exact (slots_put (ns := 253) (hsa.size.trans rfl) (by decide))
    | 11, ho, hl, hr, hq =>
      obtain rfl := Option.some.inj ho
      try dsimp only at hd
      have g8 : a'.tmps.getD 8 undef = .int .i64 (at9 : Int) := hsa.rest 8 (by rfl)
      have hT : ((fun (x y z : Bool) (W : World) => (x = false → W = wq.drew) ∧ (x = true → y = false → W = wq.drew.alloc (.cells #[.string nm, .int .i64 sq, .int .i64 of9] 64)) ∧ (y = true → z = false → W = w5) ∧ (z = true → W = w5.setCell ⟨tb, 3, none⟩ (.slice ta (m + 1) tc)))) false false false w' := by have h := hS; rw [hq 25 (by kernel_rfl), hq 26 (by kernel_rfl), hq 29 (by kernel_rfl)] at h; exact h
      refine wpOp_of rfl rfl ?_
      have HT9 := hide hT
      clear hT hS
      refine op_run (v := .int .i64 (at9 : Int)) (w' := w') ?_ ⟨_, rfl, ?_, (by show ((fun (x y z : Bool) (W : World) => (x = false → W = wq.drew) ∧ (x = true → y = false → W = wq.drew.alloc (.cells #[.string nm, .int .i64 sq, .int .i64 of9] 64)) ∧ (y = true → z = false → W = w5) ∧ (z = true → W = w5.setCell ⟨tb, 3, none⟩ (.slice ta (m + 1) tc)))) _ _ _ _; rw [ul_other l (show 25 ≠ 11 by decide), ul_other l (show 26 ≠ 11 by decide), ul_other l (show 29 ≠ 11 by decide)]; rw [hq 25 (by kernel_rfl), hq 26 (by kernel_rfl), hq 29 (by kernel_rfl)]; exact HT9.out)⟩
      · simp only [execOp, Act.eval, g8]; first | (go_simp; done) | rfl
      · try dsimp only
        exact (slots_put (ns := 253) (hsa.size.trans rfl) (by decide))
    | 12, ho, hl, hr, hq =>
      obtain rfl := Option.some.inj ho
      try dsimp only at hd
      have d11 : a'.tmps.getD 121 undef = .int .i64 (at9 : Int) := hd 11 (by rfl)
      have hT : ((fun (x y z : Bool) (W : World) => (x = false → W = wq.drew) ∧ (x = true → y = false → W = wq.drew.alloc (.cells #[.string nm, .int .i64 sq, .int .i64 of9] 64)) ∧ (y = true → z = false → W = w5) ∧ (z = true → W = w5.setCell ⟨tb, 3, none⟩ (.slice ta (m + 1) tc)))) false false false w' := by have h := hS; rw [hq 25 (by kernel_rfl), hq 26 (by kernel_rfl), hq 29 (by kernel_rfl)] at h; exact h
      refine wpOp_of rfl rfl ?_
      have HT9 := hide hT
      clear hT hS
      refine op_run (v := .int .i64 ((at9 : Int) + 1)) (w' := w') ?_ ⟨_, rfl, ?_, (by show ((fun (x y z : Bool) (W : World) => (x = false → W = wq.drew) ∧ (x = true → y = false → W = wq.drew.alloc (.cells #[.string nm, .int .i64 sq, .int .i64 of9] 64)) ∧ (y = true → z = false → W = w5) ∧ (z = true → W = w5.setCell ⟨tb, 3, none⟩ (.slice ta (m + 1) tc)))) _ _ _ _; rw [ul_other l (show 25 ≠ 12 by decide), ul_other l (show 26 ≠ 12 by decide), ul_other l (show 29 ≠ 12 by decide)]; rw [hq 25 (by kernel_rfl), hq 26 (by kernel_rfl), hq 29 (by kernel_rfl)]; exact HT9.out)⟩
      · simp only [execOp, Act.eval, d11, w1]; first | (go_simp; done) | rfl
      · try dsimp only
        exact (slots_put (ns := 253) (hsa.size.trans rfl) (by decide))
    | 13, ho, hl, hr, hq =>
      obtain rfl := Option.some.inj ho
      try dsimp only at hd
      have d10 : a'.tmps.getD 120 undef = .slice (some ⟨g, 0, none⟩) n cp := hd 10 (by rfl)
      have d12 : a'.tmps.getD 122 undef = .int .i64 ((at9 : Int) + 1) := hd 12 (by rfl)
      have hT : ((fun (x y z : Bool) (W : World) => (x = false → W = wq.drew) ∧ (x = true → y = false → W = wq.drew.alloc (.cells #[.string nm, .int .i64 sq, .int .i64 of9] 64)) ∧ (y = true → z = false → W = w5) ∧ (z = true → W = w5.setCell ⟨tb, 3, none⟩ (.slice ta (m + 1) tc)))) false false false w' := by have h := hS; rw [hq 25 (by kernel_rfl), hq 26 (by kernel_rfl), hq 29 (by kernel_rfl)] at h; exact h
      refine wpOp_of rfl rfl ?_
      have HT9 := hide hT
      clear hT hS
      refine op_run (v := .pointer (some ⟨g, (at9 + 1) * 3, none⟩)) (w' := w') ?_ ⟨_, rfl, ?_, (by show ((fun (x y z : Bool) (W : World) => (x = false → W = wq.drew) ∧ (x = true → y = false → W = wq.drew.alloc (.cells #[.string nm, .int .i64 sq, .int .i64 of9] 64)) ∧ (y = true → z = false → W = w5) ∧ (z = true → W = w5.setCell ⟨tb, 3, none⟩ (.slice ta (m + 1) tc)))) _ _ _ _; rw [ul_other l (show 25 ≠ 13 by decide), ul_other l (show 26 ≠ 13 by decide), ul_other l (show 29 ≠ 13 by decide)]; rw [hq 25 (by kernel_rfl), hq 26 (by kernel_rfl), hq 29 (by kernel_rfl)]; exact HT9.out)⟩
      · simp only [execOp, Act.eval, d10, d12, p1, q1, t1]; first | (go_simp; done) | rfl
      · try dsimp only
        exact (slots_put (ns := 253) (hsa.size.trans rfl) (by decide))
    | 14, ho, hl, hr, hq =>
      obtain rfl := Option.some.inj ho
      try dsimp only at hd
      have d13 : a'.tmps.getD 123 undef = .pointer (some ⟨g, (at9 + 1) * 3, none⟩) := hd 13 (by rfl)
      have hT : ((fun (x y z : Bool) (W : World) => (x = false → W = wq.drew) ∧ (x = true → y = false → W = wq.drew.alloc (.cells #[.string nm, .int .i64 sq, .int .i64 of9] 64)) ∧ (y = true → z = false → W = w5) ∧ (z = true → W = w5.setCell ⟨tb, 3, none⟩ (.slice ta (m + 1) tc)))) false false false w' := by have h := hS; rw [hq 25 (by kernel_rfl), hq 26 (by kernel_rfl), hq 29 (by kernel_rfl)] at h; exact h
      refine wpOp_of rfl rfl ?_
      have HT9 := hide hT
      clear hT hS
      refine op_run (v := .pointer (some ⟨g, (at9 + 1) * 3 + 1, none⟩)) (w' := w') ?_ ⟨_, rfl, ?_, (by show ((fun (x y z : Bool) (W : World) => (x = false → W = wq.drew) ∧ (x = true → y = false → W = wq.drew.alloc (.cells #[.string nm, .int .i64 sq, .int .i64 of9] 64)) ∧ (y = true → z = false → W = w5) ∧ (z = true → W = w5.setCell ⟨tb, 3, none⟩ (.slice ta (m + 1) tc)))) _ _ _ _; rw [ul_other l (show 25 ≠ 14 by decide), ul_other l (show 26 ≠ 14 by decide), ul_other l (show 29 ≠ 14 by decide)]; rw [hq 25 (by kernel_rfl), hq 26 (by kernel_rfl), hq 29 (by kernel_rfl)]; exact HT9.out)⟩
      · simp only [execOp, Act.eval, d13]; first | (go_simp; done) | rfl
      · try dsimp only
        exact (slots_put (ns := 253) (hsa.size.trans rfl) (by decide))
    | 15, ho, hl, hr, hq =>
      obtain rfl := Option.some.inj ho
      try dsimp only at hd
      have d14 : a'.tmps.getD 124 undef = .pointer (some ⟨g, (at9 + 1) * 3 + 1, none⟩) := hd 14 (by rfl)
      have hT : ((fun (x y z : Bool) (W : World) => (x = false → W = wq.drew) ∧ (x = true → y = false → W = wq.drew.alloc (.cells #[.string nm, .int .i64 sq, .int .i64 of9] 64)) ∧ (y = true → z = false → W = w5) ∧ (z = true → W = w5.setCell ⟨tb, 3, none⟩ (.slice ta (m + 1) tc)))) false false false w' := by have h := hS; rw [hq 25 (by kernel_rfl), hq 26 (by kernel_rfl), hq 29 (by kernel_rfl)] at h; exact h
      refine wpOp_of rfl rfl ?_
      have y : w'.cell? ⟨g, (at9 + 1) * 3 + 1, none⟩ = some (.int .u64 sq) := by rw [hT.1 rfl]; exact y1
      have HT9 := hide hT
      clear hT hS
      refine op_run (v := .int .u64 sq) (w' := w') ?_ ⟨_, rfl, ?_, (by show ((fun (x y z : Bool) (W : World) => (x = false → W = wq.drew) ∧ (x = true → y = false → W = wq.drew.alloc (.cells #[.string nm, .int .i64 sq, .int .i64 of9] 64)) ∧ (y = true → z = false → W = w5) ∧ (z = true → W = w5.setCell ⟨tb, 3, none⟩ (.slice ta (m + 1) tc)))) _ _ _ _; rw [ul_other l (show 25 ≠ 15 by decide), ul_other l (show 26 ≠ 15 by decide), ul_other l (show 29 ≠ 15 by decide)]; rw [hq 25 (by kernel_rfl), hq 26 (by kernel_rfl), hq 29 (by kernel_rfl)]; exact HT9.out)⟩
      · simp only [execOp, Act.eval, d14, y]; first | (go_simp; done) | rfl
      · try dsimp only
        exact (slots_put (ns := 253) (hsa.size.trans rfl) (by decide))
    | 16, ho, hl, hr, hq =>
      obtain rfl := Option.some.inj ho
      try dsimp only at hd
      have d15 : a'.tmps.getD 125 undef = .int .u64 sq := hd 15 (by rfl)
      have hT : ((fun (x y z : Bool) (W : World) => (x = false → W = wq.drew) ∧ (x = true → y = false → W = wq.drew.alloc (.cells #[.string nm, .int .i64 sq, .int .i64 of9] 64)) ∧ (y = true → z = false → W = w5) ∧ (z = true → W = w5.setCell ⟨tb, 3, none⟩ (.slice ta (m + 1) tc)))) false false false w' := by have h := hS; rw [hq 25 (by kernel_rfl), hq 26 (by kernel_rfl), hq 29 (by kernel_rfl)] at h; exact h
      refine wpOp_of rfl rfl ?_
      have HT9 := hide hT
      clear hT hS
      refine op_run (v := .int .i64 sq) (w' := w') ?_ ⟨_, rfl, ?_, (by show ((fun (x y z : Bool) (W : World) => (x = false → W = wq.drew) ∧ (x = true → y = false → W = wq.drew.alloc (.cells #[.string nm, .int .i64 sq, .int .i64 of9] 64)) ∧ (y = true → z = false → W = w5) ∧ (z = true → W = w5.setCell ⟨tb, 3, none⟩ (.slice ta (m + 1) tc)))) _ _ _ _; rw [ul_other l (show 25 ≠ 16 by decide), ul_other l (show 26 ≠ 16 by decide), ul_other l (show 29 ≠ 16 by decide)]; rw [hq 25 (by kernel_rfl), hq 26 (by kernel_rfl), hq 29 (by kernel_rfl)]; exact HT9.out)⟩
      · simp only [execOp, Act.eval, d15, w7, x7]; first | (go_simp; done) | rfl
      · try dsimp only
        exact (slots_put (ns := 253) (hsa.size.trans rfl) (by decide))
    | 17, ho, hl, hr, hq =>
      obtain rfl := Option.some.inj ho
      try dsimp only at hd
      have g0 : a'.tmps.getD 0 undef = .slice (some ⟨g, 0, none⟩) n cp := hsa.rest 0 (by rfl)
      have hT : ((fun (x y z : Bool) (W : World) => (x = false → W = wq.drew) ∧ (x = true → y = false → W = wq.drew.alloc (.cells #[.string nm, .int .i64 sq, .int .i64 of9] 64)) ∧ (y = true → z = false → W = w5) ∧ (z = true → W = w5.setCell ⟨tb, 3, none⟩ (.slice ta (m + 1) tc)))) false false false w' := by have h := hS; rw [hq 25 (by kernel_rfl), hq 26 (by kernel_rfl), hq 29 (by kernel_rfl)] at h; exact h
      refine wpOp_of rfl rfl ?_
      have HT9 := hide hT
      clear hT hS
      refine op_run (v := .slice (some ⟨g, 0, none⟩) n cp) (w' := w') ?_ ⟨_, rfl, ?_, (by show ((fun (x y z : Bool) (W : World) => (x = false → W = wq.drew) ∧ (x = true → y = false → W = wq.drew.alloc (.cells #[.string nm, .int .i64 sq, .int .i64 of9] 64)) ∧ (y = true → z = false → W = w5) ∧ (z = true → W = w5.setCell ⟨tb, 3, none⟩ (.slice ta (m + 1) tc)))) _ _ _ _; rw [ul_other l (show 25 ≠ 17 by decide), ul_other l (show 26 ≠ 17 by decide), ul_other l (show 29 ≠ 17 by decide)]; rw [hq 25 (by kernel_rfl), hq 26 (by kernel_rfl), hq 29 (by kernel_rfl)]; exact HT9.out)⟩
      · simp only [execOp, Act.eval, g0]; first | (go_simp; done) | rfl
      · try dsimp only
        exact (slots_put (ns := 253) (hsa.size.trans rfl) (by decide))
    | 18, ho, hl, hr, hq =>
      obtain rfl := Option.some.inj ho
      try dsimp only at hd
      have g8 : a'.tmps.getD 8 undef = .int .i64 (at9 : Int) := hsa.rest 8 (by rfl)
      have hT : ((fun (x y z : Bool) (W : World) => (x = false → W = wq.drew) ∧ (x = true → y = false → W = wq.drew.alloc (.cells #[.string nm, .int .i64 sq, .int .i64 of9] 64)) ∧ (y = true → z = false → W = w5) ∧ (z = true → W = w5.setCell ⟨tb, 3, none⟩ (.slice ta (m + 1) tc)))) false false false w' := by have h := hS; rw [hq 25 (by kernel_rfl), hq 26 (by kernel_rfl), hq 29 (by kernel_rfl)] at h; exact h
      refine wpOp_of rfl rfl ?_
      have HT9 := hide hT
      clear hT hS
      refine op_run (v := .int .i64 (at9 : Int)) (w' := w') ?_ ⟨_, rfl, ?_, (by show ((fun (x y z : Bool) (W : World) => (x = false → W = wq.drew) ∧ (x = true → y = false → W = wq.drew.alloc (.cells #[.string nm, .int .i64 sq, .int .i64 of9] 64)) ∧ (y = true → z = false → W = w5) ∧ (z = true → W = w5.setCell ⟨tb, 3, none⟩ (.slice ta (m + 1) tc)))) _ _ _ _; rw [ul_other l (show 25 ≠ 18 by decide), ul_other l (show 26 ≠ 18 by decide), ul_other l (show 29 ≠ 18 by decide)]; rw [hq 25 (by kernel_rfl), hq 26 (by kernel_rfl), hq 29 (by kernel_rfl)]; exact HT9.out)⟩
      · simp only [execOp, Act.eval, g8]; first | (go_simp; done) | rfl
      · try dsimp only
        exact (slots_put (ns := 253) (hsa.size.trans rfl) (by decide))
    | 19, ho, hl, hr, hq =>
      obtain rfl := Option.some.inj ho
      try dsimp only at hd
      have d18 : a'.tmps.getD 128 undef = .int .i64 (at9 : Int) := hd 18 (by rfl)
      have hT : ((fun (x y z : Bool) (W : World) => (x = false → W = wq.drew) ∧ (x = true → y = false → W = wq.drew.alloc (.cells #[.string nm, .int .i64 sq, .int .i64 of9] 64)) ∧ (y = true → z = false → W = w5) ∧ (z = true → W = w5.setCell ⟨tb, 3, none⟩ (.slice ta (m + 1) tc)))) false false false w' := by have h := hS; rw [hq 25 (by kernel_rfl), hq 26 (by kernel_rfl), hq 29 (by kernel_rfl)] at h; exact h
      refine wpOp_of rfl rfl ?_
      have HT9 := hide hT
      clear hT hS
      refine op_run (v := .int .i64 ((at9 : Int) + 2)) (w' := w') ?_ ⟨_, rfl, ?_, (by show ((fun (x y z : Bool) (W : World) => (x = false → W = wq.drew) ∧ (x = true → y = false → W = wq.drew.alloc (.cells #[.string nm, .int .i64 sq, .int .i64 of9] 64)) ∧ (y = true → z = false → W = w5) ∧ (z = true → W = w5.setCell ⟨tb, 3, none⟩ (.slice ta (m + 1) tc)))) _ _ _ _; rw [ul_other l (show 25 ≠ 19 by decide), ul_other l (show 26 ≠ 19 by decide), ul_other l (show 29 ≠ 19 by decide)]; rw [hq 25 (by kernel_rfl), hq 26 (by kernel_rfl), hq 29 (by kernel_rfl)]; exact HT9.out)⟩
      · simp only [execOp, Act.eval, d18, w2]; first | (go_simp; done) | rfl
      · try dsimp only
        exact (slots_put (ns := 253) (hsa.size.trans rfl) (by decide))
    | 20, ho, hl, hr, hq =>
      obtain rfl := Option.some.inj ho
      try dsimp only at hd
      have d17 : a'.tmps.getD 127 undef = .slice (some ⟨g, 0, none⟩) n cp := hd 17 (by rfl)
      have d19 : a'.tmps.getD 129 undef = .int .i64 ((at9 : Int) + 2) := hd 19 (by rfl)
      have hT : ((fun (x y z : Bool) (W : World) => (x = false → W = wq.drew) ∧ (x = true → y = false → W = wq.drew.alloc (.cells #[.string nm, .int .i64 sq, .int .i64 of9] 64)) ∧ (y = true → z = false → W = w5) ∧ (z = true → W = w5.setCell ⟨tb, 3, none⟩ (.slice ta (m + 1) tc)))) false false false w' := by have h := hS; rw [hq 25 (by kernel_rfl), hq 26 (by kernel_rfl), hq 29 (by kernel_rfl)] at h; exact h
      refine wpOp_of rfl rfl ?_
      have HT9 := hide hT
      clear hT hS
      refine op_run (v := .pointer (some ⟨g, (at9 + 2) * 3, none⟩)) (w' := w') ?_ ⟨_, rfl, ?_, (by show ((fun (x y z : Bool) (W : World) => (x = false → W = wq.drew) ∧ (x = true → y = false → W = wq.drew.alloc (.cells #[.string nm, .int .i64 sq, .int .i64 of9] 64)) ∧ (y = true → z = false → W = w5) ∧ (z = true → W = w5.setCell ⟨tb, 3, none⟩ (.slice ta (m + 1) tc)))) _ _ _ _; rw [ul_other l (show 25 ≠ 20 by decide), ul_other l (show 26 ≠ 20 by decide), ul_other l (show 29 ≠ 20 by decide)]; rw [hq 25 (by kernel_rfl), hq 26 (by kernel_rfl), hq 29 (by kernel_rfl)]; exact HT9.out)⟩
      · simp only [execOp, Act.eval, d17, d19, p2, q2, t2]; first | (go_simp; done) | rfl
      · try dsimp only
        exact (slots_put (ns := 253) (hsa.size.trans rfl) (by decide))
    | 21, ho, hl, hr, hq =>
      obtain rfl := Option.some.inj ho
      try dsimp only at hd
      have d20 : a'.tmps.getD 130 undef = .pointer (some ⟨g, (at9 + 2) * 3, none⟩) := hd 20 (by rfl)
      have hT : ((fun (x y z : Bool) (W : World) => (x = false → W = wq.drew) ∧ (x = true → y = false → W = wq.drew.alloc (.cells #[.string nm, .int .i64 sq, .int .i64 of9] 64)) ∧ (y = true → z = false → W = w5) ∧ (z = true → W = w5.setCell ⟨tb, 3, none⟩ (.slice ta (m + 1) tc)))) false false false w' := by have h := hS; rw [hq 25 (by kernel_rfl), hq 26 (by kernel_rfl), hq 29 (by kernel_rfl)] at h; exact h
      refine wpOp_of rfl rfl ?_
      have HT9 := hide hT
      clear hT hS
      refine op_run (v := .pointer (some ⟨g, (at9 + 2) * 3 + 1, none⟩)) (w' := w') ?_ ⟨_, rfl, ?_, (by show ((fun (x y z : Bool) (W : World) => (x = false → W = wq.drew) ∧ (x = true → y = false → W = wq.drew.alloc (.cells #[.string nm, .int .i64 sq, .int .i64 of9] 64)) ∧ (y = true → z = false → W = w5) ∧ (z = true → W = w5.setCell ⟨tb, 3, none⟩ (.slice ta (m + 1) tc)))) _ _ _ _; rw [ul_other l (show 25 ≠ 21 by decide), ul_other l (show 26 ≠ 21 by decide), ul_other l (show 29 ≠ 21 by decide)]; rw [hq 25 (by kernel_rfl), hq 26 (by kernel_rfl), hq 29 (by kernel_rfl)]; exact HT9.out)⟩
      · simp only [execOp, Act.eval, d20]; first | (go_simp; done) | rfl
      · try dsimp only
        exact (slots_put (ns := 253) (hsa.size.trans rfl) (by decide))
    | 22, ho, hl, hr, hq =>
      obtain rfl := Option.some.inj ho
      try dsimp only at hd
      have d21 : a'.tmps.getD 131 undef = .pointer (some ⟨g, (at9 + 2) * 3 + 1, none⟩) := hd 21 (by rfl)
      have hT : ((fun (x y z : Bool) (W : World) => (x = false → W = wq.drew) ∧ (x = true → y = false → W = wq.drew.alloc (.cells #[.string nm, .int .i64 sq, .int .i64 of9] 64)) ∧ (y = true → z = false → W = w5) ∧ (z = true → W = w5.setCell ⟨tb, 3, none⟩ (.slice ta (m + 1) tc)))) false false false w' := by have h := hS; rw [hq 25 (by kernel_rfl), hq 26 (by kernel_rfl), hq 29 (by kernel_rfl)] at h; exact h
      refine wpOp_of rfl rfl ?_
      have y : w'.cell? ⟨g, (at9 + 2) * 3 + 1, none⟩ = some (.int .u64 of9) := by rw [hT.1 rfl]; exact y2
      have HT9 := hide hT
      clear hT hS
      refine op_run (v := .int .u64 of9) (w' := w') ?_ ⟨_, rfl, ?_, (by show ((fun (x y z : Bool) (W : World) => (x = false → W = wq.drew) ∧ (x = true → y = false → W = wq.drew.alloc (.cells #[.string nm, .int .i64 sq, .int .i64 of9] 64)) ∧ (y = true → z = false → W = w5) ∧ (z = true → W = w5.setCell ⟨tb, 3, none⟩ (.slice ta (m + 1) tc)))) _ _ _ _; rw [ul_other l (show 25 ≠ 22 by decide), ul_other l (show 26 ≠ 22 by decide), ul_other l (show 29 ≠ 22 by decide)]; rw [hq 25 (by kernel_rfl), hq 26 (by kernel_rfl), hq 29 (by kernel_rfl)]; exact HT9.out)⟩
      · simp only [execOp, Act.eval, d21, y]; first | (go_simp; done) | rfl
      · try dsimp only
        exact (slots_put (ns := 253) (hsa.size.trans rfl) (by decide))
    | 23, ho, hl, hr, hq =>
      obtain rfl := Option.some.inj ho
      try dsimp only at hd
      have d22 : a'.tmps.getD 132 undef = .int .u64 of9 := hd 22 (by rfl)
      have hT : ((fun (x y z : Bool) (W : World) => (x = false → W = wq.drew) ∧ (x = true → y = false → W = wq.drew.alloc (.cells #[.string nm, .int .i64 sq, .int .i64 of9] 64)) ∧ (y = true → z = false → W = w5) ∧ (z = true → W = w5.setCell ⟨tb, 3, none⟩ (.slice ta (m + 1) tc)))) false false false w' := by have h := hS; rw [hq 25 (by kernel_rfl), hq 26 (by kernel_rfl), hq 29 (by kernel_rfl)] at h; exact h
      refine wpOp_of rfl rfl ?_
      have HT9 := hide hT
      clear hT hS
      refine op_run (v := .int .i64 of9) (w' := w') ?_ ⟨_, rfl, ?_, (by show ((fun (x y z : Bool) (W : World) => (x = false → W = wq.drew) ∧ (x = true → y = false → W = wq.drew.alloc (.cells #[.string nm, .int .i64 sq, .int .i64 of9] 64)) ∧ (y = true → z = false → W = w5) ∧ (z = true → W = w5.setCell ⟨tb, 3, none⟩ (.slice ta (m + 1) tc)))) _ _ _ _; rw [ul_other l (show 25 ≠ 23 by decide), ul_other l (show 26 ≠ 23 by decide), ul_other l (show 29 ≠ 23 by decide)]; rw [hq 25 (by kernel_rfl), hq 26 (by kernel_rfl), hq 29 (by kernel_rfl)]; exact HT9.out)⟩
      · simp only [execOp, Act.eval, d22, w8, x8]; first | (go_simp; done) | rfl
      · try dsimp only
        exact (slots_put (ns := 253) (hsa.size.trans rfl) (by decide))
    | 24, ho, hl, hr, hq =>
      obtain rfl := Option.some.inj ho
      try dsimp only at hd
      have d9 : a'.tmps.getD 119 undef = .string nm := hd 9 (by rfl)
      have d16 : a'.tmps.getD 126 undef = .int .i64 sq := hd 16 (by rfl)
      have d23 : a'.tmps.getD 133 undef = .int .i64 of9 := hd 23 (by rfl)
      have hT : ((fun (x y z : Bool) (W : World) => (x = false → W = wq.drew) ∧ (x = true → y = false → W = wq.drew.alloc (.cells #[.string nm, .int .i64 sq, .int .i64 of9] 64)) ∧ (y = true → z = false → W = w5) ∧ (z = true → W = w5.setCell ⟨tb, 3, none⟩ (.slice ta (m + 1) tc)))) false false false w' := by have h := hS; rw [hq 25 (by kernel_rfl), hq 26 (by kernel_rfl), hq 29 (by kernel_rfl)] at h; exact h
      refine wpOp_of rfl rfl ?_
      have HT9 := hide hT
      clear hT hS
      refine op_run (v := .agg #[.string nm, .int .i64 sq, .int .i64 of9]) (w' := w') ?_ ⟨_, rfl, ?_, (by show ((fun (x y z : Bool) (W : World) => (x = false → W = wq.drew) ∧ (x = true → y = false → W = wq.drew.alloc (.cells #[.string nm, .int .i64 sq, .int .i64 of9] 64)) ∧ (y = true → z = false → W = w5) ∧ (z = true → W = w5.setCell ⟨tb, 3, none⟩ (.slice ta (m + 1) tc)))) _ _ _ _; rw [ul_other l (show 25 ≠ 24 by decide), ul_other l (show 26 ≠ 24 by decide), ul_other l (show 29 ≠ 24 by decide)]; rw [hq 25 (by kernel_rfl), hq 26 (by kernel_rfl), hq 29 (by kernel_rfl)]; exact HT9.out)⟩
      · simp only [execOp, Act.eval, List.map_toArray, List.map_cons, List.map_nil, d9, d16, d23]; first | (go_simp; done) | rfl
      · try dsimp only
        exact (slots_put (ns := 253) (hsa.size.trans rfl) (by decide))
    | 25, ho, hl, hr, hq =>
      obtain rfl := Option.some.inj ho
      try dsimp only at hd
      have d24 : a'.tmps.getD 134 undef = .agg #[.string nm, .int .i64 sq, .int .i64 of9] := hd 24 (by rfl)
      have hT : ((fun (x y z : Bool) (W : World) => (x = false → W = wq.drew) ∧ (x = true → y = false → W = wq.drew.alloc (.cells #[.string nm, .int .i64 sq, .int .i64 of9] 64)) ∧ (y = true → z = false → W = w5) ∧ (z = true → W = w5.setCell ⟨tb, 3, none⟩ (.slice ta (m + 1) tc)))) false false false w' := by have h := hS; rw [hl, hq 26 (by kernel_rfl), hq 29 (by kernel_rfl)] at h; exact h
      refine wpOp_of rfl rfl ?_
      obtain rfl := hT.1 rfl
      refine op_run (v := .slice (some ⟨wq.heap.size, 0, none⟩) 1 1) (w' := wq.drew.alloc (.cells #[.string nm, .int .i64 sq, .int .i64 of9] 64)) ?_ ⟨_, rfl, (slots_put (ns := 253) (hsa.size.trans rfl) (by decide)), (by show ((fun (x y z : Bool) (W : World) => (x = false → W = wq.drew) ∧ (x = true → y = false → W = wq.drew.alloc (.cells #[.string nm, .int .i64 sq, .int .i64 of9] 64)) ∧ (y = true → z = false → W = w5) ∧ (z = true → W = w5.setCell ⟨tb, 3, none⟩ (.slice ta (m + 1) tc)))) _ _ _ _; rw [ul_same, ul_other l (show 26 ≠ 25 by decide), ul_other l (show 29 ≠ 25 by decide)]; rw [hq 26 (by kernel_rfl), hq 29 (by kernel_rfl)]; exact ⟨(fun e => by cases e), (fun _ _ => rfl), (fun e => by cases e), (fun e => by cases e)⟩)⟩
      simp only [execOp, Act.eval, List.map_toArray, List.map_cons, List.map_nil, d24]; first | (go_simp; done) | rfl
    | 26, ho, hl, hr, hq =>
      obtain rfl := Option.some.inj ho
      try dsimp only at hd
      have d4 : a'.tmps.getD 114 undef = .slice po m pc := hd 4 (by rfl)
      have d25 : a'.tmps.getD 135 undef = .slice (some ⟨wq.heap.size, 0, none⟩) 1 1 := hd 25 (by rfl)
      have hT : ((fun (x y z : Bool) (W : World) => (x = false → W = wq.drew) ∧ (x = true → y = false → W = wq.drew.alloc (.cells #[.string nm, .int .i64 sq, .int .i64 of9] 64)) ∧ (y = true → z = false → W = w5) ∧ (z = true → W = w5.setCell ⟨tb, 3, none⟩ (.slice ta (m + 1) tc)))) true false false w' := by have h := hS; rw [hr 25 (by kernel_rfl), hl, hq 29 (by kernel_rfl)] at h; exact h
      refine wpOp_of rfl rfl ?_
      obtain rfl := hT.2.1 rfl rfl
      refine op_run (v := .slice ta (m + 1) tc) (w' := w5) ?_ ⟨_, rfl, (slots_put (ns := 253) (hsa.size.trans rfl) (by decide)), (by show ((fun (x y z : Bool) (W : World) => (x = false → W = wq.drew) ∧ (x = true → y = false → W = wq.drew.alloc (.cells #[.string nm, .int .i64 sq, .int .i64 of9] 64)) ∧ (y = true → z = false → W = w5) ∧ (z = true → W = w5.setCell ⟨tb, 3, none⟩ (.slice ta (m + 1) tc)))) _ _ _ _; rw [ul_other l (show 25 ≠ 26 by decide), ul_same, ul_other l (show 29 ≠ 26 by decide)]; rw [hr 25 (by kernel_rfl), hq 29 (by kernel_rfl)]; exact ⟨(fun e => by cases e), (fun _ e => by cases e), (fun _ _ => rfl), (fun e => by cases e)⟩)⟩
      simp only [execOp, Act.eval, resolve, invoke, builtin, Sem.run_bind, Sem.run_pure, Result.andThen_ok, List.map_toArray, List.map_cons, List.map_nil, HA.out, d4, d25]
    | 27, ho, hl, hr, hq =>
      obtain rfl := Option.some.inj ho
      try dsimp only at hd
      have d0 : a'.tmps.getD 110 undef = .pointer (some ⟨tb, 0, none⟩) := hd 0 (by rfl)
      have hT : ((fun (x y z : Bool) (W : World) => (x = false → W = wq.drew) ∧ (x = true → y = false → W = wq.drew.alloc (.cells #[.string nm, .int .i64 sq, .int .i64 of9] 64)) ∧ (y = true → z = false → W = w5) ∧ (z = true → W = w5.setCell ⟨tb, 3, none⟩ (.slice ta (m + 1) tc)))) (l 25) (l 26) false w' := by have h := hS; rw [hq 29 (by kernel_rfl)] at h; exact h
      refine wpOp_of rfl rfl ?_
      have HT9 := hide hT
      clear hT hS
      refine op_run (v := .pointer (some ⟨tb, 0, none⟩)) (w' := w') ?_ ⟨_, rfl, ?_, (by show ((fun (x y z : Bool) (W : World) => (x = false → W = wq.drew) ∧ (x = true → y = false → W = wq.drew.alloc (.cells #[.string nm, .int .i64 sq, .int .i64 of9] 64)) ∧ (y = true → z = false → W = w5) ∧ (z = true → W = w5.setCell ⟨tb, 3, none⟩ (.slice ta (m + 1) tc)))) _ _ _ _; rw [ul_other l (show 25 ≠ 27 by decide), ul_other l (show 26 ≠ 27 by decide), ul_other l (show 29 ≠ 27 by decide)]; rw [hq 29 (by kernel_rfl)]; exact HT9.out)⟩
      · simp only [execOp, Act.eval, d0]; first | (go_simp; done) | rfl
      · try dsimp only
        exact (slots_put (ns := 253) (hsa.size.trans rfl) (by decide))
    | 28, ho, hl, hr, hq =>
      obtain rfl := Option.some.inj ho
      try dsimp only at hd
      have d27 : a'.tmps.getD 137 undef = .pointer (some ⟨tb, 0, none⟩) := hd 27 (by rfl)
      have hT : ((fun (x y z : Bool) (W : World) => (x = false → W = wq.drew) ∧ (x = true → y = false → W = wq.drew.alloc (.cells #[.string nm, .int .i64 sq, .int .i64 of9] 64)) ∧ (y = true → z = false → W = w5) ∧ (z = true → W = w5.setCell ⟨tb, 3, none⟩ (.slice ta (m + 1) tc)))) (l 25) (l 26) false w' := by have h := hS; rw [hq 29 (by kernel_rfl)] at h; exact h
      refine wpOp_of rfl rfl ?_
      have HT9 := hide hT
      clear hT hS
      refine op_run (v := .pointer (some ⟨tb, 3, none⟩)) (w' := w') ?_ ⟨_, rfl, ?_, (by show ((fun (x y z : Bool) (W : World) => (x = false → W = wq.drew) ∧ (x = true → y = false → W = wq.drew.alloc (.cells #[.string nm, .int .i64 sq, .int .i64 of9] 64)) ∧ (y = true → z = false → W = w5) ∧ (z = true → W = w5.setCell ⟨tb, 3, none⟩ (.slice ta (m + 1) tc)))) _ _ _ _; rw [ul_other l (show 25 ≠ 28 by decide), ul_other l (show 26 ≠ 28 by decide), ul_other l (show 29 ≠ 28 by decide)]; rw [hq 29 (by kernel_rfl)]; exact HT9.out)⟩
      · simp only [execOp, Act.eval, d27]; first | (go_simp; done) | rfl
      · try dsimp only
        exact (slots_put (ns := 253) (hsa.size.trans rfl) (by decide))
    | 29, ho, hl, hr, hq =>
      obtain rfl := Option.some.inj ho
      try dsimp only at hd
      have d26 : a'.tmps.getD 136 undef = .slice ta (m + 1) tc := hd 26 (by rfl)
      have d28 : a'.tmps.getD 138 undef = .pointer (some ⟨tb, 3, none⟩) := hd 28 (by rfl)
      have hT : ((fun (x y z : Bool) (W : World) => (x = false → W = wq.drew) ∧ (x = true → y = false → W = wq.drew.alloc (.cells #[.string nm, .int .i64 sq, .int .i64 of9] 64)) ∧ (y = true → z = false → W = w5) ∧ (z = true → W = w5.setCell ⟨tb, 3, none⟩ (.slice ta (m + 1) tc)))) true true false w' := by have h := hS; rw [hr 25 (by kernel_rfl), hr 26 (by kernel_rfl), hl] at h; exact h
      refine wpOp_of rfl rfl ?_
      have hw9 := hT.2.2.1 rfl rfl
      subst w'
      refine op_skip (w' := w5.setCell ⟨tb, 3, none⟩ (.slice ta (m + 1) tc)) ?_ ⟨undef, rfl, trivial, (by show ((fun (x y z : Bool) (W : World) => (x = false → W = wq.drew) ∧ (x = true → y = false → W = wq.drew.alloc (.cells #[.string nm, .int .i64 sq, .int .i64 of9] 64)) ∧ (y = true → z = false → W = w5) ∧ (z = true → W = w5.setCell ⟨tb, 3, none⟩ (.slice ta (m + 1) tc)))) _ _ _ _; rw [ul_other l (show 25 ≠ 29 by decide), ul_other l (show 26 ≠ 29 by decide), ul_same]; rw [hr 25 (by kernel_rfl), hr 26 (by kernel_rfl)]; exact ⟨(fun e => by cases e), (fun _ e => by cases e), (fun _ e => by cases e), (fun _ => rfl)⟩)⟩
      simp only [execOp, Act.eval, d26, d28]; first | (go_simp; done) | rfl
    | (n + 30), ho, _, _, _ => exact absurd ho (by simp)
  case pdone =>
    intro a' w' l hl hsa hS hd
    have hT : ((fun (x y z : Bool) (W : World) => (x = false → W = wq.drew) ∧ (x = true → y = false → W = wq.drew.alloc (.cells #[.string nm, .int .i64 sq, .int .i64 of9] 64)) ∧ (y = true → z = false → W = w5) ∧ (z = true → W = w5.setCell ⟨tb, 3, none⟩ (.slice ta (m + 1) tc)))) true true true w' := by have h := hS; rw [hl 25 (by decide), hl 26 (by decide), hl 29 (by decide)] at h; exact h
    rw [hT.2.2.2 rfl]
    exact HQ.out a' ⟨hsa.size.trans rfl, hsa.defers.trans rfl, hsa.rest 0 (by rfl), hsa.rest 1 (by rfl), hsa.rest 4 (by rfl), hsa.rest 5 (by rfl), hsa.rest 6 (by rfl), hsa.rest 7 (by rfl), hsa.rest 8 (by rfl), hsa.rest 9 (by rfl), hsa.rest 10 (by rfl), hsa.rest 11 (by rfl), hsa.rest 12 (by rfl)⟩
theorem xo_r21 {K : Act → World → Prop} {c : Code} (hc : regOf (Tryz.f53.body.getD .skip) 21 = some c) (a : Act) {v : Vxo} {wq : World} {rb : Nat} {of9 sq : Int} {pd ky vl : ByteArray} {tb m pc tc : Nat} {po ta : Option Addr} {w5 : World} (hF : Fxo a v) (h7v : v.v7 = .pointer (some ⟨tb, 0, none⟩)) (h11v : v.v11 = .pointer (some ⟨rb, 0, none⟩)) (hB : wq.heap[rb]? = some (.cells #[.int .i64 of9, .string pd, .int .i64 sq, .string ky, .string vl] 39 (0, 0))) (c1 : wq.cell? ⟨tb, 4, none⟩ = some (.slice po m pc)) (hr : (Builtin.append_ #[35, 35] 35 #[.slice po m pc, .slice (some ⟨wq.heap.size, 0, none⟩) 1 1]).run Tryz.prog (wq.drew.alloc (.cells #[.int .i64 of9, .string pd, .int .i64 sq, .string ky, .string vl] 39)) = .ok (.slice ta (m + 1) tc) w5) (c3 : ∃ v, w5.cell? ⟨tb, 4, none⟩ = some v) (f3 : w5.frozen? ⟨tb, 4, none⟩ = false)
    (hQ : ∀ a', Fxo a' v → K a' (w5.setCell ⟨tb, 4, none⟩ (.slice ta (m + 1) tc))) :
    Code.wp Tryz.prog c (Exit.then K fun _ _ _ => False) a wq := by
  have HQ := hide hQ
  clear hQ
  obtain ⟨v0, v1, v4, v5, v6, v7, v8, v9, v10, v11, v12⟩ := v
  simp only at h7v h11v HQ
  subst h7v h11v
  obtain ⟨u, rfl⟩ := frx_xo hF
  clear hF
  simp only [Tryz.f53, Option.getD_some, regOf] at hc
  injection hc with hc
  subst hc
  have HA := hide hr
  clear hr
  obtain ⟨v3, c3⟩ := c3
  have z0 := box_cell hB 0 rfl
  have z1 := box_cell hB 1 rfl
  have z2 := box_cell hB 2 rfl
  have z3 := box_cell hB 3 rfl
  have z4 := box_cell hB 4 rfl
  clear hB
  refine wp_region_any rfl ?_
  refine wpAny_staged (ns := 253) (uses := (fun i => match i with | 0 => [240] | 1 => [241] | 2 => [242] | 3 => [243] | 4 => [244] | 5 => [245] | 6 => [246] | 7 => [247] | 8 => [248] | 9 => [249] | _ => [])) (by kernel_rfl) (by kernel_rfl) (fun l a w => ((fun (x y z : Bool) (W : World) => (x = false → W = wq.drew) ∧ (x = true → y = false → W = wq.drew.alloc (.cells #[.int .i64 of9, .string pd, .int .i64 sq, .string ky, .string vl] 39)) ∧ (y = true → z = false → W = w5) ∧ (z = true → W = w5.setCell ⟨tb, 4, none⟩ (.slice ta (m + 1) tc)))) (l 6) (l 7) (l 10) w) ⟨(fun _ => rfl), (fun e => by cases e), (fun e => by cases e), (fun e => by cases e)⟩ (fun i => match i with | 0 => fun σ => σ 240 = .pointer (some ⟨tb, 0, none⟩) | 1 => fun σ => σ 241 = .pointer (some ⟨tb, 0, none⟩) | 2 => fun σ => σ 242 = .pointer (some ⟨tb, 0, none⟩) | 3 => fun σ => σ 243 = .pointer (some ⟨tb, 4, none⟩) | 4 => fun σ => σ 244 = .slice po m pc | 5 => fun σ => σ 245 = .agg #[.int .i64 of9, .string pd, .int .i64 sq, .string ky, .string vl] | 6 => fun σ => σ 246 = .slice (some ⟨wq.heap.size, 0, none⟩) 1 1 | 7 => fun σ => σ 247 = .slice ta (m + 1) tc | 8 => fun σ => σ 248 = .pointer (some ⟨tb, 0, none⟩) | 9 => fun σ => σ 249 = .pointer (some ⟨tb, 4, none⟩) | 10 => fun _ => True | _ => fun _ => True) ?phc ?pstep ?pdone
  case phc =>
    intro i s s' hx h
    rcases i with _ | i; · exact (hx _ (List.mem_singleton.2 rfl)).symm.trans h
    rcases i with _ | i; · exact (hx _ (List.mem_singleton.2 rfl)).symm.trans h
    rcases i with _ | i; · exact (hx _ (List.mem_singleton.2 rfl)).symm.trans h
    rcases i with _ | i; · exact (hx _ (List.mem_singleton.2 rfl)).symm.trans h
    rcases i with _ | i; · exact (hx _ (List.mem_singleton.2 rfl)).symm.trans h
    rcases i with _ | i; · exact (hx _ (List.mem_singleton.2 rfl)).symm.trans h
    rcases i with _ | i; · exact (hx _ (List.mem_singleton.2 rfl)).symm.trans h
    rcases i with _ | i; · exact (hx _ (List.mem_singleton.2 rfl)).symm.trans h
    rcases i with _ | i; · exact (hx _ (List.mem_singleton.2 rfl)).symm.trans h
    rcases i with _ | i; · exact (hx _ (List.mem_singleton.2 rfl)).symm.trans h
    rcases i with _ | i; · exact h
    exact h
  case pstep =>
    intro i o ho a' w' l hl hr hq hsa hS hd
    match i, ho, hl, hr, hq with
    | 0, ho, hl, hr, hq =>
      obtain rfl := Option.some.inj ho
      try dsimp only at hd
      have g7 : a'.tmps.getD 7 undef = .pointer (some ⟨tb, 0, none⟩) := hsa.rest 7 (by rfl)
      have hT : ((fun (x y z : Bool) (W : World) => (x = false → W = wq.drew) ∧ (x = true → y = false → W = wq.drew.alloc (.cells #[.int .i64 of9, .string pd, .int .i64 sq, .string ky, .string vl] 39)) ∧ (y = true → z = false → W = w5) ∧ (z = true → W = w5.setCell ⟨tb, 4, none⟩ (.slice ta (m + 1) tc)))) (l 6) (l 7) false w' := by have h := hS; rw [hq 10 (by kernel_rfl)] at h; exact h
      refine wpOp_of rfl rfl ?_
      have HT9 := hide hT
      clear hT hS
      refine op_run (v := .pointer (some ⟨tb, 0, none⟩)) (w' := w') ?_ ⟨_, rfl, ?_, (by show ((fun (x y z : Bool) (W : World) => (x = false → W = wq.drew) ∧ (x = true → y = false → W = wq.drew.alloc (.cells #[.int .i64 of9, .string pd, .int .i64 sq, .string ky, .string vl] 39)) ∧ (y = true → z = false → W = w5) ∧ (z = true → W = w5.setCell ⟨tb, 4, none⟩ (.slice ta (m + 1) tc)))) _ _ _ _; rw [ul_other l (show 6 ≠ 0 by decide), ul_other l (show 7 ≠ 0 by decide), ul_other l (show 10 ≠ 0 by decide)]; rw [hq 10 (by kernel_rfl)]; exact HT9.out)⟩
      · simp only [execOp, Act.eval, g7]; first | (go_simp; done) | rfl
      · try dsimp only
        exact (slots_put (ns := 253) (hsa.size.trans rfl) (by decide))
    | 1, ho, hl, hr, hq =>
      obtain rfl := Option.some.inj ho
      try dsimp only at hd
      have g7 : a'.tmps.getD 7 undef = .pointer (some ⟨tb, 0, none⟩) := hsa.rest 7 (by rfl)
      have hT : ((fun (x y z : Bool) (W : World) => (x = false → W = wq.drew) ∧ (x = true → y = false → W = wq.drew.alloc (.cells #[.int .i64 of9, .string pd, .int .i64 sq, .string ky, .string vl] 39)) ∧ (y = true → z = false → W = w5) ∧ (z = true → W = w5.setCell ⟨tb, 4, none⟩ (.slice ta (m + 1) tc)))) (l 6) false false w' := by have h := hS; rw [hq 7 (by kernel_rfl), hq 10 (by kernel_rfl)] at h; exact h
      refine wpOp_of rfl rfl ?_
      have HT9 := hide hT
      clear hT hS
      refine op_run (v := .pointer (some ⟨tb, 0, none⟩)) (w' := w') ?_ ⟨_, rfl, ?_, (by show ((fun (x y z : Bool) (W : World) => (x = false → W = wq.drew) ∧ (x = true → y = false → W = wq.drew.alloc (.cells #[.int .i64 of9, .string pd, .int .i64 sq, .string ky, .string vl] 39)) ∧ (y = true → z = false → W = w5) ∧ (z = true → W = w5.setCell ⟨tb, 4, none⟩ (.slice ta (m + 1) tc)))) _ _ _ _; rw [ul_other l (show 6 ≠ 1 by decide), ul_other l (show 7 ≠ 1 by decide), ul_other l (show 10 ≠ 1 by decide)]; rw [hq 7 (by kernel_rfl), hq 10 (by kernel_rfl)]; exact HT9.out)⟩
      · simp only [execOp, Act.eval, g7]; first | (go_simp; done) | rfl
      · try dsimp only
        exact (slots_put (ns := 253) (hsa.size.trans rfl) (by decide))
    | 2, ho, hl, hr, hq =>
      obtain rfl := Option.some.inj ho
      try dsimp only at hd
      have d1 : a'.tmps.getD 241 undef = .pointer (some ⟨tb, 0, none⟩) := hd 1 (by rfl)
      have hT : ((fun (x y z : Bool) (W : World) => (x = false → W = wq.drew) ∧ (x = true → y = false → W = wq.drew.alloc (.cells #[.int .i64 of9, .string pd, .int .i64 sq, .string ky, .string vl] 39)) ∧ (y = true → z = false → W = w5) ∧ (z = true → W = w5.setCell ⟨tb, 4, none⟩ (.slice ta (m + 1) tc)))) (l 6) false false w' := by have h := hS; rw [hq 7 (by kernel_rfl), hq 10 (by kernel_rfl)] at h; exact h
      refine wpOp_of rfl rfl ?_
      have HT9 := hide hT
      clear hT hS
      refine op_run (v := .pointer (some ⟨tb, 0, none⟩)) (w' := w') ?_ ⟨_, rfl, ?_, (by show ((fun (x y z : Bool) (W : World) => (x = false → W = wq.drew) ∧ (x = true → y = false → W = wq.drew.alloc (.cells #[.int .i64 of9, .string pd, .int .i64 sq, .string ky, .string vl] 39)) ∧ (y = true → z = false → W = w5) ∧ (z = true → W = w5.setCell ⟨tb, 4, none⟩ (.slice ta (m + 1) tc)))) _ _ _ _; rw [ul_other l (show 6 ≠ 2 by decide), ul_other l (show 7 ≠ 2 by decide), ul_other l (show 10 ≠ 2 by decide)]; rw [hq 7 (by kernel_rfl), hq 10 (by kernel_rfl)]; exact HT9.out)⟩
      · simp only [execOp, Act.eval, d1]; first | (go_simp; done) | rfl
      · try dsimp only
        exact (slots_put (ns := 253) (hsa.size.trans rfl) (by decide))
    | 3, ho, hl, hr, hq =>
      obtain rfl := Option.some.inj ho
      try dsimp only at hd
      have d2 : a'.tmps.getD 242 undef = .pointer (some ⟨tb, 0, none⟩) := hd 2 (by rfl)
      have hT : ((fun (x y z : Bool) (W : World) => (x = false → W = wq.drew) ∧ (x = true → y = false → W = wq.drew.alloc (.cells #[.int .i64 of9, .string pd, .int .i64 sq, .string ky, .string vl] 39)) ∧ (y = true → z = false → W = w5) ∧ (z = true → W = w5.setCell ⟨tb, 4, none⟩ (.slice ta (m + 1) tc)))) (l 6) false false w' := by have h := hS; rw [hq 7 (by kernel_rfl), hq 10 (by kernel_rfl)] at h; exact h
      refine wpOp_of rfl rfl ?_
      have HT9 := hide hT
      clear hT hS
      refine op_run (v := .pointer (some ⟨tb, 4, none⟩)) (w' := w') ?_ ⟨_, rfl, ?_, (by show ((fun (x y z : Bool) (W : World) => (x = false → W = wq.drew) ∧ (x = true → y = false → W = wq.drew.alloc (.cells #[.int .i64 of9, .string pd, .int .i64 sq, .string ky, .string vl] 39)) ∧ (y = true → z = false → W = w5) ∧ (z = true → W = w5.setCell ⟨tb, 4, none⟩ (.slice ta (m + 1) tc)))) _ _ _ _; rw [ul_other l (show 6 ≠ 3 by decide), ul_other l (show 7 ≠ 3 by decide), ul_other l (show 10 ≠ 3 by decide)]; rw [hq 7 (by kernel_rfl), hq 10 (by kernel_rfl)]; exact HT9.out)⟩
      · simp only [execOp, Act.eval, d2]; first | (go_simp; done) | rfl
      · try dsimp only
        exact (slots_put (ns := 253) (hsa.size.trans rfl) (by decide))
    | 4, ho, hl, hr, hq =>
      obtain rfl := Option.some.inj ho
      try dsimp only at hd
      have d3 : a'.tmps.getD 243 undef = .pointer (some ⟨tb, 4, none⟩) := hd 3 (by rfl)
      have hT : ((fun (x y z : Bool) (W : World) => (x = false → W = wq.drew) ∧ (x = true → y = false → W = wq.drew.alloc (.cells #[.int .i64 of9, .string pd, .int .i64 sq, .string ky, .string vl] 39)) ∧ (y = true → z = false → W = w5) ∧ (z = true → W = w5.setCell ⟨tb, 4, none⟩ (.slice ta (m + 1) tc)))) (l 6) false false w' := by have h := hS; rw [hq 7 (by kernel_rfl), hq 10 (by kernel_rfl)] at h; exact h
      refine wpOp_of rfl rfl ?_
      have y : w'.cell? ⟨tb, 4, none⟩ = some (.slice po m pc) := by
        cases hb13 : l 6 with
        | false => rw [hb13] at hT; rw [hT.1 rfl]; exact c1
        | true => rw [hb13] at hT; rw [hT.2.1 rfl rfl]; exact Lib.cell?_alloc_some _ c1
      have HT9 := hide hT
      clear hT hS
      refine op_run (v := .slice po m pc) (w' := w') ?_ ⟨_, rfl, ?_, (by show ((fun (x y z : Bool) (W : World) => (x = false → W = wq.drew) ∧ (x = true → y = false → W = wq.drew.alloc (.cells #[.int .i64 of9, .string pd, .int .i64 sq, .string ky, .string vl] 39)) ∧ (y = true → z = false → W = w5) ∧ (z = true → W = w5.setCell ⟨tb, 4, none⟩ (.slice ta (m + 1) tc)))) _ _ _ _; rw [ul_other l (show 6 ≠ 4 by decide), ul_other l (show 7 ≠ 4 by decide), ul_other l (show 10 ≠ 4 by decide)]; rw [hq 7 (by kernel_rfl), hq 10 (by kernel_rfl)]; exact HT9.out)⟩
      · simp only [execOp, Act.eval, d3, y]; first | (go_simp; done) | rfl
      · try dsimp only
        exact (slots_put (ns := 253) (hsa.size.trans rfl) (by decide))
    | 5, ho, hl, hr, hq =>
      obtain rfl := Option.some.inj ho
      try dsimp only at hd
      have g11 : a'.tmps.getD 11 undef = .pointer (some ⟨rb, 0, none⟩) := hsa.rest 11 (by rfl)
      have hT : ((fun (x y z : Bool) (W : World) => (x = false → W = wq.drew) ∧ (x = true → y = false → W = wq.drew.alloc (.cells #[.int .i64 of9, .string pd, .int .i64 sq, .string ky, .string vl] 39)) ∧ (y = true → z = false → W = w5) ∧ (z = true → W = w5.setCell ⟨tb, 4, none⟩ (.slice ta (m + 1) tc)))) false false false w' := by have h := hS; rw [hq 6 (by kernel_rfl), hq 7 (by kernel_rfl), hq 10 (by kernel_rfl)] at h; exact h
      refine wpOp_of rfl rfl ?_
      have x0 : w'.cell? ⟨rb, 0, none⟩ = some (.int .i64 of9) := by rw [hT.1 rfl]; exact z0
      have x1 : w'.cell? ⟨rb, 1, none⟩ = some (.string pd) := by rw [hT.1 rfl]; exact z1
      have x2 : w'.cell? ⟨rb, 2, none⟩ = some (.int .i64 sq) := by rw [hT.1 rfl]; exact z2
      have x3 : w'.cell? ⟨rb, 3, none⟩ = some (.string ky) := by rw [hT.1 rfl]; exact z3
      have x4 : w'.cell? ⟨rb, 4, none⟩ = some (.string vl) := by rw [hT.1 rfl]; exact z4
      have HT9 := hide hT
      clear hT hS
      refine op_run (v := .agg #[.int .i64 of9, .string pd, .int .i64 sq, .string ky, .string vl]) (w' := w') ?_ ⟨_, rfl, ?_, (by show ((fun (x y z : Bool) (W : World) => (x = false → W = wq.drew) ∧ (x = true → y = false → W = wq.drew.alloc (.cells #[.int .i64 of9, .string pd, .int .i64 sq, .string ky, .string vl] 39)) ∧ (y = true → z = false → W = w5) ∧ (z = true → W = w5.setCell ⟨tb, 4, none⟩ (.slice ta (m + 1) tc)))) _ _ _ _; rw [ul_other l (show 6 ≠ 5 by decide), ul_other l (show 7 ≠ 5 by decide), ul_other l (show 10 ≠ 5 by decide)]; rw [hq 6 (by kernel_rfl), hq 7 (by kernel_rfl), hq 10 (by kernel_rfl)]; exact HT9.out)⟩
      · simp only [execOp, Act.eval, g11, x0, x1, x2, x3, x4]; first | (go_simp; done) | rfl
      · try dsimp only
        exact (slots_put (ns := 253) (hsa.size.trans rfl) (by decide))
    | 6, ho, hl, hr, hq =>
      obtain rfl := Option.some.inj ho
      try dsimp only at hd
      have d5 : a'.tmps.getD 245 undef = .agg #[.int .i64 of9, .string pd, .int .i64 sq, .string ky, .string vl] := hd 5 (by rfl)
      have hT : ((fun (x y z : Bool) (W : World) => (x = false → W = wq.drew) ∧ (x = true → y = false → W = wq.drew.alloc (.cells #[.int .i64 of9, .string pd, .int .i64 sq, .string ky, .string vl] 39)) ∧ (y = true → z = false → W = w5) ∧ (z = true → W = w5.setCell ⟨tb, 4, none⟩ (.slice ta (m + 1) tc)))) false false false w' := by have h := hS; rw [hl, hq 7 (by kernel_rfl), hq 10 (by kernel_rfl)] at h; exact h
      refine wpOp_of rfl rfl ?_
      obtain rfl := hT.1 rfl
      refine op_run (v := .slice (some ⟨wq.heap.size, 0, none⟩) 1 1) (w' := wq.drew.alloc (.cells #[.int .i64 of9, .string pd, .int .i64 sq, .string ky, .string vl] 39)) ?_ ⟨_, rfl, (slots_put (ns := 253) (hsa.size.trans rfl) (by decide)), (by show ((fun (x y z : Bool) (W : World) => (x = false → W = wq.drew) ∧ (x = true → y = false → W = wq.drew.alloc (.cells #[.int .i64 of9, .string pd, .int .i64 sq, .string ky, .string vl] 39)) ∧ (y = true → z = false → W = w5) ∧ (z = true → W = w5.setCell ⟨tb, 4, none⟩ (.slice ta (m + 1) tc)))) _ _ _ _; rw [ul_same, ul_other l (show 7 ≠ 6 by decide), ul_other l (show 10 ≠ 6 by decide)]; rw [hq 7 (by kernel_rfl), hq 10 (by kernel_rfl)]; exact ⟨(fun e => by cases e), (fun _ _ => rfl), (fun e => by cases e), (fun e => by cases e)⟩)⟩
      simp only [execOp, Act.eval, List.map_toArray, List.map_cons, List.map_nil, d5]; first | (go_simp; done) | rfl
    | 7, ho, hl, hr, hq =>
      obtain rfl := Option.some.inj ho
      try dsimp only at hd
      have d4 : a'.tmps.getD 244 undef = .slice po m pc := hd 4 (by rfl)
      have d6 : a'.tmps.getD 246 undef = .slice (some ⟨wq.heap.size, 0, none⟩) 1 1 := hd 6 (by rfl)
      have hT : ((fun (x y z : Bool) (W : World) => (x = false → W = wq.drew) ∧ (x = true → y = false → W = wq.drew.alloc (.cells #[.int .i64 of9, .string pd, .int .i64 sq, .string ky, .string vl] 39)) ∧ (y = true → z = false → W = w5) ∧ (z = true → W = w5.setCell ⟨tb, 4, none⟩ (.slice ta (m + 1) tc)))) true false false w' := by have h := hS; rw [hr 6 (by kernel_rfl), hl, hq 10 (by kernel_rfl)] at h; exact h
      refine wpOp_of rfl rfl ?_
      obtain rfl := hT.2.1 rfl rfl
      refine op_run (v := .slice ta (m + 1) tc) (w' := w5) ?_ ⟨_, rfl, (slots_put (ns := 253) (hsa.size.trans rfl) (by decide)), (by show ((fun (x y z : Bool) (W : World) => (x = false → W = wq.drew) ∧ (x = true → y = false → W = wq.drew.alloc (.cells #[.int .i64 of9, .string pd, .int .i64 sq, .string ky, .string vl] 39)) ∧ (y = true → z = false → W = w5) ∧ (z = true → W = w5.setCell ⟨tb, 4, none⟩ (.slice ta (m + 1) tc)))) _ _ _ _; rw [ul_other l (show 6 ≠ 7 by decide), ul_same, ul_other l (show 10 ≠ 7 by decide)]; rw [hr 6 (by kernel_rfl), hq 10 (by kernel_rfl)]; exact ⟨(fun e => by cases e), (fun _ e => by cases e), (fun _ _ => rfl), (fun e => by cases e)⟩)⟩
      simp only [execOp, Act.eval, resolve, invoke, builtin, Sem.run_bind, Sem.run_pure, Result.andThen_ok, List.map_toArray, List.map_cons, List.map_nil, HA.out, d4, d6]
    | 8, ho, hl, hr, hq =>
      obtain rfl := Option.some.inj ho
      try dsimp only at hd
      have d0 : a'.tmps.getD 240 undef = .pointer (some ⟨tb, 0, none⟩) := hd 0 (by rfl)
      have hT : ((fun (x y z : Bool) (W : World) => (x = false → W = wq.drew) ∧ (x = true → y = false → W = wq.drew.alloc (.cells #[.int .i64 of9, .string pd, .int .i64 sq, .string ky, .string vl] 39)) ∧ (y = true → z = false → W = w5) ∧ (z = true → W = w5.setCell ⟨tb, 4, none⟩ (.slice ta (m + 1) tc)))) (l 6) (l 7) false w' := by have h := hS; rw [hq 10 (by kernel_rfl)] at h; exact h
      refine wpOp_of rfl rfl ?_
      have HT9 := hide hT
      clear hT hS
      refine op_run (v := .pointer (some ⟨tb, 0, none⟩)) (w' := w') ?_ ⟨_, rfl, ?_, (by show ((fun (x y z : Bool) (W : World) => (x = false → W = wq.drew) ∧ (x = true → y = false → W = wq.drew.alloc (.cells #[.int .i64 of9, .string pd, .int .i64 sq, .string ky, .string vl] 39)) ∧ (y = true → z = false → W = w5) ∧ (z = true → W = w5.setCell ⟨tb, 4, none⟩ (.slice ta (m + 1) tc)))) _ _ _ _; rw [ul_other l (show 6 ≠ 8 by decide), ul_other l (show 7 ≠ 8 by decide), ul_other l (show 10 ≠ 8 by decide)]; rw [hq 10 (by kernel_rfl)]; exact HT9.out)⟩
      · simp only [execOp, Act.eval, d0]; first | (go_simp; done) | rfl
      · try dsimp only
        exact (slots_put (ns := 253) (hsa.size.trans rfl) (by decide))
    | 9, ho, hl, hr, hq =>
      obtain rfl := Option.some.inj ho
      try dsimp only at hd
      have d8 : a'.tmps.getD 248 undef = .pointer (some ⟨tb, 0, none⟩) := hd 8 (by rfl)
      have hT : ((fun (x y z : Bool) (W : World) => (x = false → W = wq.drew) ∧ (x = true → y = false → W = wq.drew.alloc (.cells #[.int .i64 of9, .string pd, .int .i64 sq, .string ky, .string vl] 39)) ∧ (y = true → z = false → W = w5) ∧ (z = true → W = w5.setCell ⟨tb, 4, none⟩ (.slice ta (m + 1) tc)))) (l 6) (l 7) false w' := by have h := hS; rw [hq 10 (by kernel_rfl)] at h; exact h
      refine wpOp_of rfl rfl ?_
      have HT9 := hide hT
      clear hT hS
      refine op_run (v := .pointer (some ⟨tb, 4, none⟩)) (w' := w') ?_ ⟨_, rfl, ?_, (by show ((fun (x y z : Bool) (W : World) => (x = false → W = wq.drew) ∧ (x = true → y = false → W = wq.drew.alloc (.cells #[.int .i64 of9, .string pd, .int .i64 sq, .string ky, .string vl] 39)) ∧ (y = true → z = false → W = w5) ∧ (z = true → W = w5.setCell ⟨tb, 4, none⟩ (.slice ta (m + 1) tc)))) _ _ _ _; rw [ul_other l (show 6 ≠ 9 by decide), ul_other l (show 7 ≠ 9 by decide), ul_other l (show 10 ≠ 9 by decide)]; rw [hq 10 (by kernel_rfl)]; exact HT9.out)⟩
      · simp only [execOp, Act.eval, d8]; first | (go_simp; done) | rfl
      · try dsimp only
        exact (slots_put (ns := 253) (hsa.size.trans rfl) (by decide))
    | 10, ho, hl, hr, hq =>
      obtain rfl := Option.some.inj ho
      try dsimp only at hd
      have d7 : a'.tmps.getD 247 undef = .slice ta (m + 1) tc := hd 7 (by rfl)
      have d9 : a'.tmps.getD 249 undef = .pointer (some ⟨tb, 4, none⟩) := hd 9 (by rfl)
      have hT : ((fun (x y z : Bool) (W : World) => (x = false → W = wq.drew) ∧ (x = true → y = false → W = wq.drew.alloc (.cells #[.int .i64 of9, .string pd, .int .i64 sq, .string ky, .string vl] 39)) ∧ (y = true → z = false → W = w5) ∧ (z = true → W = w5.setCell ⟨tb, 4, none⟩ (.slice ta (m + 1) tc)))) true true false w' := by have h := hS; rw [hr 6 (by kernel_rfl), hr 7 (by kernel_rfl), hl] at h; exact h
      refine wpOp_of rfl rfl ?_
      have hw9 := hT.2.2.1 rfl rfl
      subst w'
      refine op_skip (w' := w5.setCell ⟨tb, 4, none⟩ (.slice ta (m + 1) tc)) ?_ ⟨undef, rfl, trivial, (by show ((fun (x y z : Bool) (W : World) => (x = false → W = wq.drew) ∧ (x = true → y = false → W = wq.drew.alloc (.cells #[.int .i64 of9, .string pd, .int .i64 sq, .string ky, .string vl] 39)) ∧ (y = true → z = false → W = w5) ∧ (z = true → W = w5.setCell ⟨tb, 4, none⟩ (.slice ta (m + 1) tc)))) _ _ _ _; rw [ul_other l (show 6 ≠ 10 by decide), ul_other l (show 7 ≠ 10 by decide), ul_same]; rw [hr 6 (by kernel_rfl), hr 7 (by kernel_rfl)]; exact ⟨(fun e => by cases e), (fun _ e => by cases e), (fun _ e => by cases e), (fun _ => rfl)⟩)⟩
      simp only [execOp, Act.eval, d7, d9]; first | (go_simp; done) | rfl
    | (n + 11), ho, _, _, _ => exact absurd ho (by simp)
  case pdone =>
    intro a' w' l hl hsa hS hd
    have hT : ((fun (x y z : Bool) (W : World) => (x = false → W = wq.drew) ∧ (x = true → y = false → W = wq.drew.alloc (.cells #[.int .i64 of9, .string pd, .int .i64 sq, .string ky, .string vl] 39)) ∧ (y = true → z = false → W = w5) ∧ (z = true → W = w5.setCell ⟨tb, 4, none⟩ (.slice ta (m + 1) tc)))) true true true w' := by have h := hS; rw [hl 6 (by decide), hl 7 (by decide), hl 10 (by decide)] at h; exact h
    rw [hT.2.2.2 rfl]
    exact HQ.out a' ⟨hsa.size.trans rfl, hsa.defers.trans rfl, hsa.rest 0 (by rfl), hsa.rest 1 (by rfl), hsa.rest 4 (by rfl), hsa.rest 5 (by rfl), hsa.rest 6 (by rfl), hsa.rest 7 (by rfl), hsa.rest 8 (by rfl), hsa.rest 9 (by rfl), hsa.rest 10 (by rfl), hsa.rest 11 (by rfl), hsa.rest 12 (by rfl)⟩
end Go.Proofs.YtfoomgdlbkjaeaaGreat.Y
