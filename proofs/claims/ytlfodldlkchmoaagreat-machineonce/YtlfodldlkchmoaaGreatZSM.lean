/-
  poll's last region (mksl.py).
-/
import Derived.Test.YtlfodldlkchmoaaGreatZSL
namespace Go.Proofs.YtlfodldlkchmoaaGreat.Y
open Go.RowKit
set_option maxHeartbeats 8000000
set_option maxRecDepth 100000
attribute [local go_sem ↓] Go.wp_at_zero Go.wp_at_succ
set_option linter.unusedSimpArgs false
set_option linter.unusedVariables false
def BWP (rb : Nat) (w w' : World) : Prop := Touch (fun j => j = rb) w w' ∧ ∃ y0 y1 y2 y3, w'.heap[rb]? = some (.cells #[y0, y1, y2, y3] 190 (0, 0))
def RelP (rb ix : Nat) (w w' : World) : Prop := (ix ≠ 11 ∧ Below w.heap.size w w') ∨ (ix = 11 ∧ Touch (fun j => j = rb) w w' ∧ ∃ y0 y1 y2 y3, w'.heap[rb]? = some (.cells #[y0, y1, y2, y3] 190 (0, 0)))
theorem relP_other {rb ix : Nat} {w w' : World} (h : ix ≠ 11) (r : RelP rb ix w w') : Below w.heap.size w w' := by
  rcases r with r | r
  · exact r.2
  · exact absurd r.1 h
theorem bwp_rel {rb ix : Nat} {wq w w' : World} (h : BWP rb wq w) (r : RelP rb ix w w') : BWP rb wq w' := by
  rcases r with ⟨_, r⟩ | ⟨_, r, q⟩
  · obtain ⟨h1, y0, y1, y2, y3, h2⟩ := h
    exact ⟨h1.below r, y0, y1, y2, y3, Below.at r h2⟩
  · exact ⟨h.1.andThen r fun _ _ e => e, q⟩
theorem set4_touch {w : World} {b : Nat} (x0 x1 : Value) {x2 x3 : Value} : Touch (fun j => j = b) w (set4 w b x0 x1 x2 x3) :=
  ((((Touch.refl (fun j => j = b) w).setCell ⟨b, 0, none⟩ _ fun _ => rfl).setCell ⟨b, 1, none⟩ _ fun _ => rfl).setCell ⟨b, 2, none⟩ _ fun _ => rfl).setCell ⟨b, 3, none⟩ _ fun _ => rfl
theorem pl_r6 {K : Act → World → Prop} {c : Code} (hc : regOf (Tryz.f135.body.getD .skip) 6 = some c) (a : Act) {v : Vpl} {wq : World} {sb rb g of k cp : Nat} {xn xt : ByteArray} {xc xx lo : Int} (hF : Fpl a v) (h3v : v.v3 = .pointer (some ⟨sb, 0, none⟩)) (h6v : v.v6 = .pointer (some ⟨rb, 0, none⟩)) (h9v : v.v9 = .slice (some ⟨g, of, none⟩) (k + 1) cp) (hS : wq.heap[sb]? = some (.cells #[.string xn, .string xt, .int .i64 xc, .int .i64 xx] 190 (0, 0))) (hR : wq.heap[rb]? = some (.cells #[.string ⟨#[]⟩, .string ⟨#[]⟩, .int .i64 0, .int .i64 0] 190 (0, 0))) (hn1 : sb ≠ rb) (hn2 : g ≠ rb) (hg : g < wq.heap.size) (hc1 : wq.cell? ⟨g, of + k * 5, none⟩ = some (.int .i64 lo)) (hk : k ≤ 1048576) (l1 : 0 ≤ lo) (l2 : lo ≤ 100000000000000000)
    (hQ : ∀ a' w1, Fpl a' { v with v7 := .slice (some ⟨g, of, none⟩) (k + 1) cp, v8 := .bool true } → Touch (fun j => j = rb) wq w1 → w1.heap[rb]? = some (.cells #[.string xn, .string xt, .int .i64 xc, .int .i64 (lo + 1)] 190 (0, 0)) → K a' w1) :
    Code.wp Tryz.prog c (Exit.then K fun _ _ _ => False) a wq := by
  have HQ := hide hQ
  clear hQ
  obtain ⟨v0, v1, v2, v3, v6, v7, v8, v9⟩ := v
  simp only at h3v h6v h9v HQ
  subst h3v h6v h9v
  obtain ⟨u, rfl⟩ := frx_pl hF
  clear hF
  simp only [Tryz.f135, Option.getD_some, regOf] at hc
  injection hc with hc
  subst hc
  have HS := hide hS
  have HG := hide hg
  have HC := hide hc1
  have HN1 : Hid (¬ sb = rb) := hn1
  have HN2 : Hid (¬ g = rb) := hn2
  have HK1 : Hid (IntKind.i64.wrap (k : Int) = (k : Int)) := by
    show _ = _
    rw [IntKind.wrap_i64]
    omega
  have HK2 : Hid ((k : Int) < (k : Int) + 1) := by
    show _ < _
    omega
  have HK3 : Hid (k < k + 1) := Nat.lt_succ_self k
  have HK4 : Hid ((0 : Int) ≤ (k : Int)) := Int.natCast_nonneg k
  have HLO : Hid (IntKind.i64.wrap (lo + 1) = lo + 1) := by
    show _ = _
    rw [IntKind.wrap_i64]
    omega
  have H00 : Hid (BWP rb wq wq.drew) := ⟨(Touch.refl _ _).drew, _, _, _, _, hR⟩
  clear hS hR hg hc1 hk l1 l2 hn1 hn2
  refine wp_region_phi (by kernel_rfl) (ns := 50) (uses := (fun i => match i with | 0 => [39] | 1 => [40] | 2 => [41] | 3 => [42] | 4 => [43] | 5 => [44] | 6 => [45] | 7 => [46] | 8 => [47] | 9 => [48] | 10 => [49] | 11 => [] | 12 => [7] | 13 => [8] | _ => [])) (by kernel_rfl) (by kernel_rfl) (fun ix w w' => RelP rb ix w w') (fun w => BWP rb wq w) (fun _ _ _ h r => bwp_rel h r) (H00.out) (fun i => match i with | 0 => fun s w => s 39 = .agg #[.string xn, .string xt, .int .i64 xc, .int .i64 xx] | 1 => fun s w => s 40 = .slice (some ⟨g, of, none⟩) (k + 1) cp | 2 => fun s w => s 41 = .slice (some ⟨g, of, none⟩) (k + 1) cp | 3 => fun s w => s 42 = .int .i64 ((k : Int) + 1) | 4 => fun s w => s 43 = .int .i64 (k : Int) | 5 => fun s w => s 44 = .pointer (some ⟨g, of + k * 5, none⟩) | 6 => fun s w => s 45 = .pointer (some ⟨g, of + k * 5, none⟩) | 7 => fun s w => s 46 = .int .i64 lo | 8 => fun s w => s 47 = .int .i64 (lo + 1) | 9 => fun s w => s 48 = .agg #[.string xn, .string xt, .int .i64 xc, .int .i64 (lo + 1)] | 10 => fun s w => s 49 = .slice (some ⟨g, of, none⟩) (k + 1) cp | 11 => fun s w => w.heap[rb]? = some (.cells #[.string xn, .string xt, .int .i64 xc, .int .i64 (lo + 1)] 190 (0, 0)) | 12 => fun s w => s 7 = .slice (some ⟨g, of, none⟩) (k + 1) cp | 13 => fun s w => s 8 = .bool true | _ => fun _ _ => True) ?phc ?phh ?pstep ?pdone
  case phc =>
    intro i s s' w hx h
    match i, hx, h with
    | 0, hx, h =>
      have e39 := hx 39 (by simp)
      first | exact (show _ from by simp only [← e39] at *; exact h) | (simp only [e39] at h; exact h)
    | 1, hx, h =>
      have e40 := hx 40 (by simp)
      first | exact (show _ from by simp only [← e40] at *; exact h) | (simp only [e40] at h; exact h)
    | 2, hx, h =>
      have e41 := hx 41 (by simp)
      first | exact (show _ from by simp only [← e41] at *; exact h) | (simp only [e41] at h; exact h)
    | 3, hx, h =>
      have e42 := hx 42 (by simp)
      first | exact (show _ from by simp only [← e42] at *; exact h) | (simp only [e42] at h; exact h)
    | 4, hx, h =>
      have e43 := hx 43 (by simp)
      first | exact (show _ from by simp only [← e43] at *; exact h) | (simp only [e43] at h; exact h)
    | 5, hx, h =>
      have e44 := hx 44 (by simp)
      first | exact (show _ from by simp only [← e44] at *; exact h) | (simp only [e44] at h; exact h)
    | 6, hx, h =>
      have e45 := hx 45 (by simp)
      first | exact (show _ from by simp only [← e45] at *; exact h) | (simp only [e45] at h; exact h)
    | 7, hx, h =>
      have e46 := hx 46 (by simp)
      first | exact (show _ from by simp only [← e46] at *; exact h) | (simp only [e46] at h; exact h)
    | 8, hx, h =>
      have e47 := hx 47 (by simp)
      first | exact (show _ from by simp only [← e47] at *; exact h) | (simp only [e47] at h; exact h)
    | 9, hx, h =>
      have e48 := hx 48 (by simp)
      first | exact (show _ from by simp only [← e48] at *; exact h) | (simp only [e48] at h; exact h)
    | 10, hx, h =>
      have e49 := hx 49 (by simp)
      first | exact (show _ from by simp only [← e49] at *; exact h) | (simp only [e49] at h; exact h)
    | 11, hx, h =>
      exact h
    | 12, hx, h =>
      have e7 := hx 7 (by simp)
      first | exact (show _ from by simp only [← e7] at *; exact h) | (simp only [e7] at h; exact h)
    | 13, hx, h =>
      have e8 := hx 8 (by simp)
      first | exact (show _ from by simp only [← e8] at *; exact h) | (simp only [e8] at h; exact h)
    | (n + 14), _, h => exact h
  case phh =>
    intro i j s w w' hij h hb r
    match i, hij, h with
    | 0, hij, h =>
      exact h
    | 1, hij, h =>
      exact h
    | 2, hij, h =>
      exact h
    | 3, hij, h =>
      exact h
    | 4, hij, h =>
      exact h
    | 5, hij, h =>
      exact h
    | 6, hij, h =>
      exact h
    | 7, hij, h =>
      exact h
    | 8, hij, h =>
      exact h
    | 9, hij, h =>
      exact h
    | 10, hij, h =>
      exact h
    | 11, hij, h =>
      exact Below.at (relP_other (fun e => hij e.symm) r) h
    | 12, hij, h =>
      exact h
    | 13, hij, h =>
      exact h
    | (n + 14), _, h => exact h
  case pstep =>
    intro i o ho a' w' hsa hb hd
    match i, ho with
    | 0, ho =>
      obtain rfl := Option.some.inj ho
      try dsimp only at hd
      have g3 : a'.tmps.getD 3 undef = .pointer (some ⟨sb, 0, none⟩) := hsa.rest 3 (by rfl)
      obtain ⟨⟨z0, z1, z2, z3⟩, _⟩ := box4 (hb.1.at HS.out HN1.out)
      refine wpOp_of rfl rfl ?_
      refine op_run (v := .agg #[.string xn, .string xt, .int .i64 xc, .int .i64 xx]) (w' := w') ?_ ⟨_, rfl, ?_, ?_⟩
      · simp only [execOp, Act.eval, List.map_toArray, List.map_cons, List.map_nil, g3, z0, z1, z2, z3]; first | (go_simp; done) | rfl
      · try dsimp only
        exact (slots_put (ns := 50) (hsa.size.trans rfl) (by decide))
      · exact .inl ⟨by decide, Below.refl _ _⟩
    | 1, ho =>
      obtain rfl := Option.some.inj ho
      try dsimp only at hd
      have g9 : a'.tmps.getD 9 undef = .slice (some ⟨g, of, none⟩) (k + 1) cp := hsa.rest 9 (by rfl)
      refine wpOp_of rfl rfl ?_
      refine op_run (v := .slice (some ⟨g, of, none⟩) (k + 1) cp) (w' := w') ?_ ⟨_, rfl, ?_, ?_⟩
      · simp only [execOp, Act.eval, List.map_toArray, List.map_cons, List.map_nil, g9]; first | (go_simp; done) | rfl
      · try dsimp only
        exact (slots_put (ns := 50) (hsa.size.trans rfl) (by decide))
      · exact .inl ⟨by decide, Below.refl _ _⟩
    | 2, ho =>
      obtain rfl := Option.some.inj ho
      try dsimp only at hd
      have g9 : a'.tmps.getD 9 undef = .slice (some ⟨g, of, none⟩) (k + 1) cp := hsa.rest 9 (by rfl)
      refine wpOp_of rfl rfl ?_
      refine op_run (v := .slice (some ⟨g, of, none⟩) (k + 1) cp) (w' := w') ?_ ⟨_, rfl, ?_, ?_⟩
      · simp only [execOp, Act.eval, List.map_toArray, List.map_cons, List.map_nil, g9]; first | (go_simp; done) | rfl
      · try dsimp only
        exact (slots_put (ns := 50) (hsa.size.trans rfl) (by decide))
      · exact .inl ⟨by decide, Below.refl _ _⟩
    | 3, ho =>
      obtain rfl := Option.some.inj ho
      try dsimp only at hd
      have d2 : a'.tmps.getD 41 undef = .slice (some ⟨g, of, none⟩) (k + 1) cp := hd 2 (by rfl)
      refine wpOp_of rfl rfl ?_
      refine op_run (v := .int .i64 ((k : Int) + 1)) (w' := w') ?_ ⟨_, rfl, ?_, ?_⟩
      · simp only [execOp, Act.eval, List.map_toArray, List.map_cons, List.map_nil, d2]; first | (go_simp; done) | rfl
      · try dsimp only
        exact (slots_put (ns := 50) (hsa.size.trans rfl) (by decide))
      · exact .inl ⟨by decide, Below.refl _ _⟩
    | 4, ho =>
      obtain rfl := Option.some.inj ho
      try dsimp only at hd
      have d3 : a'.tmps.getD 42 undef = .int .i64 ((k : Int) + 1) := hd 3 (by rfl)
      have y := HK1.out
      refine wpOp_of rfl rfl ?_
      refine op_run (v := .int .i64 (k : Int)) (w' := w') ?_ ⟨_, rfl, ?_, ?_⟩
      · simp only [execOp, Act.eval, List.map_toArray, List.map_cons, List.map_nil, d3, y]; first | (go_simp; done) | rfl
      · try dsimp only
        exact (slots_put (ns := 50) (hsa.size.trans rfl) (by decide))
      · exact .inl ⟨by decide, Below.refl _ _⟩
    | 5, ho =>
      obtain rfl := Option.some.inj ho
      try dsimp only at hd
      have d1 : a'.tmps.getD 40 undef = .slice (some ⟨g, of, none⟩) (k + 1) cp := hd 1 (by rfl)
      have d4 : a'.tmps.getD 43 undef = .int .i64 (k : Int) := hd 4 (by rfl)
      have y1 := HK2.out
      have y2 := HK3.out
      have y3 := HK4.out
      refine wpOp_of rfl rfl ?_
      refine op_run (v := .pointer (some ⟨g, of + k * 5, none⟩)) (w' := w') ?_ ⟨_, rfl, ?_, ?_⟩
      · simp only [execOp, Act.eval, List.map_toArray, List.map_cons, List.map_nil, d1, d4, y1, y2, y3]; first | (go_simp; done) | rfl
      · try dsimp only
        exact (slots_put (ns := 50) (hsa.size.trans rfl) (by decide))
      · exact .inl ⟨by decide, Below.refl _ _⟩
    | 6, ho =>
      obtain rfl := Option.some.inj ho
      try dsimp only at hd
      have d5 : a'.tmps.getD 44 undef = .pointer (some ⟨g, of + k * 5, none⟩) := hd 5 (by rfl)
      refine wpOp_of rfl rfl ?_
      refine op_run (v := .pointer (some ⟨g, of + k * 5, none⟩)) (w' := w') ?_ ⟨_, rfl, ?_, ?_⟩
      · simp only [execOp, Act.eval, List.map_toArray, List.map_cons, List.map_nil, d5]; first | (go_simp; done) | rfl
      · try dsimp only
        exact (slots_put (ns := 50) (hsa.size.trans rfl) (by decide))
      · exact .inl ⟨by decide, Below.refl _ _⟩
    | 7, ho =>
      obtain rfl := Option.some.inj ho
      try dsimp only at hd
      have d6 : a'.tmps.getD 45 undef = .pointer (some ⟨g, of + k * 5, none⟩) := hd 6 (by rfl)
      have y := hb.1.cell _ HC.out HN2.out
      refine wpOp_of rfl rfl ?_
      refine op_run (v := .int .i64 lo) (w' := w') ?_ ⟨_, rfl, ?_, ?_⟩
      · simp only [execOp, Act.eval, List.map_toArray, List.map_cons, List.map_nil, d6, y]; first | (go_simp; done) | rfl
      · try dsimp only
        exact (slots_put (ns := 50) (hsa.size.trans rfl) (by decide))
      · exact .inl ⟨by decide, Below.refl _ _⟩
    | 8, ho =>
      obtain rfl := Option.some.inj ho
      try dsimp only at hd
      have d7 : a'.tmps.getD 46 undef = .int .i64 lo := hd 7 (by rfl)
      have y := HLO.out
      refine wpOp_of rfl rfl ?_
      refine op_run (v := .int .i64 (lo + 1)) (w' := w') ?_ ⟨_, rfl, ?_, ?_⟩
      · simp only [execOp, Act.eval, List.map_toArray, List.map_cons, List.map_nil, d7, y]; first | (go_simp; done) | rfl
      · try dsimp only
        exact (slots_put (ns := 50) (hsa.size.trans rfl) (by decide))
      · exact .inl ⟨by decide, Below.refl _ _⟩
    | 9, ho =>
      obtain rfl := Option.some.inj ho
      try dsimp only at hd
      have d0 : a'.tmps.getD 39 undef = .agg #[.string xn, .string xt, .int .i64 xc, .int .i64 xx] := hd 0 (by rfl)
      have d8 : a'.tmps.getD 47 undef = .int .i64 (lo + 1) := hd 8 (by rfl)
      refine wpOp_of rfl rfl ?_
      refine op_call 132 _ _ rfl (enters_of Tryz.func132 (by kernel_rfl) rfl) [.agg #[.string xn, .string xt, .int .i64 xc, .int .i64 xx], .int .i64 (lo + 1)] (by simp only [List.map, Act.eval, d0, d8]) (sfrom ⟨xn, xt, xc, xx⟩ (lo + 1) _) ?_
      rintro e w'' ⟨rfl, b2⟩
      refine ⟨_, rfl, _, rfl, ?_, ?_⟩
      · try dsimp only
        exact (slots_put (ns := 50) (hsa.size.trans rfl) (by decide))
      · exact .inl ⟨by decide, b2⟩
    | 10, ho =>
      obtain rfl := Option.some.inj ho
      try dsimp only at hd
      have g9 : a'.tmps.getD 9 undef = .slice (some ⟨g, of, none⟩) (k + 1) cp := hsa.rest 9 (by rfl)
      refine wpOp_of rfl rfl ?_
      refine op_run (v := .slice (some ⟨g, of, none⟩) (k + 1) cp) (w' := w') ?_ ⟨_, rfl, ?_, ?_⟩
      · simp only [execOp, Act.eval, List.map_toArray, List.map_cons, List.map_nil, g9]; first | (go_simp; done) | rfl
      · try dsimp only
        exact (slots_put (ns := 50) (hsa.size.trans rfl) (by decide))
      · exact .inl ⟨by decide, Below.refl _ _⟩
    | 11, ho =>
      obtain rfl := Option.some.inj ho
      try dsimp only at hd
      have d9 : a'.tmps.getD 48 undef = .agg #[.string xn, .string xt, .int .i64 xc, .int .i64 (lo + 1)] := hd 9 (by rfl)
      have g6 : a'.tmps.getD 6 undef = .pointer (some ⟨rb, 0, none⟩) := hsa.rest 6 (by rfl)
      obtain ⟨y0, y1, y2, y3, hy⟩ := hb.2
      obtain ⟨⟨z0, z1, z2, z3⟩, f0, f1, f2, f3⟩ := box4 hy
      refine wpOp_of rfl rfl ?_
      refine op_skip (w' := ((((w'.setCell ⟨rb, 0, none⟩ (.string xn)).setCell ⟨rb, 1, none⟩ (.string xt)).setCell ⟨rb, 2, none⟩ (.int .i64 xc)).setCell ⟨rb, 3, none⟩ (.int .i64 (lo + 1)))) ?_ ⟨undef, rfl, ?_, ?_⟩
      · simp only [execOp, Act.eval, d9, g6]; first | (go_simp; done) | rfl
      · try dsimp only
        exact set4_box hy
      · exact .inr ⟨rfl, set4_touch _ _, _, _, _, _, set4_box hy⟩
    | 12, ho =>
      obtain rfl := Option.some.inj ho
      try dsimp only at hd
      have d10 : a'.tmps.getD 49 undef = .slice (some ⟨g, of, none⟩) (k + 1) cp := hd 10 (by rfl)
      refine wpOp_of rfl rfl ?_
      refine op_run (v := .slice (some ⟨g, of, none⟩) (k + 1) cp) (w' := w') ?_ ⟨_, rfl, ?_, ?_⟩
      · simp only [execOp, Act.eval, List.map_toArray, List.map_cons, List.map_nil, d10]; first | (go_simp; done) | rfl
      · try dsimp only
        exact (slots_put (ns := 50) (hsa.size.trans rfl) (by decide))
      · exact .inl ⟨by decide, Below.refl _ _⟩
    | 13, ho =>
      obtain rfl := Option.some.inj ho
      try dsimp only at hd
      refine wpOp_of rfl rfl ?_
      refine op_run (v := .bool true) (w' := w') ?_ ⟨_, rfl, ?_, ?_⟩
      · simp only [execOp, Act.eval, List.map_toArray, List.map_cons, List.map_nil]; first | (go_simp; done) | rfl
      · try dsimp only
        exact (slots_put (ns := 50) (hsa.size.trans rfl) (by decide))
      · exact .inl ⟨by decide, Below.refl _ _⟩
    | (n + 14), ho => exact absurd ho (by simp)
  case pdone =>
    intro a' w' hsa hb hd
    have d0 : a'.tmps.getD 39 undef = .agg #[.string xn, .string xt, .int .i64 xc, .int .i64 xx] := hd 0 (by decide)
    have d1 : a'.tmps.getD 40 undef = .slice (some ⟨g, of, none⟩) (k + 1) cp := hd 1 (by decide)
    have d2 : a'.tmps.getD 41 undef = .slice (some ⟨g, of, none⟩) (k + 1) cp := hd 2 (by decide)
    have d3 : a'.tmps.getD 42 undef = .int .i64 ((k : Int) + 1) := hd 3 (by decide)
    have d4 : a'.tmps.getD 43 undef = .int .i64 (k : Int) := hd 4 (by decide)
    have d5 : a'.tmps.getD 44 undef = .pointer (some ⟨g, of + k * 5, none⟩) := hd 5 (by decide)
    have d6 : a'.tmps.getD 45 undef = .pointer (some ⟨g, of + k * 5, none⟩) := hd 6 (by decide)
    have d7 : a'.tmps.getD 46 undef = .int .i64 lo := hd 7 (by decide)
    have d8 : a'.tmps.getD 47 undef = .int .i64 (lo + 1) := hd 8 (by decide)
    have d9 : a'.tmps.getD 48 undef = .agg #[.string xn, .string xt, .int .i64 xc, .int .i64 (lo + 1)] := hd 9 (by decide)
    have d10 : a'.tmps.getD 49 undef = .slice (some ⟨g, of, none⟩) (k + 1) cp := hd 10 (by decide)
    have d11 : w'.heap[rb]? = some (.cells #[.string xn, .string xt, .int .i64 xc, .int .i64 (lo + 1)] 190 (0, 0)) := hd 11 (by decide)
    have d12 : a'.tmps.getD 7 undef = .slice (some ⟨g, of, none⟩) (k + 1) cp := hd 12 (by decide)
    have d13 : a'.tmps.getD 8 undef = .bool true := hd 13 (by decide)
    exact HQ.out _ _ ⟨hsa.size.trans rfl, hsa.defers.trans rfl, hsa.rest 0 (by rfl), hsa.rest 1 (by rfl), hsa.rest 2 (by rfl), hsa.rest 3 (by rfl), hsa.rest 6 (by rfl), d12, d13, hsa.rest 9 (by rfl)⟩ hb.1 d11
end Go.Proofs.YtlfodldlkchmoaaGreat.Y
