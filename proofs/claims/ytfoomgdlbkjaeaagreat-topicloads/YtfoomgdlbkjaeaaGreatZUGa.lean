/-
  know's fourth region (mkug.py).
-/
import Derived.Test.YtfoomgdlbkjaeaaGreatZUG
namespace Go.Proofs.YtfoomgdlbkjaeaaGreat.Y
open Go.RowKit
set_option maxHeartbeats 8000000
set_option maxRecDepth 100000
attribute [local go_sem ↓] Go.wp_at_zero Go.wp_at_succ
set_option linter.unusedSimpArgs false
set_option linter.unusedVariables false
theorem kn_r4a {K : Act → World → Prop} {c : Code} (hc : regOf (Tryz.f44.body.getD .skip) 4 = some c) (a : Act) {v : Vkn} {wq : World} {tb mb sn sc : Nat} {so : Option Addr} {nm : ByteArray} {lo fi : Int} {pb : Nat} {po pq : Int} {nz : ByteArray} (hF : Fkn a v) (h0v : v.v0 = .pointer (some ⟨tb, 0, none⟩)) (h6v : v.v6 = .pointer (some ⟨pb, 0, none⟩)) (hB : wq.heap[tb]? = some (.cells #[.string nm, .int .i64 lo, .int .i64 fi, .slice so sn sc, .map (some mb)] 52 (0, 0))) (hR : wq.heap[pb]? = some (.cells #[.string nz, .int .i64 po, .int .i64 pq] 75 (0, 0))) (hC : ∀ W, Calls Tryz.prog 26 #[.string nz] W fun e w' => e = .returned (.bool false) ∧ w' = W)
    (hQ : ∀ a' w', Fkn a' v → a'.tmps.getD 45 undef = .bool true → Below wq.heap.size wq w' → K a' w') :
    Code.wp Tryz.prog c (Exit.then K fun _ _ _ => False) a wq := by
  have HQ := hide hQ
  clear hQ
  obtain ⟨v0, v1, v4, v5, v6, v7, v8, v9⟩ := v
  simp only at h0v h6v HQ
  subst h0v h6v
  obtain ⟨u, rfl⟩ := frx_kn hF
  clear hF
  simp only [Tryz.f44, Option.getD_some, regOf] at hc
  injection hc with hc
  subst hc
  have HC := hide hC
  clear hC
  refine wp_region_phi (by kernel_rfl) (ns := 68) (uses := (fun i => match i with | 0 => [14] | 1 => [15] | 2 => [16] | 3 => [17] | 4 => [18] | 5 => [19] | 6 => [20] | 7 => [21] | 8 => [22] | 9 => [23] | 10 => [24] | 11 => [25] | 12 => [26] | 13 => [27] | 14 => [28] | 15 => [29] | 16 => [30] | 17 => [31] | 18 => [32] | 19 => [33] | 20 => [34] | 21 => [35] | 22 => [36] | 23 => [37] | 24 => [38] | 25 => [39] | 26 => [40] | 27 => [41] | 28 => [42] | 29 => [43] | 30 => [44] | 31 => [45] | _ => [])) (by kernel_rfl) (by kernel_rfl) (fun _ w w' => Below w.heap.size w w') (fun w => Below wq.heap.size wq w) (fun _ _ _ h r => h.trans (r.mono h.size)) ((Below.refl _ _).drew) (fun i => match i with | 0 => fun s w => s 14 = .pointer (some ⟨pb, 0, none⟩) | 1 => fun s w => s 15 = .string nz | 2 => fun s w => s 16 = .bool false | 3 => fun s w => s 17 = .bool true | 4 => fun s w => s 18 = .bool true | 5 => fun s w => s 19 = undef | 6 => fun s w => s 20 = undef | 7 => fun s w => s 21 = undef | 8 => fun s w => s 22 = undef | 9 => fun s w => s 23 = .bool true | 10 => fun s w => s 24 = .bool true | 11 => fun s w => s 25 = undef | 12 => fun s w => s 26 = undef | 13 => fun s w => s 27 = undef | 14 => fun s w => s 28 = undef | 15 => fun s w => s 29 = .bool true | 16 => fun s w => s 30 = .bool true | 17 => fun s w => s 31 = undef | 18 => fun s w => s 32 = undef | 19 => fun s w => s 33 = undef | 20 => fun s w => s 34 = undef | 21 => fun s w => s 35 = .bool true | 22 => fun s w => s 36 = .bool true | 23 => fun s w => s 37 = undef | 24 => fun s w => s 38 = undef | 25 => fun s w => s 39 = undef | 26 => fun s w => s 40 = undef | 27 => fun s w => s 41 = undef | 28 => fun s w => s 42 = undef | 29 => fun s w => s 43 = undef | 30 => fun s w => s 44 = undef | 31 => fun s w => s 45 = .bool true | _ => fun _ _ => True) ?phc ?phh ?pstep ?pdone
  case phc =>
    intro i s s' w hx h
    match i, hx, h with
    | 0, hx, h =>
      have e14 := hx 14 (by simp)
      first | exact (show _ from by simp only [← e14] at *; exact h) | (simp only [e14] at h; exact h)
    | 1, hx, h =>
      have e15 := hx 15 (by simp)
      first | exact (show _ from by simp only [← e15] at *; exact h) | (simp only [e15] at h; exact h)
    | 2, hx, h =>
      have e16 := hx 16 (by simp)
      first | exact (show _ from by simp only [← e16] at *; exact h) | (simp only [e16] at h; exact h)
    | 3, hx, h =>
      have e17 := hx 17 (by simp)
      first | exact (show _ from by simp only [← e17] at *; exact h) | (simp only [e17] at h; exact h)
    | 4, hx, h =>
      have e18 := hx 18 (by simp)
      first | exact (show _ from by simp only [← e18] at *; exact h) | (simp only [e18] at h; exact h)
    | 5, hx, h =>
      have e19 := hx 19 (by simp)
      first | exact (show _ from by simp only [← e19] at *; exact h) | (simp only [e19] at h; exact h)
    | 6, hx, h =>
      have e20 := hx 20 (by simp)
      first | exact (show _ from by simp only [← e20] at *; exact h) | (simp only [e20] at h; exact h)
    | 7, hx, h =>
      have e21 := hx 21 (by simp)
      first | exact (show _ from by simp only [← e21] at *; exact h) | (simp only [e21] at h; exact h)
    | 8, hx, h =>
      have e22 := hx 22 (by simp)
      first | exact (show _ from by simp only [← e22] at *; exact h) | (simp only [e22] at h; exact h)
    | 9, hx, h =>
      have e23 := hx 23 (by simp)
      first | exact (show _ from by simp only [← e23] at *; exact h) | (simp only [e23] at h; exact h)
    | 10, hx, h =>
      have e24 := hx 24 (by simp)
      first | exact (show _ from by simp only [← e24] at *; exact h) | (simp only [e24] at h; exact h)
    | 11, hx, h =>
      have e25 := hx 25 (by simp)
      first | exact (show _ from by simp only [← e25] at *; exact h) | (simp only [e25] at h; exact h)
    | 12, hx, h =>
      have e26 := hx 26 (by simp)
      first | exact (show _ from by simp only [← e26] at *; exact h) | (simp only [e26] at h; exact h)
    | 13, hx, h =>
      have e27 := hx 27 (by simp)
      first | exact (show _ from by simp only [← e27] at *; exact h) | (simp only [e27] at h; exact h)
    | 14, hx, h =>
      have e28 := hx 28 (by simp)
      first | exact (show _ from by simp only [← e28] at *; exact h) | (simp only [e28] at h; exact h)
    | 15, hx, h =>
      have e29 := hx 29 (by simp)
      first | exact (show _ from by simp only [← e29] at *; exact h) | (simp only [e29] at h; exact h)
    | 16, hx, h =>
      have e30 := hx 30 (by simp)
      first | exact (show _ from by simp only [← e30] at *; exact h) | (simp only [e30] at h; exact h)
    | 17, hx, h =>
      have e31 := hx 31 (by simp)
      first | exact (show _ from by simp only [← e31] at *; exact h) | (simp only [e31] at h; exact h)
    | 18, hx, h =>
      have e32 := hx 32 (by simp)
      first | exact (show _ from by simp only [← e32] at *; exact h) | (simp only [e32] at h; exact h)
    | 19, hx, h =>
      have e33 := hx 33 (by simp)
      first | exact (show _ from by simp only [← e33] at *; exact h) | (simp only [e33] at h; exact h)
    | 20, hx, h =>
      have e34 := hx 34 (by simp)
      first | exact (show _ from by simp only [← e34] at *; exact h) | (simp only [e34] at h; exact h)
    | 21, hx, h =>
      have e35 := hx 35 (by simp)
      first | exact (show _ from by simp only [← e35] at *; exact h) | (simp only [e35] at h; exact h)
    | 22, hx, h =>
      have e36 := hx 36 (by simp)
      first | exact (show _ from by simp only [← e36] at *; exact h) | (simp only [e36] at h; exact h)
    | 23, hx, h =>
      have e37 := hx 37 (by simp)
      first | exact (show _ from by simp only [← e37] at *; exact h) | (simp only [e37] at h; exact h)
    | 24, hx, h =>
      have e38 := hx 38 (by simp)
      first | exact (show _ from by simp only [← e38] at *; exact h) | (simp only [e38] at h; exact h)
    | 25, hx, h =>
      have e39 := hx 39 (by simp)
      first | exact (show _ from by simp only [← e39] at *; exact h) | (simp only [e39] at h; exact h)
    | 26, hx, h =>
      have e40 := hx 40 (by simp)
      first | exact (show _ from by simp only [← e40] at *; exact h) | (simp only [e40] at h; exact h)
    | 27, hx, h =>
      have e41 := hx 41 (by simp)
      first | exact (show _ from by simp only [← e41] at *; exact h) | (simp only [e41] at h; exact h)
    | 28, hx, h =>
      have e42 := hx 42 (by simp)
      first | exact (show _ from by simp only [← e42] at *; exact h) | (simp only [e42] at h; exact h)
    | 29, hx, h =>
      have e43 := hx 43 (by simp)
      first | exact (show _ from by simp only [← e43] at *; exact h) | (simp only [e43] at h; exact h)
    | 30, hx, h =>
      have e44 := hx 44 (by simp)
      first | exact (show _ from by simp only [← e44] at *; exact h) | (simp only [e44] at h; exact h)
    | 31, hx, h =>
      have e45 := hx 45 (by simp)
      first | exact (show _ from by simp only [← e45] at *; exact h) | (simp only [e45] at h; exact h)
    | (n + 32), _, h => exact h
  case phh =>
    intro i j s w w' hij h hb r
    iterate 32 (rcases i with _ | i; · exact h)
    exact h
  case pstep =>
    intro i o ho a' w' hsa hb hd
    match i, ho with
    | 0, ho =>
      obtain rfl := Option.some.inj ho
      try dsimp only at hd
      have g6 : a'.tmps.getD 6 undef = .pointer (some ⟨pb, 0, none⟩) := hsa.rest 6 (by rfl)
      refine wpOp_of rfl rfl ?_
      refine op_run (v := .pointer (some ⟨pb, 0, none⟩)) (w' := w') ?_ ⟨_, rfl, slots_put (ns := 68) (hsa.size.trans rfl) (by decide), Below.refl _ _⟩
      simp only [execOp, Act.eval, List.map_toArray, List.map_cons, List.map_nil, g6]; first | (go_simp; done) | rfl
    | 1, ho =>
      obtain rfl := Option.some.inj ho
      try dsimp only at hd
      have d0 : a'.tmps.getD 14 undef = .pointer (some ⟨pb, 0, none⟩) := hd 0 (by rfl)
      have y0 : w'.cell? ⟨pb, 0, none⟩ = some (.string nz) := (hb.cell (p := ⟨pb, 0, none⟩) (heap_lt hR)).trans (box_cell hR 0 rfl)
      refine wpOp_of rfl rfl ?_
      refine op_run (v := .string nz) (w' := w') ?_ ⟨_, rfl, slots_put (ns := 68) (hsa.size.trans rfl) (by decide), Below.refl _ _⟩
      simp only [execOp, Act.eval, List.map_toArray, List.map_cons, List.map_nil, d0, y0]; first | (go_simp; done) | rfl
    | 2, ho =>
      obtain rfl := Option.some.inj ho
      try dsimp only at hd
      have d1 : a'.tmps.getD 15 undef = .string nz := hd 1 (by rfl)
      refine wpOp_of rfl rfl ?_
      refine op_call 26 _ _ rfl (enters_of Tryz.func26 (by kernel_rfl) rfl) [.string nz] (by simp only [List.map, Act.eval, d1]) (HC.out w') ?_
      rintro e w'' ⟨rfl, rfl⟩
      refine ⟨_, rfl, _, rfl, ?_, ?_⟩
      · try dsimp only
        exact (slots_put (ns := 68) (hsa.size.trans rfl) (by decide))
      · exact Below.refl _ _
    | 3, ho =>
      obtain rfl := Option.some.inj ho
      try dsimp only at hd
      have d2 : a'.tmps.getD 16 undef = .bool false := hd 2 (by rfl)
      refine wpOp_of rfl rfl ?_
      refine op_run (v := .bool true) (w' := w') ?_ ⟨_, rfl, slots_put (ns := 68) (hsa.size.trans rfl) (by decide), Below.refl _ _⟩
      simp only [execOp, Act.eval, List.map_toArray, List.map_cons, List.map_nil, d2]; first | (go_simp; done) | rfl
    | 4, ho =>
      obtain rfl := Option.some.inj ho
      try dsimp only at hd
      have d3 : a'.tmps.getD 17 undef = .bool true := hd 3 (by rfl)
      refine wpOp_of rfl rfl ?_
      refine op_run (v := .bool true) (w' := w') ?_ ⟨_, rfl, slots_put (ns := 68) (hsa.size.trans rfl) (by decide), Below.refl _ _⟩
      simp only [execOp, Act.eval, List.map_toArray, List.map_cons, List.map_nil, d3]; first | (go_simp; done) | rfl
    | 5, ho | 6, ho | 7, ho | 8, ho =>
      obtain rfl := Option.some.inj ho
      try dsimp only at hd
      have d4 : a'.tmps.getD 18 undef = .bool true := hd 4 (by rfl)
      exact wpOp_off (j := 4) (dj := 18) rfl rfl rfl d4 (by simp [undef]) ⟨undef, rfl, slots_put (ns := 68) (hsa.size.trans rfl) (by decide), Below.refl _ _⟩
    | 9, ho =>
      obtain rfl := Option.some.inj ho
      try dsimp only at hd
      have d4 : a'.tmps.getD 18 undef = .bool true := hd 4 (by rfl)
      have d8 : a'.tmps.getD 22 undef = undef := hd 8 (by rfl)
      refine wpOp_of rfl rfl ?_
      refine op_run (v := .bool true) (w' := w') ?_ ⟨_, rfl, slots_put (ns := 68) (hsa.size.trans rfl) (by decide), Below.refl _ _⟩
      simp only [execOp, Act.eval, List.map_toArray, List.map_cons, List.map_nil, d4, d8]; first | (go_simp; done) | rfl
    | 10, ho =>
      obtain rfl := Option.some.inj ho
      try dsimp only at hd
      have d9 : a'.tmps.getD 23 undef = .bool true := hd 9 (by rfl)
      refine wpOp_of rfl rfl ?_
      refine op_run (v := .bool true) (w' := w') ?_ ⟨_, rfl, slots_put (ns := 68) (hsa.size.trans rfl) (by decide), Below.refl _ _⟩
      simp only [execOp, Act.eval, List.map_toArray, List.map_cons, List.map_nil, d9]; first | (go_simp; done) | rfl
    | 11, ho | 12, ho | 13, ho | 14, ho =>
      obtain rfl := Option.some.inj ho
      try dsimp only at hd
      have d10 : a'.tmps.getD 24 undef = .bool true := hd 10 (by rfl)
      exact wpOp_off (j := 10) (dj := 24) rfl rfl rfl d10 (by simp [undef]) ⟨undef, rfl, slots_put (ns := 68) (hsa.size.trans rfl) (by decide), Below.refl _ _⟩
    | 15, ho =>
      obtain rfl := Option.some.inj ho
      try dsimp only at hd
      have d10 : a'.tmps.getD 24 undef = .bool true := hd 10 (by rfl)
      have d14 : a'.tmps.getD 28 undef = undef := hd 14 (by rfl)
      refine wpOp_of rfl rfl ?_
      refine op_run (v := .bool true) (w' := w') ?_ ⟨_, rfl, slots_put (ns := 68) (hsa.size.trans rfl) (by decide), Below.refl _ _⟩
      simp only [execOp, Act.eval, List.map_toArray, List.map_cons, List.map_nil, d10, d14]; first | (go_simp; done) | rfl
    | 16, ho =>
      obtain rfl := Option.some.inj ho
      try dsimp only at hd
      have d15 : a'.tmps.getD 29 undef = .bool true := hd 15 (by rfl)
      refine wpOp_of rfl rfl ?_
      refine op_run (v := .bool true) (w' := w') ?_ ⟨_, rfl, slots_put (ns := 68) (hsa.size.trans rfl) (by decide), Below.refl _ _⟩
      simp only [execOp, Act.eval, List.map_toArray, List.map_cons, List.map_nil, d15]; first | (go_simp; done) | rfl
    | 17, ho | 18, ho | 19, ho | 20, ho =>
      obtain rfl := Option.some.inj ho
      try dsimp only at hd
      have d16 : a'.tmps.getD 30 undef = .bool true := hd 16 (by rfl)
      exact wpOp_off (j := 16) (dj := 30) rfl rfl rfl d16 (by simp [undef]) ⟨undef, rfl, slots_put (ns := 68) (hsa.size.trans rfl) (by decide), Below.refl _ _⟩
    | 21, ho =>
      obtain rfl := Option.some.inj ho
      try dsimp only at hd
      have d16 : a'.tmps.getD 30 undef = .bool true := hd 16 (by rfl)
      have d20 : a'.tmps.getD 34 undef = undef := hd 20 (by rfl)
      refine wpOp_of rfl rfl ?_
      refine op_run (v := .bool true) (w' := w') ?_ ⟨_, rfl, slots_put (ns := 68) (hsa.size.trans rfl) (by decide), Below.refl _ _⟩
      simp only [execOp, Act.eval, List.map_toArray, List.map_cons, List.map_nil, d16, d20]; first | (go_simp; done) | rfl
    | 22, ho =>
      obtain rfl := Option.some.inj ho
      try dsimp only at hd
      have d21 : a'.tmps.getD 35 undef = .bool true := hd 21 (by rfl)
      refine wpOp_of rfl rfl ?_
      refine op_run (v := .bool true) (w' := w') ?_ ⟨_, rfl, slots_put (ns := 68) (hsa.size.trans rfl) (by decide), Below.refl _ _⟩
      simp only [execOp, Act.eval, List.map_toArray, List.map_cons, List.map_nil, d21]; first | (go_simp; done) | rfl
    | 23, ho | 24, ho | 25, ho | 26, ho | 27, ho | 28, ho | 29, ho | 30, ho =>
      obtain rfl := Option.some.inj ho
      try dsimp only at hd
      have d22 : a'.tmps.getD 36 undef = .bool true := hd 22 (by rfl)
      exact wpOp_off (j := 22) (dj := 36) rfl rfl rfl d22 (by simp [undef]) ⟨undef, rfl, slots_put (ns := 68) (hsa.size.trans rfl) (by decide), Below.refl _ _⟩
    | 31, ho =>
      obtain rfl := Option.some.inj ho
      try dsimp only at hd
      have d22 : a'.tmps.getD 36 undef = .bool true := hd 22 (by rfl)
      have d30 : a'.tmps.getD 44 undef = undef := hd 30 (by rfl)
      refine wpOp_of rfl rfl ?_
      refine op_run (v := .bool true) (w' := w') ?_ ⟨_, rfl, slots_put (ns := 68) (hsa.size.trans rfl) (by decide), Below.refl _ _⟩
      simp only [execOp, Act.eval, List.map_toArray, List.map_cons, List.map_nil, d22, d30]; first | (go_simp; done) | rfl
    | (n + 32), ho => exact absurd ho (by simp)
  case pdone =>
    intro a' w' hsa hb hd
    have d31 : a'.tmps.getD 45 undef = .bool true := hd 31 (by decide)
    exact HQ.out _ _ ⟨hsa.size.trans rfl, hsa.defers.trans rfl, hsa.rest 0 (by rfl), hsa.rest 1 (by rfl), hsa.rest 4 (by rfl), hsa.rest 5 (by rfl), hsa.rest 6 (by rfl), hsa.rest 7 (by rfl), hsa.rest 8 (by rfl), hsa.rest 9 (by rfl)⟩ d31 hb
theorem kn_r4b {K : Act → World → Prop} {c : Code} (hc : regOf (Tryz.f44.body.getD .skip) 4 = some c) (a : Act) {v : Vkn} {wq : World} {tb mb sn sc : Nat} {so : Option Addr} {nm : ByteArray} {lo fi : Int} {pb : Nat} {po pq : Int} {nz : ByteArray} (hF : Fkn a v) (h0v : v.v0 = .pointer (some ⟨tb, 0, none⟩)) (h6v : v.v6 = .pointer (some ⟨pb, 0, none⟩)) (hB : wq.heap[tb]? = some (.cells #[.string nm, .int .i64 lo, .int .i64 fi, .slice so sn sc, .map (some mb)] 52 (0, 0))) (hR : wq.heap[pb]? = some (.cells #[.string nz, .int .i64 po, .int .i64 pq] 75 (0, 0))) (hC : ∀ W, Calls Tryz.prog 26 #[.string nz] W fun e w' => e = .returned (.bool true) ∧ w' = W) (g1 : pq < 0)
    (hQ : ∀ a' w', Fkn a' v → a'.tmps.getD 45 undef = .bool true → Below wq.heap.size wq w' → K a' w') :
    Code.wp Tryz.prog c (Exit.then K fun _ _ _ => False) a wq := by
  have HQ := hide hQ
  clear hQ
  obtain ⟨v0, v1, v4, v5, v6, v7, v8, v9⟩ := v
  simp only at h0v h6v HQ
  subst h0v h6v
  obtain ⟨u, rfl⟩ := frx_kn hF
  clear hF
  simp only [Tryz.f44, Option.getD_some, regOf] at hc
  injection hc with hc
  subst hc
  have HC := hide hC
  clear hC
  refine wp_region_phi (by kernel_rfl) (ns := 68) (uses := (fun i => match i with | 0 => [14] | 1 => [15] | 2 => [16] | 3 => [17] | 4 => [18] | 5 => [19] | 6 => [20] | 7 => [21] | 8 => [22] | 9 => [23] | 10 => [24] | 11 => [25] | 12 => [26] | 13 => [27] | 14 => [28] | 15 => [29] | 16 => [30] | 17 => [31] | 18 => [32] | 19 => [33] | 20 => [34] | 21 => [35] | 22 => [36] | 23 => [37] | 24 => [38] | 25 => [39] | 26 => [40] | 27 => [41] | 28 => [42] | 29 => [43] | 30 => [44] | 31 => [45] | _ => [])) (by kernel_rfl) (by kernel_rfl) (fun _ w w' => Below w.heap.size w w') (fun w => Below wq.heap.size wq w) (fun _ _ _ h r => h.trans (r.mono h.size)) ((Below.refl _ _).drew) (fun i => match i with | 0 => fun s w => s 14 = .pointer (some ⟨pb, 0, none⟩) | 1 => fun s w => s 15 = .string nz | 2 => fun s w => s 16 = .bool true | 3 => fun s w => s 17 = .bool false | 4 => fun s w => s 18 = .bool false | 5 => fun s w => s 19 = .pointer (some ⟨pb, 1, none⟩) | 6 => fun s w => s 20 = .pointer (some ⟨pb, 2, none⟩) | 7 => fun s w => s 21 = .int .i64 pq | 8 => fun s w => s 22 = .bool true | 9 => fun s w => s 23 = .bool true | 10 => fun s w => s 24 = .bool true | 11 => fun s w => s 25 = undef | 12 => fun s w => s 26 = undef | 13 => fun s w => s 27 = undef | 14 => fun s w => s 28 = undef | 15 => fun s w => s 29 = .bool true | 16 => fun s w => s 30 = .bool true | 17 => fun s w => s 31 = undef | 18 => fun s w => s 32 = undef | 19 => fun s w => s 33 = undef | 20 => fun s w => s 34 = undef | 21 => fun s w => s 35 = .bool true | 22 => fun s w => s 36 = .bool true | 23 => fun s w => s 37 = undef | 24 => fun s w => s 38 = undef | 25 => fun s w => s 39 = undef | 26 => fun s w => s 40 = undef | 27 => fun s w => s 41 = undef | 28 => fun s w => s 42 = undef | 29 => fun s w => s 43 = undef | 30 => fun s w => s 44 = undef | 31 => fun s w => s 45 = .bool true | _ => fun _ _ => True) ?phc ?phh ?pstep ?pdone
  case phc =>
    intro i s s' w hx h
    match i, hx, h with
    | 0, hx, h =>
      have e14 := hx 14 (by simp)
      first | exact (show _ from by simp only [← e14] at *; exact h) | (simp only [e14] at h; exact h)
    | 1, hx, h =>
      have e15 := hx 15 (by simp)
      first | exact (show _ from by simp only [← e15] at *; exact h) | (simp only [e15] at h; exact h)
    | 2, hx, h =>
      have e16 := hx 16 (by simp)
      first | exact (show _ from by simp only [← e16] at *; exact h) | (simp only [e16] at h; exact h)
    | 3, hx, h =>
      have e17 := hx 17 (by simp)
      first | exact (show _ from by simp only [← e17] at *; exact h) | (simp only [e17] at h; exact h)
    | 4, hx, h =>
      have e18 := hx 18 (by simp)
      first | exact (show _ from by simp only [← e18] at *; exact h) | (simp only [e18] at h; exact h)
    | 5, hx, h =>
      have e19 := hx 19 (by simp)
      first | exact (show _ from by simp only [← e19] at *; exact h) | (simp only [e19] at h; exact h)
    | 6, hx, h =>
      have e20 := hx 20 (by simp)
      first | exact (show _ from by simp only [← e20] at *; exact h) | (simp only [e20] at h; exact h)
    | 7, hx, h =>
      have e21 := hx 21 (by simp)
      first | exact (show _ from by simp only [← e21] at *; exact h) | (simp only [e21] at h; exact h)
    | 8, hx, h =>
      have e22 := hx 22 (by simp)
      first | exact (show _ from by simp only [← e22] at *; exact h) | (simp only [e22] at h; exact h)
    | 9, hx, h =>
      have e23 := hx 23 (by simp)
      first | exact (show _ from by simp only [← e23] at *; exact h) | (simp only [e23] at h; exact h)
    | 10, hx, h =>
      have e24 := hx 24 (by simp)
      first | exact (show _ from by simp only [← e24] at *; exact h) | (simp only [e24] at h; exact h)
    | 11, hx, h =>
      have e25 := hx 25 (by simp)
      first | exact (show _ from by simp only [← e25] at *; exact h) | (simp only [e25] at h; exact h)
    | 12, hx, h =>
      have e26 := hx 26 (by simp)
      first | exact (show _ from by simp only [← e26] at *; exact h) | (simp only [e26] at h; exact h)
    | 13, hx, h =>
      have e27 := hx 27 (by simp)
      first | exact (show _ from by simp only [← e27] at *; exact h) | (simp only [e27] at h; exact h)
    | 14, hx, h =>
      have e28 := hx 28 (by simp)
      first | exact (show _ from by simp only [← e28] at *; exact h) | (simp only [e28] at h; exact h)
    | 15, hx, h =>
      have e29 := hx 29 (by simp)
      first | exact (show _ from by simp only [← e29] at *; exact h) | (simp only [e29] at h; exact h)
    | 16, hx, h =>
      have e30 := hx 30 (by simp)
      first | exact (show _ from by simp only [← e30] at *; exact h) | (simp only [e30] at h; exact h)
    | 17, hx, h =>
      have e31 := hx 31 (by simp)
      first | exact (show _ from by simp only [← e31] at *; exact h) | (simp only [e31] at h; exact h)
    | 18, hx, h =>
      have e32 := hx 32 (by simp)
      first | exact (show _ from by simp only [← e32] at *; exact h) | (simp only [e32] at h; exact h)
    | 19, hx, h =>
      have e33 := hx 33 (by simp)
      first | exact (show _ from by simp only [← e33] at *; exact h) | (simp only [e33] at h; exact h)
    | 20, hx, h =>
      have e34 := hx 34 (by simp)
      first | exact (show _ from by simp only [← e34] at *; exact h) | (simp only [e34] at h; exact h)
    | 21, hx, h =>
      have e35 := hx 35 (by simp)
      first | exact (show _ from by simp only [← e35] at *; exact h) | (simp only [e35] at h; exact h)
    | 22, hx, h =>
      have e36 := hx 36 (by simp)
      first | exact (show _ from by simp only [← e36] at *; exact h) | (simp only [e36] at h; exact h)
    | 23, hx, h =>
      have e37 := hx 37 (by simp)
      first | exact (show _ from by simp only [← e37] at *; exact h) | (simp only [e37] at h; exact h)
    | 24, hx, h =>
      have e38 := hx 38 (by simp)
      first | exact (show _ from by simp only [← e38] at *; exact h) | (simp only [e38] at h; exact h)
    | 25, hx, h =>
      have e39 := hx 39 (by simp)
      first | exact (show _ from by simp only [← e39] at *; exact h) | (simp only [e39] at h; exact h)
    | 26, hx, h =>
      have e40 := hx 40 (by simp)
      first | exact (show _ from by simp only [← e40] at *; exact h) | (simp only [e40] at h; exact h)
    | 27, hx, h =>
      have e41 := hx 41 (by simp)
      first | exact (show _ from by simp only [← e41] at *; exact h) | (simp only [e41] at h; exact h)
    | 28, hx, h =>
      have e42 := hx 42 (by simp)
      first | exact (show _ from by simp only [← e42] at *; exact h) | (simp only [e42] at h; exact h)
    | 29, hx, h =>
      have e43 := hx 43 (by simp)
      first | exact (show _ from by simp only [← e43] at *; exact h) | (simp only [e43] at h; exact h)
    | 30, hx, h =>
      have e44 := hx 44 (by simp)
      first | exact (show _ from by simp only [← e44] at *; exact h) | (simp only [e44] at h; exact h)
    | 31, hx, h =>
      have e45 := hx 45 (by simp)
      first | exact (show _ from by simp only [← e45] at *; exact h) | (simp only [e45] at h; exact h)
    | (n + 32), _, h => exact h
  case phh =>
    intro i j s w w' hij h hb r
    iterate 32 (rcases i with _ | i; · exact h)
    exact h
  case pstep =>
    intro i o ho a' w' hsa hb hd
    match i, ho with
    | 0, ho =>
      obtain rfl := Option.some.inj ho
      try dsimp only at hd
      have g6 : a'.tmps.getD 6 undef = .pointer (some ⟨pb, 0, none⟩) := hsa.rest 6 (by rfl)
      refine wpOp_of rfl rfl ?_
      refine op_run (v := .pointer (some ⟨pb, 0, none⟩)) (w' := w') ?_ ⟨_, rfl, slots_put (ns := 68) (hsa.size.trans rfl) (by decide), Below.refl _ _⟩
      simp only [execOp, Act.eval, List.map_toArray, List.map_cons, List.map_nil, g6]; first | (go_simp; done) | rfl
    | 1, ho =>
      obtain rfl := Option.some.inj ho
      try dsimp only at hd
      have d0 : a'.tmps.getD 14 undef = .pointer (some ⟨pb, 0, none⟩) := hd 0 (by rfl)
      have y0 : w'.cell? ⟨pb, 0, none⟩ = some (.string nz) := (hb.cell (p := ⟨pb, 0, none⟩) (heap_lt hR)).trans (box_cell hR 0 rfl)
      refine wpOp_of rfl rfl ?_
      refine op_run (v := .string nz) (w' := w') ?_ ⟨_, rfl, slots_put (ns := 68) (hsa.size.trans rfl) (by decide), Below.refl _ _⟩
      simp only [execOp, Act.eval, List.map_toArray, List.map_cons, List.map_nil, d0, y0]; first | (go_simp; done) | rfl
    | 2, ho =>
      obtain rfl := Option.some.inj ho
      try dsimp only at hd
      have d1 : a'.tmps.getD 15 undef = .string nz := hd 1 (by rfl)
      refine wpOp_of rfl rfl ?_
      refine op_call 26 _ _ rfl (enters_of Tryz.func26 (by kernel_rfl) rfl) [.string nz] (by simp only [List.map, Act.eval, d1]) (HC.out w') ?_
      rintro e w'' ⟨rfl, rfl⟩
      refine ⟨_, rfl, _, rfl, ?_, ?_⟩
      · try dsimp only
        exact (slots_put (ns := 68) (hsa.size.trans rfl) (by decide))
      · exact Below.refl _ _
    | 3, ho =>
      obtain rfl := Option.some.inj ho
      try dsimp only at hd
      have d2 : a'.tmps.getD 16 undef = .bool true := hd 2 (by rfl)
      refine wpOp_of rfl rfl ?_
      refine op_run (v := .bool false) (w' := w') ?_ ⟨_, rfl, slots_put (ns := 68) (hsa.size.trans rfl) (by decide), Below.refl _ _⟩
      simp only [execOp, Act.eval, List.map_toArray, List.map_cons, List.map_nil, d2]; first | (go_simp; done) | rfl
    | 4, ho =>
      obtain rfl := Option.some.inj ho
      try dsimp only at hd
      have d3 : a'.tmps.getD 17 undef = .bool false := hd 3 (by rfl)
      refine wpOp_of rfl rfl ?_
      refine op_run (v := .bool false) (w' := w') ?_ ⟨_, rfl, slots_put (ns := 68) (hsa.size.trans rfl) (by decide), Below.refl _ _⟩
      simp only [execOp, Act.eval, List.map_toArray, List.map_cons, List.map_nil, d3]; first | (go_simp; done) | rfl
    | 5, ho =>
      obtain rfl := Option.some.inj ho
      try dsimp only at hd
      have d4 : a'.tmps.getD 18 undef = .bool false := hd 4 (by rfl)
      have g6 : a'.tmps.getD 6 undef = .pointer (some ⟨pb, 0, none⟩) := hsa.rest 6 (by rfl)
      refine wpOp_on (j := 4) (dj := 18) rfl rfl rfl d4 ?_
      refine op_run (v := .pointer (some ⟨pb, 1, none⟩)) (w' := w') ?_ ⟨_, rfl, slots_put (ns := 68) (hsa.size.trans rfl) (by decide), Below.refl _ _⟩
      simp only [execOp, Act.eval, List.map_toArray, List.map_cons, List.map_nil, d4, g6]; first | (go_simp; done) | rfl
    | 6, ho =>
      obtain rfl := Option.some.inj ho
      try dsimp only at hd
      have d4 : a'.tmps.getD 18 undef = .bool false := hd 4 (by rfl)
      have d5 : a'.tmps.getD 19 undef = .pointer (some ⟨pb, 1, none⟩) := hd 5 (by rfl)
      refine wpOp_on (j := 4) (dj := 18) rfl rfl rfl d4 ?_
      refine op_run (v := .pointer (some ⟨pb, 2, none⟩)) (w' := w') ?_ ⟨_, rfl, slots_put (ns := 68) (hsa.size.trans rfl) (by decide), Below.refl _ _⟩
      simp only [execOp, Act.eval, List.map_toArray, List.map_cons, List.map_nil, d4, d5]; first | (go_simp; done) | rfl
    | 7, ho =>
      obtain rfl := Option.some.inj ho
      try dsimp only at hd
      have d4 : a'.tmps.getD 18 undef = .bool false := hd 4 (by rfl)
      have d6 : a'.tmps.getD 20 undef = .pointer (some ⟨pb, 2, none⟩) := hd 6 (by rfl)
      have y2 : w'.cell? ⟨pb, 2, none⟩ = some (.int .i64 pq) := (hb.cell (p := ⟨pb, 2, none⟩) (heap_lt hR)).trans (box_cell hR 2 rfl)
      refine wpOp_on (j := 4) (dj := 18) rfl rfl rfl d4 ?_
      refine op_run (v := .int .i64 pq) (w' := w') ?_ ⟨_, rfl, slots_put (ns := 68) (hsa.size.trans rfl) (by decide), Below.refl _ _⟩
      simp only [execOp, Act.eval, List.map_toArray, List.map_cons, List.map_nil, d4, d6, y2]; first | (go_simp; done) | rfl
    | 8, ho =>
      obtain rfl := Option.some.inj ho
      try dsimp only at hd
      have d4 : a'.tmps.getD 18 undef = .bool false := hd 4 (by rfl)
      have d7 : a'.tmps.getD 21 undef = .int .i64 pq := hd 7 (by rfl)
      refine wpOp_on (j := 4) (dj := 18) rfl rfl rfl d4 ?_
      refine op_run (v := .bool true) (w' := w') ?_ ⟨_, rfl, slots_put (ns := 68) (hsa.size.trans rfl) (by decide), Below.refl _ _⟩
      simp only [execOp, Act.eval, List.map_toArray, List.map_cons, List.map_nil, d4, d7]; first | (go_simp; done) | rfl
    | 9, ho =>
      obtain rfl := Option.some.inj ho
      try dsimp only at hd
      have d4 : a'.tmps.getD 18 undef = .bool false := hd 4 (by rfl)
      have d8 : a'.tmps.getD 22 undef = .bool true := hd 8 (by rfl)
      refine wpOp_of rfl rfl ?_
      refine op_run (v := .bool true) (w' := w') ?_ ⟨_, rfl, slots_put (ns := 68) (hsa.size.trans rfl) (by decide), Below.refl _ _⟩
      simp only [execOp, Act.eval, List.map_toArray, List.map_cons, List.map_nil, d4, d8]; first | (go_simp; done) | rfl
    | 10, ho =>
      obtain rfl := Option.some.inj ho
      try dsimp only at hd
      have d9 : a'.tmps.getD 23 undef = .bool true := hd 9 (by rfl)
      refine wpOp_of rfl rfl ?_
      refine op_run (v := .bool true) (w' := w') ?_ ⟨_, rfl, slots_put (ns := 68) (hsa.size.trans rfl) (by decide), Below.refl _ _⟩
      simp only [execOp, Act.eval, List.map_toArray, List.map_cons, List.map_nil, d9]; first | (go_simp; done) | rfl
    | 11, ho | 12, ho | 13, ho | 14, ho =>
      obtain rfl := Option.some.inj ho
      try dsimp only at hd
      have d10 : a'.tmps.getD 24 undef = .bool true := hd 10 (by rfl)
      exact wpOp_off (j := 10) (dj := 24) rfl rfl rfl d10 (by simp [undef]) ⟨undef, rfl, slots_put (ns := 68) (hsa.size.trans rfl) (by decide), Below.refl _ _⟩
    | 15, ho =>
      obtain rfl := Option.some.inj ho
      try dsimp only at hd
      have d10 : a'.tmps.getD 24 undef = .bool true := hd 10 (by rfl)
      have d14 : a'.tmps.getD 28 undef = undef := hd 14 (by rfl)
      refine wpOp_of rfl rfl ?_
      refine op_run (v := .bool true) (w' := w') ?_ ⟨_, rfl, slots_put (ns := 68) (hsa.size.trans rfl) (by decide), Below.refl _ _⟩
      simp only [execOp, Act.eval, List.map_toArray, List.map_cons, List.map_nil, d10, d14]; first | (go_simp; done) | rfl
    | 16, ho =>
      obtain rfl := Option.some.inj ho
      try dsimp only at hd
      have d15 : a'.tmps.getD 29 undef = .bool true := hd 15 (by rfl)
      refine wpOp_of rfl rfl ?_
      refine op_run (v := .bool true) (w' := w') ?_ ⟨_, rfl, slots_put (ns := 68) (hsa.size.trans rfl) (by decide), Below.refl _ _⟩
      simp only [execOp, Act.eval, List.map_toArray, List.map_cons, List.map_nil, d15]; first | (go_simp; done) | rfl
    | 17, ho | 18, ho | 19, ho | 20, ho =>
      obtain rfl := Option.some.inj ho
      try dsimp only at hd
      have d16 : a'.tmps.getD 30 undef = .bool true := hd 16 (by rfl)
      exact wpOp_off (j := 16) (dj := 30) rfl rfl rfl d16 (by simp [undef]) ⟨undef, rfl, slots_put (ns := 68) (hsa.size.trans rfl) (by decide), Below.refl _ _⟩
    | 21, ho =>
      obtain rfl := Option.some.inj ho
      try dsimp only at hd
      have d16 : a'.tmps.getD 30 undef = .bool true := hd 16 (by rfl)
      have d20 : a'.tmps.getD 34 undef = undef := hd 20 (by rfl)
      refine wpOp_of rfl rfl ?_
      refine op_run (v := .bool true) (w' := w') ?_ ⟨_, rfl, slots_put (ns := 68) (hsa.size.trans rfl) (by decide), Below.refl _ _⟩
      simp only [execOp, Act.eval, List.map_toArray, List.map_cons, List.map_nil, d16, d20]; first | (go_simp; done) | rfl
    | 22, ho =>
      obtain rfl := Option.some.inj ho
      try dsimp only at hd
      have d21 : a'.tmps.getD 35 undef = .bool true := hd 21 (by rfl)
      refine wpOp_of rfl rfl ?_
      refine op_run (v := .bool true) (w' := w') ?_ ⟨_, rfl, slots_put (ns := 68) (hsa.size.trans rfl) (by decide), Below.refl _ _⟩
      simp only [execOp, Act.eval, List.map_toArray, List.map_cons, List.map_nil, d21]; first | (go_simp; done) | rfl
    | 23, ho | 24, ho | 25, ho | 26, ho | 27, ho | 28, ho | 29, ho | 30, ho =>
      obtain rfl := Option.some.inj ho
      try dsimp only at hd
      have d22 : a'.tmps.getD 36 undef = .bool true := hd 22 (by rfl)
      exact wpOp_off (j := 22) (dj := 36) rfl rfl rfl d22 (by simp [undef]) ⟨undef, rfl, slots_put (ns := 68) (hsa.size.trans rfl) (by decide), Below.refl _ _⟩
    | 31, ho =>
      obtain rfl := Option.some.inj ho
      try dsimp only at hd
      have d22 : a'.tmps.getD 36 undef = .bool true := hd 22 (by rfl)
      have d30 : a'.tmps.getD 44 undef = undef := hd 30 (by rfl)
      refine wpOp_of rfl rfl ?_
      refine op_run (v := .bool true) (w' := w') ?_ ⟨_, rfl, slots_put (ns := 68) (hsa.size.trans rfl) (by decide), Below.refl _ _⟩
      simp only [execOp, Act.eval, List.map_toArray, List.map_cons, List.map_nil, d22, d30]; first | (go_simp; done) | rfl
    | (n + 32), ho => exact absurd ho (by simp)
  case pdone =>
    intro a' w' hsa hb hd
    have d31 : a'.tmps.getD 45 undef = .bool true := hd 31 (by decide)
    exact HQ.out _ _ ⟨hsa.size.trans rfl, hsa.defers.trans rfl, hsa.rest 0 (by rfl), hsa.rest 1 (by rfl), hsa.rest 4 (by rfl), hsa.rest 5 (by rfl), hsa.rest 6 (by rfl), hsa.rest 7 (by rfl), hsa.rest 8 (by rfl), hsa.rest 9 (by rfl)⟩ d31 hb
theorem kn_r4c {K : Act → World → Prop} {c : Code} (hc : regOf (Tryz.f44.body.getD .skip) 4 = some c) (a : Act) {v : Vkn} {wq : World} {tb mb sn sc : Nat} {so : Option Addr} {nm : ByteArray} {lo fi : Int} {pb : Nat} {po pq : Int} {nz : ByteArray} (hF : Fkn a v) (h0v : v.v0 = .pointer (some ⟨tb, 0, none⟩)) (h6v : v.v6 = .pointer (some ⟨pb, 0, none⟩)) (hB : wq.heap[tb]? = some (.cells #[.string nm, .int .i64 lo, .int .i64 fi, .slice so sn sc, .map (some mb)] 52 (0, 0))) (hR : wq.heap[pb]? = some (.cells #[.string nz, .int .i64 po, .int .i64 pq] 75 (0, 0))) (hC : ∀ W, Calls Tryz.prog 26 #[.string nz] W fun e w' => e = .returned (.bool true) ∧ w' = W) (g1 : ¬ pq < 0) (g2 : pq > 9007199254740991)
    (hQ : ∀ a' w', Fkn a' v → a'.tmps.getD 45 undef = .bool true → Below wq.heap.size wq w' → K a' w') :
    Code.wp Tryz.prog c (Exit.then K fun _ _ _ => False) a wq := by
  have HQ := hide hQ
  clear hQ
  obtain ⟨v0, v1, v4, v5, v6, v7, v8, v9⟩ := v
  simp only at h0v h6v HQ
  subst h0v h6v
  obtain ⟨u, rfl⟩ := frx_kn hF
  clear hF
  simp only [Tryz.f44, Option.getD_some, regOf] at hc
  injection hc with hc
  subst hc
  have HC := hide hC
  clear hC
  refine wp_region_phi (by kernel_rfl) (ns := 68) (uses := (fun i => match i with | 0 => [14] | 1 => [15] | 2 => [16] | 3 => [17] | 4 => [18] | 5 => [19] | 6 => [20] | 7 => [21] | 8 => [22] | 9 => [23] | 10 => [24] | 11 => [25] | 12 => [26] | 13 => [27] | 14 => [28] | 15 => [29] | 16 => [30] | 17 => [31] | 18 => [32] | 19 => [33] | 20 => [34] | 21 => [35] | 22 => [36] | 23 => [37] | 24 => [38] | 25 => [39] | 26 => [40] | 27 => [41] | 28 => [42] | 29 => [43] | 30 => [44] | 31 => [45] | _ => [])) (by kernel_rfl) (by kernel_rfl) (fun _ w w' => Below w.heap.size w w') (fun w => Below wq.heap.size wq w) (fun _ _ _ h r => h.trans (r.mono h.size)) ((Below.refl _ _).drew) (fun i => match i with | 0 => fun s w => s 14 = .pointer (some ⟨pb, 0, none⟩) | 1 => fun s w => s 15 = .string nz | 2 => fun s w => s 16 = .bool true | 3 => fun s w => s 17 = .bool false | 4 => fun s w => s 18 = .bool false | 5 => fun s w => s 19 = .pointer (some ⟨pb, 1, none⟩) | 6 => fun s w => s 20 = .pointer (some ⟨pb, 2, none⟩) | 7 => fun s w => s 21 = .int .i64 pq | 8 => fun s w => s 22 = .bool false | 9 => fun s w => s 23 = .bool false | 10 => fun s w => s 24 = .bool false | 11 => fun s w => s 25 = .pointer (some ⟨pb, 1, none⟩) | 12 => fun s w => s 26 = .pointer (some ⟨pb, 2, none⟩) | 13 => fun s w => s 27 = .int .i64 pq | 14 => fun s w => s 28 = .bool true | 15 => fun s w => s 29 = .bool true | 16 => fun s w => s 30 = .bool true | 17 => fun s w => s 31 = undef | 18 => fun s w => s 32 = undef | 19 => fun s w => s 33 = undef | 20 => fun s w => s 34 = undef | 21 => fun s w => s 35 = .bool true | 22 => fun s w => s 36 = .bool true | 23 => fun s w => s 37 = undef | 24 => fun s w => s 38 = undef | 25 => fun s w => s 39 = undef | 26 => fun s w => s 40 = undef | 27 => fun s w => s 41 = undef | 28 => fun s w => s 42 = undef | 29 => fun s w => s 43 = undef | 30 => fun s w => s 44 = undef | 31 => fun s w => s 45 = .bool true | _ => fun _ _ => True) ?phc ?phh ?pstep ?pdone
  case phc =>
    intro i s s' w hx h
    match i, hx, h with
    | 0, hx, h =>
      have e14 := hx 14 (by simp)
      first | exact (show _ from by simp only [← e14] at *; exact h) | (simp only [e14] at h; exact h)
    | 1, hx, h =>
      have e15 := hx 15 (by simp)
      first | exact (show _ from by simp only [← e15] at *; exact h) | (simp only [e15] at h; exact h)
    | 2, hx, h =>
      have e16 := hx 16 (by simp)
      first | exact (show _ from by simp only [← e16] at *; exact h) | (simp only [e16] at h; exact h)
    | 3, hx, h =>
      have e17 := hx 17 (by simp)
      first | exact (show _ from by simp only [← e17] at *; exact h) | (simp only [e17] at h; exact h)
    | 4, hx, h =>
      have e18 := hx 18 (by simp)
      first | exact (show _ from by simp only [← e18] at *; exact h) | (simp only [e18] at h; exact h)
    | 5, hx, h =>
      have e19 := hx 19 (by simp)
      first | exact (show _ from by simp only [← e19] at *; exact h) | (simp only [e19] at h; exact h)
    | 6, hx, h =>
      have e20 := hx 20 (by simp)
      first | exact (show _ from by simp only [← e20] at *; exact h) | (simp only [e20] at h; exact h)
    | 7, hx, h =>
      have e21 := hx 21 (by simp)
      first | exact (show _ from by simp only [← e21] at *; exact h) | (simp only [e21] at h; exact h)
    | 8, hx, h =>
      have e22 := hx 22 (by simp)
      first | exact (show _ from by simp only [← e22] at *; exact h) | (simp only [e22] at h; exact h)
    | 9, hx, h =>
      have e23 := hx 23 (by simp)
      first | exact (show _ from by simp only [← e23] at *; exact h) | (simp only [e23] at h; exact h)
    | 10, hx, h =>
      have e24 := hx 24 (by simp)
      first | exact (show _ from by simp only [← e24] at *; exact h) | (simp only [e24] at h; exact h)
    | 11, hx, h =>
      have e25 := hx 25 (by simp)
      first | exact (show _ from by simp only [← e25] at *; exact h) | (simp only [e25] at h; exact h)
    | 12, hx, h =>
      have e26 := hx 26 (by simp)
      first | exact (show _ from by simp only [← e26] at *; exact h) | (simp only [e26] at h; exact h)
    | 13, hx, h =>
      have e27 := hx 27 (by simp)
      first | exact (show _ from by simp only [← e27] at *; exact h) | (simp only [e27] at h; exact h)
    | 14, hx, h =>
      have e28 := hx 28 (by simp)
      first | exact (show _ from by simp only [← e28] at *; exact h) | (simp only [e28] at h; exact h)
    | 15, hx, h =>
      have e29 := hx 29 (by simp)
      first | exact (show _ from by simp only [← e29] at *; exact h) | (simp only [e29] at h; exact h)
    | 16, hx, h =>
      have e30 := hx 30 (by simp)
      first | exact (show _ from by simp only [← e30] at *; exact h) | (simp only [e30] at h; exact h)
    | 17, hx, h =>
      have e31 := hx 31 (by simp)
      first | exact (show _ from by simp only [← e31] at *; exact h) | (simp only [e31] at h; exact h)
    | 18, hx, h =>
      have e32 := hx 32 (by simp)
      first | exact (show _ from by simp only [← e32] at *; exact h) | (simp only [e32] at h; exact h)
    | 19, hx, h =>
      have e33 := hx 33 (by simp)
      first | exact (show _ from by simp only [← e33] at *; exact h) | (simp only [e33] at h; exact h)
    | 20, hx, h =>
      have e34 := hx 34 (by simp)
      first | exact (show _ from by simp only [← e34] at *; exact h) | (simp only [e34] at h; exact h)
    | 21, hx, h =>
      have e35 := hx 35 (by simp)
      first | exact (show _ from by simp only [← e35] at *; exact h) | (simp only [e35] at h; exact h)
    | 22, hx, h =>
      have e36 := hx 36 (by simp)
      first | exact (show _ from by simp only [← e36] at *; exact h) | (simp only [e36] at h; exact h)
    | 23, hx, h =>
      have e37 := hx 37 (by simp)
      first | exact (show _ from by simp only [← e37] at *; exact h) | (simp only [e37] at h; exact h)
    | 24, hx, h =>
      have e38 := hx 38 (by simp)
      first | exact (show _ from by simp only [← e38] at *; exact h) | (simp only [e38] at h; exact h)
    | 25, hx, h =>
      have e39 := hx 39 (by simp)
      first | exact (show _ from by simp only [← e39] at *; exact h) | (simp only [e39] at h; exact h)
    | 26, hx, h =>
      have e40 := hx 40 (by simp)
      first | exact (show _ from by simp only [← e40] at *; exact h) | (simp only [e40] at h; exact h)
    | 27, hx, h =>
      have e41 := hx 41 (by simp)
      first | exact (show _ from by simp only [← e41] at *; exact h) | (simp only [e41] at h; exact h)
    | 28, hx, h =>
      have e42 := hx 42 (by simp)
      first | exact (show _ from by simp only [← e42] at *; exact h) | (simp only [e42] at h; exact h)
    | 29, hx, h =>
      have e43 := hx 43 (by simp)
      first | exact (show _ from by simp only [← e43] at *; exact h) | (simp only [e43] at h; exact h)
    | 30, hx, h =>
      have e44 := hx 44 (by simp)
      first | exact (show _ from by simp only [← e44] at *; exact h) | (simp only [e44] at h; exact h)
    | 31, hx, h =>
      have e45 := hx 45 (by simp)
      first | exact (show _ from by simp only [← e45] at *; exact h) | (simp only [e45] at h; exact h)
    | (n + 32), _, h => exact h
  case phh =>
    intro i j s w w' hij h hb r
    iterate 32 (rcases i with _ | i; · exact h)
    exact h
  case pstep =>
    intro i o ho a' w' hsa hb hd
    match i, ho with
    | 0, ho =>
      obtain rfl := Option.some.inj ho
      try dsimp only at hd
      have g6 : a'.tmps.getD 6 undef = .pointer (some ⟨pb, 0, none⟩) := hsa.rest 6 (by rfl)
      refine wpOp_of rfl rfl ?_
      refine op_run (v := .pointer (some ⟨pb, 0, none⟩)) (w' := w') ?_ ⟨_, rfl, slots_put (ns := 68) (hsa.size.trans rfl) (by decide), Below.refl _ _⟩
      simp only [execOp, Act.eval, List.map_toArray, List.map_cons, List.map_nil, g6]; first | (go_simp; done) | rfl
    | 1, ho =>
      obtain rfl := Option.some.inj ho
      try dsimp only at hd
      have d0 : a'.tmps.getD 14 undef = .pointer (some ⟨pb, 0, none⟩) := hd 0 (by rfl)
      have y0 : w'.cell? ⟨pb, 0, none⟩ = some (.string nz) := (hb.cell (p := ⟨pb, 0, none⟩) (heap_lt hR)).trans (box_cell hR 0 rfl)
      refine wpOp_of rfl rfl ?_
      refine op_run (v := .string nz) (w' := w') ?_ ⟨_, rfl, slots_put (ns := 68) (hsa.size.trans rfl) (by decide), Below.refl _ _⟩
      simp only [execOp, Act.eval, List.map_toArray, List.map_cons, List.map_nil, d0, y0]; first | (go_simp; done) | rfl
    | 2, ho =>
      obtain rfl := Option.some.inj ho
      try dsimp only at hd
      have d1 : a'.tmps.getD 15 undef = .string nz := hd 1 (by rfl)
      refine wpOp_of rfl rfl ?_
      refine op_call 26 _ _ rfl (enters_of Tryz.func26 (by kernel_rfl) rfl) [.string nz] (by simp only [List.map, Act.eval, d1]) (HC.out w') ?_
      rintro e w'' ⟨rfl, rfl⟩
      refine ⟨_, rfl, _, rfl, ?_, ?_⟩
      · try dsimp only
        exact (slots_put (ns := 68) (hsa.size.trans rfl) (by decide))
      · exact Below.refl _ _
    | 3, ho =>
      obtain rfl := Option.some.inj ho
      try dsimp only at hd
      have d2 : a'.tmps.getD 16 undef = .bool true := hd 2 (by rfl)
      refine wpOp_of rfl rfl ?_
      refine op_run (v := .bool false) (w' := w') ?_ ⟨_, rfl, slots_put (ns := 68) (hsa.size.trans rfl) (by decide), Below.refl _ _⟩
      simp only [execOp, Act.eval, List.map_toArray, List.map_cons, List.map_nil, d2]; first | (go_simp; done) | rfl
    | 4, ho =>
      obtain rfl := Option.some.inj ho
      try dsimp only at hd
      have d3 : a'.tmps.getD 17 undef = .bool false := hd 3 (by rfl)
      refine wpOp_of rfl rfl ?_
      refine op_run (v := .bool false) (w' := w') ?_ ⟨_, rfl, slots_put (ns := 68) (hsa.size.trans rfl) (by decide), Below.refl _ _⟩
      simp only [execOp, Act.eval, List.map_toArray, List.map_cons, List.map_nil, d3]; first | (go_simp; done) | rfl
    | 5, ho =>
      obtain rfl := Option.some.inj ho
      try dsimp only at hd
      have d4 : a'.tmps.getD 18 undef = .bool false := hd 4 (by rfl)
      have g6 : a'.tmps.getD 6 undef = .pointer (some ⟨pb, 0, none⟩) := hsa.rest 6 (by rfl)
      refine wpOp_on (j := 4) (dj := 18) rfl rfl rfl d4 ?_
      refine op_run (v := .pointer (some ⟨pb, 1, none⟩)) (w' := w') ?_ ⟨_, rfl, slots_put (ns := 68) (hsa.size.trans rfl) (by decide), Below.refl _ _⟩
      simp only [execOp, Act.eval, List.map_toArray, List.map_cons, List.map_nil, d4, g6]; first | (go_simp; done) | rfl
    | 6, ho =>
      obtain rfl := Option.some.inj ho
      try dsimp only at hd
      have d4 : a'.tmps.getD 18 undef = .bool false := hd 4 (by rfl)
      have d5 : a'.tmps.getD 19 undef = .pointer (some ⟨pb, 1, none⟩) := hd 5 (by rfl)
      refine wpOp_on (j := 4) (dj := 18) rfl rfl rfl d4 ?_
      refine op_run (v := .pointer (some ⟨pb, 2, none⟩)) (w' := w') ?_ ⟨_, rfl, slots_put (ns := 68) (hsa.size.trans rfl) (by decide), Below.refl _ _⟩
      simp only [execOp, Act.eval, List.map_toArray, List.map_cons, List.map_nil, d4, d5]; first | (go_simp; done) | rfl
    | 7, ho =>
      obtain rfl := Option.some.inj ho
      try dsimp only at hd
      have d4 : a'.tmps.getD 18 undef = .bool false := hd 4 (by rfl)
      have d6 : a'.tmps.getD 20 undef = .pointer (some ⟨pb, 2, none⟩) := hd 6 (by rfl)
      have y2 : w'.cell? ⟨pb, 2, none⟩ = some (.int .i64 pq) := (hb.cell (p := ⟨pb, 2, none⟩) (heap_lt hR)).trans (box_cell hR 2 rfl)
      refine wpOp_on (j := 4) (dj := 18) rfl rfl rfl d4 ?_
      refine op_run (v := .int .i64 pq) (w' := w') ?_ ⟨_, rfl, slots_put (ns := 68) (hsa.size.trans rfl) (by decide), Below.refl _ _⟩
      simp only [execOp, Act.eval, List.map_toArray, List.map_cons, List.map_nil, d4, d6, y2]; first | (go_simp; done) | rfl
    | 8, ho =>
      obtain rfl := Option.some.inj ho
      try dsimp only at hd
      have d4 : a'.tmps.getD 18 undef = .bool false := hd 4 (by rfl)
      have d7 : a'.tmps.getD 21 undef = .int .i64 pq := hd 7 (by rfl)
      refine wpOp_on (j := 4) (dj := 18) rfl rfl rfl d4 ?_
      refine op_run (v := .bool false) (w' := w') ?_ ⟨_, rfl, slots_put (ns := 68) (hsa.size.trans rfl) (by decide), Below.refl _ _⟩
      simp only [execOp, Act.eval, List.map_toArray, List.map_cons, List.map_nil, d4, d7]; first | (go_simp; done) | rfl
    | 9, ho =>
      obtain rfl := Option.some.inj ho
      try dsimp only at hd
      have d4 : a'.tmps.getD 18 undef = .bool false := hd 4 (by rfl)
      have d8 : a'.tmps.getD 22 undef = .bool false := hd 8 (by rfl)
      refine wpOp_of rfl rfl ?_
      refine op_run (v := .bool false) (w' := w') ?_ ⟨_, rfl, slots_put (ns := 68) (hsa.size.trans rfl) (by decide), Below.refl _ _⟩
      simp only [execOp, Act.eval, List.map_toArray, List.map_cons, List.map_nil, d4, d8]; first | (go_simp; done) | rfl
    | 10, ho =>
      obtain rfl := Option.some.inj ho
      try dsimp only at hd
      have d9 : a'.tmps.getD 23 undef = .bool false := hd 9 (by rfl)
      refine wpOp_of rfl rfl ?_
      refine op_run (v := .bool false) (w' := w') ?_ ⟨_, rfl, slots_put (ns := 68) (hsa.size.trans rfl) (by decide), Below.refl _ _⟩
      simp only [execOp, Act.eval, List.map_toArray, List.map_cons, List.map_nil, d9]; first | (go_simp; done) | rfl
    | 11, ho =>
      obtain rfl := Option.some.inj ho
      try dsimp only at hd
      have d10 : a'.tmps.getD 24 undef = .bool false := hd 10 (by rfl)
      have g6 : a'.tmps.getD 6 undef = .pointer (some ⟨pb, 0, none⟩) := hsa.rest 6 (by rfl)
      refine wpOp_on (j := 10) (dj := 24) rfl rfl rfl d10 ?_
      refine op_run (v := .pointer (some ⟨pb, 1, none⟩)) (w' := w') ?_ ⟨_, rfl, slots_put (ns := 68) (hsa.size.trans rfl) (by decide), Below.refl _ _⟩
      simp only [execOp, Act.eval, List.map_toArray, List.map_cons, List.map_nil, d10, g6]; first | (go_simp; done) | rfl
    | 12, ho =>
      obtain rfl := Option.some.inj ho
      try dsimp only at hd
      have d10 : a'.tmps.getD 24 undef = .bool false := hd 10 (by rfl)
      have d11 : a'.tmps.getD 25 undef = .pointer (some ⟨pb, 1, none⟩) := hd 11 (by rfl)
      refine wpOp_on (j := 10) (dj := 24) rfl rfl rfl d10 ?_
      refine op_run (v := .pointer (some ⟨pb, 2, none⟩)) (w' := w') ?_ ⟨_, rfl, slots_put (ns := 68) (hsa.size.trans rfl) (by decide), Below.refl _ _⟩
      simp only [execOp, Act.eval, List.map_toArray, List.map_cons, List.map_nil, d10, d11]; first | (go_simp; done) | rfl
    | 13, ho =>
      obtain rfl := Option.some.inj ho
      try dsimp only at hd
      have d10 : a'.tmps.getD 24 undef = .bool false := hd 10 (by rfl)
      have d12 : a'.tmps.getD 26 undef = .pointer (some ⟨pb, 2, none⟩) := hd 12 (by rfl)
      have y2 : w'.cell? ⟨pb, 2, none⟩ = some (.int .i64 pq) := (hb.cell (p := ⟨pb, 2, none⟩) (heap_lt hR)).trans (box_cell hR 2 rfl)
      refine wpOp_on (j := 10) (dj := 24) rfl rfl rfl d10 ?_
      refine op_run (v := .int .i64 pq) (w' := w') ?_ ⟨_, rfl, slots_put (ns := 68) (hsa.size.trans rfl) (by decide), Below.refl _ _⟩
      simp only [execOp, Act.eval, List.map_toArray, List.map_cons, List.map_nil, d10, d12, y2]; first | (go_simp; done) | rfl
    | 14, ho =>
      obtain rfl := Option.some.inj ho
      try dsimp only at hd
      have d10 : a'.tmps.getD 24 undef = .bool false := hd 10 (by rfl)
      have d13 : a'.tmps.getD 27 undef = .int .i64 pq := hd 13 (by rfl)
      refine wpOp_on (j := 10) (dj := 24) rfl rfl rfl d10 ?_
      refine op_run (v := .bool true) (w' := w') ?_ ⟨_, rfl, slots_put (ns := 68) (hsa.size.trans rfl) (by decide), Below.refl _ _⟩
      simp only [execOp, Act.eval, List.map_toArray, List.map_cons, List.map_nil, d10, d13]; first | (go_simp; done) | rfl
    | 15, ho =>
      obtain rfl := Option.some.inj ho
      try dsimp only at hd
      have d10 : a'.tmps.getD 24 undef = .bool false := hd 10 (by rfl)
      have d14 : a'.tmps.getD 28 undef = .bool true := hd 14 (by rfl)
      refine wpOp_of rfl rfl ?_
      refine op_run (v := .bool true) (w' := w') ?_ ⟨_, rfl, slots_put (ns := 68) (hsa.size.trans rfl) (by decide), Below.refl _ _⟩
      simp only [execOp, Act.eval, List.map_toArray, List.map_cons, List.map_nil, d10, d14]; first | (go_simp; done) | rfl
    | 16, ho =>
      obtain rfl := Option.some.inj ho
      try dsimp only at hd
      have d15 : a'.tmps.getD 29 undef = .bool true := hd 15 (by rfl)
      refine wpOp_of rfl rfl ?_
      refine op_run (v := .bool true) (w' := w') ?_ ⟨_, rfl, slots_put (ns := 68) (hsa.size.trans rfl) (by decide), Below.refl _ _⟩
      simp only [execOp, Act.eval, List.map_toArray, List.map_cons, List.map_nil, d15]; first | (go_simp; done) | rfl
    | 17, ho | 18, ho | 19, ho | 20, ho =>
      obtain rfl := Option.some.inj ho
      try dsimp only at hd
      have d16 : a'.tmps.getD 30 undef = .bool true := hd 16 (by rfl)
      exact wpOp_off (j := 16) (dj := 30) rfl rfl rfl d16 (by simp [undef]) ⟨undef, rfl, slots_put (ns := 68) (hsa.size.trans rfl) (by decide), Below.refl _ _⟩
    | 21, ho =>
      obtain rfl := Option.some.inj ho
      try dsimp only at hd
      have d16 : a'.tmps.getD 30 undef = .bool true := hd 16 (by rfl)
      have d20 : a'.tmps.getD 34 undef = undef := hd 20 (by rfl)
      refine wpOp_of rfl rfl ?_
      refine op_run (v := .bool true) (w' := w') ?_ ⟨_, rfl, slots_put (ns := 68) (hsa.size.trans rfl) (by decide), Below.refl _ _⟩
      simp only [execOp, Act.eval, List.map_toArray, List.map_cons, List.map_nil, d16, d20]; first | (go_simp; done) | rfl
    | 22, ho =>
      obtain rfl := Option.some.inj ho
      try dsimp only at hd
      have d21 : a'.tmps.getD 35 undef = .bool true := hd 21 (by rfl)
      refine wpOp_of rfl rfl ?_
      refine op_run (v := .bool true) (w' := w') ?_ ⟨_, rfl, slots_put (ns := 68) (hsa.size.trans rfl) (by decide), Below.refl _ _⟩
      simp only [execOp, Act.eval, List.map_toArray, List.map_cons, List.map_nil, d21]; first | (go_simp; done) | rfl
    | 23, ho | 24, ho | 25, ho | 26, ho | 27, ho | 28, ho | 29, ho | 30, ho =>
      obtain rfl := Option.some.inj ho
      try dsimp only at hd
      have d22 : a'.tmps.getD 36 undef = .bool true := hd 22 (by rfl)
      exact wpOp_off (j := 22) (dj := 36) rfl rfl rfl d22 (by simp [undef]) ⟨undef, rfl, slots_put (ns := 68) (hsa.size.trans rfl) (by decide), Below.refl _ _⟩
    | 31, ho =>
      obtain rfl := Option.some.inj ho
      try dsimp only at hd
      have d22 : a'.tmps.getD 36 undef = .bool true := hd 22 (by rfl)
      have d30 : a'.tmps.getD 44 undef = undef := hd 30 (by rfl)
      refine wpOp_of rfl rfl ?_
      refine op_run (v := .bool true) (w' := w') ?_ ⟨_, rfl, slots_put (ns := 68) (hsa.size.trans rfl) (by decide), Below.refl _ _⟩
      simp only [execOp, Act.eval, List.map_toArray, List.map_cons, List.map_nil, d22, d30]; first | (go_simp; done) | rfl
    | (n + 32), ho => exact absurd ho (by simp)
  case pdone =>
    intro a' w' hsa hb hd
    have d31 : a'.tmps.getD 45 undef = .bool true := hd 31 (by decide)
    exact HQ.out _ _ ⟨hsa.size.trans rfl, hsa.defers.trans rfl, hsa.rest 0 (by rfl), hsa.rest 1 (by rfl), hsa.rest 4 (by rfl), hsa.rest 5 (by rfl), hsa.rest 6 (by rfl), hsa.rest 7 (by rfl), hsa.rest 8 (by rfl), hsa.rest 9 (by rfl)⟩ d31 hb
end Go.Proofs.YtfoomgdlbkjaeaaGreat.Y
