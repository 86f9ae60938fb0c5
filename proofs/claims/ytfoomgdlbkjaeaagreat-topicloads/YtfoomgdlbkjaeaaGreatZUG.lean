/-
  know's regions (mkug.py).
-/
import Derived.Test.YtfoomgdlbkjaeaaGreatZUS
namespace Go.Proofs.YtfoomgdlbkjaeaaGreat.Y
open Go.RowKit
set_option maxHeartbeats 8000000
set_option maxRecDepth 100000
attribute [local go_sem ↓] Go.wp_at_zero Go.wp_at_succ
set_option linter.unusedSimpArgs false
set_option linter.unusedVariables false
theorem frame_kn (t : Array Value) (h : t.size = 68) : ∃ u : Nat → Value, t = List.toArray (u 0 :: u 1 :: u 2 :: u 3 :: u 4 :: u 5 :: u 6 :: u 7 :: u 8 :: u 9 :: u 10 :: u 11 :: u 12 :: u 13 :: u 14 :: u 15 :: u 16 :: u 17 :: u 18 :: u 19 :: u 20 :: u 21 :: u 22 :: u 23 :: u 24 :: u 25 :: u 26 :: u 27 :: u 28 :: u 29 :: u 30 :: u 31 :: u 32 :: u 33 :: u 34 :: u 35 :: u 36 :: u 37 :: u 38 :: u 39 :: u 40 :: u 41 :: u 42 :: u 43 :: u 44 :: u 45 :: u 46 :: u 47 :: u 48 :: u 49 :: u 50 :: u 51 :: u 52 :: u 53 :: u 54 :: u 55 :: u 56 :: u 57 :: u 58 :: u 59 :: u 60 :: u 61 :: u 62 :: u 63 :: u 64 :: u 65 :: u 66 :: u 67 :: []) := by
  refine ⟨fun i => t.getD i undef, ?_⟩
  refine Eq.trans (b := ((List.range 68).map fun i => t.getD i undef).toArray) ?_ rfl
  apply Array.ext
  · simp [h]
  · intro k h1 h2
    simp [Array.getD, h1]
structure Vkn where
  v0 : Value
  v1 : Value
  v4 : Value
  v5 : Value
  v6 : Value
  v7 : Value
  v8 : Value
  v9 : Value
structure Fkn (a : Act) (v : Vkn) : Prop where
  size : a.tmps.size = 68
  defers : a.defers = []
  s0 : a.tmps.getD 0 undef = v.v0
  s1 : a.tmps.getD 1 undef = v.v1
  s4 : a.tmps.getD 4 undef = v.v4
  s5 : a.tmps.getD 5 undef = v.v5
  s6 : a.tmps.getD 6 undef = v.v6
  s7 : a.tmps.getD 7 undef = v.v7
  s8 : a.tmps.getD 8 undef = v.v8
  s9 : a.tmps.getD 9 undef = v.v9
theorem frx_kn {a : Act} {v0 v1 v4 v5 v6 v7 v8 v9 : Value} (h : Fkn a ⟨v0, v1, v4, v5, v6, v7, v8, v9⟩) : ∃ u : Nat → Value, a = ⟨List.toArray (v0 :: v1 :: u 2 :: u 3 :: v4 :: v5 :: v6 :: v7 :: v8 :: v9 :: u 10 :: u 11 :: u 12 :: u 13 :: u 14 :: u 15 :: u 16 :: u 17 :: u 18 :: u 19 :: u 20 :: u 21 :: u 22 :: u 23 :: u 24 :: u 25 :: u 26 :: u 27 :: u 28 :: u 29 :: u 30 :: u 31 :: u 32 :: u 33 :: u 34 :: u 35 :: u 36 :: u 37 :: u 38 :: u 39 :: u 40 :: u 41 :: u 42 :: u 43 :: u 44 :: u 45 :: u 46 :: u 47 :: u 48 :: u 49 :: u 50 :: u 51 :: u 52 :: u 53 :: u 54 :: u 55 :: u 56 :: u 57 :: u 58 :: u 59 :: u 60 :: u 61 :: u 62 :: u 63 :: u 64 :: u 65 :: u 66 :: u 67 :: []), []⟩ := by
  obtain ⟨t', d'⟩ := a
  obtain ⟨hs, hd, q0, q1, q4, q5, q6, q7, q8, q9⟩ := h
  obtain ⟨u, hu⟩ := frame_kn t' hs
  simp only at hd q0 q1 q4 q5 q6 q7 q8 q9
  subst hu hd
  have e0 : u 0 = v0 := q0
  have e1 : u 1 = v1 := q1
  have e4 : u 4 = v4 := q4
  have e5 : u 5 = v5 := q5
  have e6 : u 6 = v6 := q6
  have e7 : u 7 = v7 := q7
  have e8 : u 8 = v8 := q8
  have e9 : u 9 = v9 := q9
  refine ⟨u, ?_⟩
  rw [e0, e1, e4, e5, e6, e7, e8, e9]
theorem kn_r0 {K : Act → World → Prop} {c : Code} (hc : regOf (Tryz.f44.body.getD .skip) 0 = some c) (a : Act) {v : Vkn} {wq : World}  (hF : Fkn a v) (hQ : ∀ a', Fkn a' { v with v4 := .bool false } → K a' wq) :
    Code.wp Tryz.prog c (Exit.then K fun _ _ _ => False) a wq := by
  have HQ := hide hQ
  clear hQ
  obtain ⟨v0, v1, v4, v5, v6, v7, v8, v9⟩ := v
  obtain ⟨u, rfl⟩ := frx_kn hF
  clear hF
  simp only [Tryz.f44, Option.getD_some, regOf] at hc
  injection hc with hc
  subst hc
  go_wp2
  exact HQ.out _ ⟨rfl, rfl, rfl, rfl, rfl, rfl, rfl, rfl, rfl, rfl⟩
theorem kn_r1 {K : Act → World → Prop} {c : Code} (hc : regOf (Tryz.f44.body.getD .skip) 1 = some c) (a : Act) {v : Vkn} {wq : World} {ro : Option Addr} {n rc : Nat} (hF : Fkn a v) (h1v : v.v1 = .slice ro n rc) (hQ : ∀ a', Fkn a' { v with v7 := .slice ro n rc, v8 := .int .i64 (n : Int), v9 := .int .i64 ((0 : Nat) : Int) } → K a' wq) :
    Code.wp Tryz.prog c (Exit.then K fun _ _ _ => False) a wq := by
  have HQ := hide hQ
  clear hQ
  obtain ⟨v0, v1, v4, v5, v6, v7, v8, v9⟩ := v
  simp only at h1v HQ
  subst h1v
  obtain ⟨u, rfl⟩ := frx_kn hF
  clear hF
  simp only [Tryz.f44, Option.getD_some, regOf] at hc
  injection hc with hc
  subst hc
  go_wp2
  exact HQ.out _ ⟨rfl, rfl, rfl, rfl, rfl, rfl, rfl, rfl, rfl, rfl⟩
theorem kn_r2 {K : Act → World → Prop} {c : Code} (hc : regOf (Tryz.f44.body.getD .skip) 2 = some c) (a : Act) {v : Vkn} {wq : World} {i n : Nat} (hF : Fkn a v) (h9v : v.v9 = .int .i64 (i : Int)) (h8v : v.v8 = .int .i64 (n : Int)) (hQ : ∀ a', Fkn a' v → a'.tmps.getD 10 undef = .bool (decide (i < n)) → K a' wq) :
    Code.wp Tryz.prog c (Exit.then K fun _ _ _ => False) a wq := by
  have HQ := hide hQ
  clear hQ
  obtain ⟨v0, v1, v4, v5, v6, v7, v8, v9⟩ := v
  simp only at h9v h8v HQ
  subst h9v h8v
  obtain ⟨u, rfl⟩ := frx_kn hF
  clear hF
  simp only [Tryz.f44, Option.getD_some, regOf] at hc
  injection hc with hc
  subst hc
  by_cases h1 : i < n
  · rw [decide_eq_true h1] at HQ
    have g : (i : Int) < (n : Int) := by omega
    go_wp2
    exact HQ.out _ ⟨rfl, rfl, rfl, rfl, rfl, rfl, rfl, rfl, rfl, rfl⟩ (by first | rfl | (simp; done) | (simp; omega))
  · rw [decide_eq_false h1] at HQ
    have g : ¬ (i : Int) < (n : Int) := by omega
    go_wp2
    exact HQ.out _ ⟨rfl, rfl, rfl, rfl, rfl, rfl, rfl, rfl, rfl, rfl⟩ (by first | rfl | (simp; done) | (simp; omega))
theorem kn_r3 {K : Act → World → Prop} {c : Code} (hc : regOf (Tryz.f44.body.getD .skip) 3 = some c) (a : Act) {v : Vkn} {wq : World} {g off n cp i : Nat} {nz : ByteArray} {po pq : Int} (hF : Fkn a v) (h7v : v.v7 = .slice (some ⟨g, off, none⟩) n cp) (h9v : v.v9 = .int .i64 (i : Int)) (hi : i < n) (c0 : wq.cell? ⟨g, off + i * 3, none⟩ = some (.string nz)) (c1 : wq.cell? ⟨g, off + i * 3 + 1, none⟩ = some (.int .i64 po)) (c2 : wq.cell? ⟨g, off + i * 3 + 2, none⟩ = some (.int .i64 pq))
    (hQ : ∀ a', Fkn a' { v with v5 := .int .i64 (i : Int), v6 := .pointer (some ⟨wq.heap.size, 0, none⟩) } → K a' (wq.alloc (.cells #[.string nz, .int .i64 po, .int .i64 pq] 75))) :
    Code.wp Tryz.prog c (Exit.then K fun _ _ _ => False) a wq := by
  have HQ := hide hQ
  clear hQ
  obtain ⟨v0, v1, v4, v5, v6, v7, v8, v9⟩ := v
  simp only at h7v h9v HQ
  subst h7v h9v
  obtain ⟨u, rfl⟩ := frx_kn hF
  clear hF
  simp only [Tryz.f44, Option.getD_some, regOf] at hc
  injection hc with hc
  subst hc
  have hi0 : (0 : Int) ≤ (i : Int) := by omega
  have hi1 : (i : Int) < (n : Int) := by omega
  go_wp2
  exact HQ.out _ ⟨rfl, rfl, rfl, rfl, rfl, rfl, rfl, rfl, rfl, rfl⟩
theorem kn_r5 {K : Act → World → Prop} {c : Code} (hc : regOf (Tryz.f44.body.getD .skip) 5 = some c) (a : Act) {v : Vkn} {wq : World}  (hF : Fkn a v) (hQ : ∀ a', Fkn a' { v with v4 := .bool false } → K a' wq) :
    Code.wp Tryz.prog c (Exit.then K fun _ _ _ => False) a wq := by
  have HQ := hide hQ
  clear hQ
  obtain ⟨v0, v1, v4, v5, v6, v7, v8, v9⟩ := v
  obtain ⟨u, rfl⟩ := frx_kn hF
  clear hF
  simp only [Tryz.f44, Option.getD_some, regOf] at hc
  injection hc with hc
  subst hc
  go_wp2
  exact HQ.out _ ⟨rfl, rfl, rfl, rfl, rfl, rfl, rfl, rfl, rfl, rfl⟩
theorem kn_r6a {K : Act → World → Prop} {c : Code} (hc : regOf (Tryz.f44.body.getD .skip) 6 = some c) (a : Act) {v : Vkn} {wq : World}  {pb : Nat} {po pq : Int} {nz : ByteArray} (hF : Fkn a v) (h6v : v.v6 = .pointer (some ⟨pb, 0, none⟩)) (h5v : v.v5 = .int .i64 0) (hR : wq.heap[pb]? = some (.cells #[.string nz, .int .i64 po, .int .i64 pq] 75 (0, 0)))
    (hQ : ∀ a' w', Fkn a' v → a'.tmps.getD 58 undef = .bool false → Below wq.heap.size wq w' → K a' w') :
    Code.wp Tryz.prog c (Exit.then K fun _ _ _ => False) a wq := by
  have HQ := hide hQ
  clear hQ
  obtain ⟨v0, v1, v4, v5, v6, v7, v8, v9⟩ := v
  simp only at h6v h5v HQ
  subst h6v h5v
  obtain ⟨u, rfl⟩ := frx_kn hF
  clear hF
  simp only [Tryz.f44, Option.getD_some, regOf] at hc
  injection hc with hc
  subst hc
  refine wp_region_phi (by kernel_rfl) (ns := 68) (uses := (fun i => match i with | 0 => [46] | 1 => [47] | 2 => [48] | 3 => [49] | 4 => [50] | 5 => [51] | 6 => [52] | 7 => [53] | 8 => [54] | 9 => [55] | 10 => [56] | 11 => [57] | 12 => [58] | _ => [])) (by kernel_rfl) (by kernel_rfl) (fun _ w w' => Below w.heap.size w w') (fun w => Below wq.heap.size wq w) (fun _ _ _ h r => h.trans (r.mono h.size)) ((Below.refl _ _).drew) (fun i => match i with | 0 => fun s w => s 46 = .int .i64 0 | 1 => fun s w => s 47 = .bool false | 2 => fun s w => s 48 = .bool false | 3 => fun s w => s 49 = undef | 4 => fun s w => s 50 = undef | 5 => fun s w => s 51 = undef | 6 => fun s w => s 52 = undef | 7 => fun s w => s 53 = undef | 8 => fun s w => s 54 = undef | 9 => fun s w => s 55 = undef | 10 => fun s w => s 56 = undef | 11 => fun s w => s 57 = undef | 12 => fun s w => s 58 = .bool false | _ => fun _ _ => True) ?phc ?phh ?pstep ?pdone
  case phc =>
    intro i s s' w hx h
    match i, hx, h with
    | 0, hx, h =>
      have e46 := hx 46 (by simp)
      first | exact (show _ from by simp only [← e46] at *; exact h) | (simp only [e46] at h; exact h)
    | 1, hx, h =>
      have e47 := hx 47 (by simp)
      first | exact (show _ from by simp only [← e47] at *; exact h) | (simp only [e47] at h; exact h)
    | 2, hx, h =>
      have e48 := hx 48 (by simp)
      first | exact (show _ from by simp only [← e48] at *; exact h) | (simp only [e48] at h; exact h)
    | 3, hx, h =>
      have e49 := hx 49 (by simp)
      first | exact (show _ from by simp only [← e49] at *; exact h) | (simp only [e49] at h; exact h)
    | 4, hx, h =>
      have e50 := hx 50 (by simp)
      first | exact (show _ from by simp only [← e50] at *; exact h) | (simp only [e50] at h; exact h)
    | 5, hx, h =>
      have e51 := hx 51 (by simp)
      first | exact (show _ from by simp only [← e51] at *; exact h) | (simp only [e51] at h; exact h)
    | 6, hx, h =>
      have e52 := hx 52 (by simp)
      first | exact (show _ from by simp only [← e52] at *; exact h) | (simp only [e52] at h; exact h)
    | 7, hx, h =>
      have e53 := hx 53 (by simp)
      first | exact (show _ from by simp only [← e53] at *; exact h) | (simp only [e53] at h; exact h)
    | 8, hx, h =>
      have e54 := hx 54 (by simp)
      first | exact (show _ from by simp only [← e54] at *; exact h) | (simp only [e54] at h; exact h)
    | 9, hx, h =>
      have e55 := hx 55 (by simp)
      first | exact (show _ from by simp only [← e55] at *; exact h) | (simp only [e55] at h; exact h)
    | 10, hx, h =>
      have e56 := hx 56 (by simp)
      first | exact (show _ from by simp only [← e56] at *; exact h) | (simp only [e56] at h; exact h)
    | 11, hx, h =>
      have e57 := hx 57 (by simp)
      first | exact (show _ from by simp only [← e57] at *; exact h) | (simp only [e57] at h; exact h)
    | 12, hx, h =>
      have e58 := hx 58 (by simp)
      first | exact (show _ from by simp only [← e58] at *; exact h) | (simp only [e58] at h; exact h)
    | (n + 13), _, h => exact h
  case phh =>
    intro i j s w w' hij h hb r
    iterate 13 (rcases i with _ | i; · exact h)
    exact h
  case pstep =>
    intro i o ho a' w' hsa hb hd
    match i, ho with
    | 0, ho =>
      obtain rfl := Option.some.inj ho
      try dsimp only at hd
      have g5 : a'.tmps.getD 5 undef = .int .i64 0 := hsa.rest 5 (by rfl)
      refine wpOp_of rfl rfl ?_
      refine op_run (v := .int .i64 0) (w' := w') ?_ ⟨_, rfl, slots_put (ns := 68) (hsa.size.trans rfl) (by decide), Below.refl _ _⟩
      simp only [execOp, Act.eval, List.map_toArray, List.map_cons, List.map_nil, g5]; first | (go_simp; done) | rfl
    | 1, ho =>
      obtain rfl := Option.some.inj ho
      try dsimp only at hd
      have d0 : a'.tmps.getD 46 undef = .int .i64 0 := hd 0 (by rfl)
      refine wpOp_of rfl rfl ?_
      refine op_run (v := .bool false) (w' := w') ?_ ⟨_, rfl, slots_put (ns := 68) (hsa.size.trans rfl) (by decide), Below.refl _ _⟩
      simp only [execOp, Act.eval, List.map_toArray, List.map_cons, List.map_nil, d0]; first | (go_simp; done) | rfl
    | 2, ho =>
      obtain rfl := Option.some.inj ho
      try dsimp only at hd
      have d1 : a'.tmps.getD 47 undef = .bool false := hd 1 (by rfl)
      refine wpOp_of rfl rfl ?_
      refine op_run (v := .bool false) (w' := w') ?_ ⟨_, rfl, slots_put (ns := 68) (hsa.size.trans rfl) (by decide), Below.refl _ _⟩
      simp only [execOp, Act.eval, List.map_toArray, List.map_cons, List.map_nil, d1]; first | (go_simp; done) | rfl
    | 3, ho | 4, ho | 5, ho | 6, ho | 7, ho | 8, ho | 9, ho | 10, ho | 11, ho =>
      obtain rfl := Option.some.inj ho
      try dsimp only at hd
      have d2 : a'.tmps.getD 48 undef = .bool false := hd 2 (by rfl)
      exact wpOp_off (j := 2) (dj := 48) rfl rfl rfl d2 (by simp [undef]) ⟨undef, rfl, slots_put (ns := 68) (hsa.size.trans rfl) (by decide), Below.refl _ _⟩
    | 12, ho =>
      obtain rfl := Option.some.inj ho
      try dsimp only at hd
      have d2 : a'.tmps.getD 48 undef = .bool false := hd 2 (by rfl)
      have d11 : a'.tmps.getD 57 undef = undef := hd 11 (by rfl)
      refine wpOp_of rfl rfl ?_
      refine op_run (v := .bool false) (w' := w') ?_ ⟨_, rfl, slots_put (ns := 68) (hsa.size.trans rfl) (by decide), Below.refl _ _⟩
      simp only [execOp, Act.eval, List.map_toArray, List.map_cons, List.map_nil, d2, d11]; first | (go_simp; done) | rfl
    | (n + 13), ho => exact absurd ho (by simp)
  case pdone =>
    intro a' w' hsa hb hd
    have d12 : a'.tmps.getD 58 undef = .bool false := hd 12 (by decide)
    exact HQ.out _ _ ⟨hsa.size.trans rfl, hsa.defers.trans rfl, hsa.rest 0 (by rfl), hsa.rest 1 (by rfl), hsa.rest 4 (by rfl), hsa.rest 5 (by rfl), hsa.rest 6 (by rfl), hsa.rest 7 (by rfl), hsa.rest 8 (by rfl), hsa.rest 9 (by rfl)⟩ d12 hb
theorem kn_r6b {K : Act → World → Prop} {c : Code} (hc : regOf (Tryz.f44.body.getD .skip) 6 = some c) (a : Act) {v : Vkn} {wq : World}  {pb : Nat} {po pq : Int} {nz : ByteArray} {g off n cp jz : Nat} {sp : ByteArray} (hF : Fkn a v) (h6v : v.v6 = .pointer (some ⟨pb, 0, none⟩)) (h5v : v.v5 = .int .i64 ((jz : Int) + 1)) (h1v : v.v1 = .slice (some ⟨g, off, none⟩) n cp) (hR : wq.heap[pb]? = some (.cells #[.string nz, .int .i64 po, .int .i64 pq] 75 (0, 0))) (hj : jz < n) (hg : g < wq.heap.size) (yq : wq.cell? ⟨g, off + jz * 3, none⟩ = some (.string sp)) (hj2 : jz ≤ 1000000) (hz1 : Op.bytesLess nz.toList sp.toList = true)
    (hQ : ∀ a' w', Fkn a' v → a'.tmps.getD 58 undef = .bool true → Below wq.heap.size wq w' → K a' w') :
    Code.wp Tryz.prog c (Exit.then K fun _ _ _ => False) a wq := by
  have HQ := hide hQ
  clear hQ
  obtain ⟨v0, v1, v4, v5, v6, v7, v8, v9⟩ := v
  simp only at h6v h5v h1v HQ
  subst h6v h5v h1v
  obtain ⟨u, rfl⟩ := frx_kn hF
  clear hF
  simp only [Tryz.f44, Option.getD_some, regOf] at hc
  injection hc with hc
  subst hc
  have hi0 : (0 : Int) ≤ (jz : Int) := by omega
  have hi1 : (jz : Int) < (n : Int) := by omega
  have hi2 : (jz : Int) + 1 > 0 := by omega
  refine wp_region_phi (by kernel_rfl) (ns := 68) (uses := (fun i => match i with | 0 => [46] | 1 => [47] | 2 => [48] | 3 => [49] | 4 => [50] | 5 => [51] | 6 => [52] | 7 => [53] | 8 => [54] | 9 => [55] | 10 => [56] | 11 => [57] | 12 => [58] | _ => [])) (by kernel_rfl) (by kernel_rfl) (fun _ w w' => Below w.heap.size w w') (fun w => Below wq.heap.size wq w) (fun _ _ _ h r => h.trans (r.mono h.size)) ((Below.refl _ _).drew) (fun i => match i with | 0 => fun s w => s 46 = .int .i64 ((jz : Int) + 1) | 1 => fun s w => s 47 = .bool true | 2 => fun s w => s 48 = .bool true | 3 => fun s w => s 49 = .pointer (some ⟨pb, 0, none⟩) | 4 => fun s w => s 50 = .string nz | 5 => fun s w => s 51 = .slice (some ⟨g, off, none⟩) n cp | 6 => fun s w => s 52 = .int .i64 ((jz : Int) + 1) | 7 => fun s w => s 53 = .int .i64 (jz : Int) | 8 => fun s w => s 54 = .pointer (some ⟨g, off + jz * 3, none⟩) | 9 => fun s w => s 55 = .pointer (some ⟨g, off + jz * 3, none⟩) | 10 => fun s w => s 56 = .string sp | 11 => fun s w => s 57 = .bool true | 12 => fun s w => s 58 = .bool true | _ => fun _ _ => True) ?phc ?phh ?pstep ?pdone
  case phc =>
    intro i s s' w hx h
    match i, hx, h with
    | 0, hx, h =>
      have e46 := hx 46 (by simp)
      first | exact (show _ from by simp only [← e46] at *; exact h) | (simp only [e46] at h; exact h)
    | 1, hx, h =>
      have e47 := hx 47 (by simp)
      first | exact (show _ from by simp only [← e47] at *; exact h) | (simp only [e47] at h; exact h)
    | 2, hx, h =>
      have e48 := hx 48 (by simp)
      first | exact (show _ from by simp only [← e48] at *; exact h) | (simp only [e48] at h; exact h)
    | 3, hx, h =>
      have e49 := hx 49 (by simp)
      first | exact (show _ from by simp only [← e49] at *; exact h) | (simp only [e49] at h; exact h)
    | 4, hx, h =>
      have e50 := hx 50 (by simp)
      first | exact (show _ from by simp only [← e50] at *; exact h) | (simp only [e50] at h; exact h)
    | 5, hx, h =>
      have e51 := hx 51 (by simp)
      first | exact (show _ from by simp only [← e51] at *; exact h) | (simp only [e51] at h; exact h)
    | 6, hx, h =>
      have e52 := hx 52 (by simp)
      first | exact (show _ from by simp only [← e52] at *; exact h) | (simp only [e52] at h; exact h)
    | 7, hx, h =>
      have e53 := hx 53 (by simp)
      first | exact (show _ from by simp only [← e53] at *; exact h) | (simp only [e53] at h; exact h)
    | 8, hx, h =>
      have e54 := hx 54 (by simp)
      first | exact (show _ from by simp only [← e54] at *; exact h) | (simp only [e54] at h; exact h)
    | 9, hx, h =>
      have e55 := hx 55 (by simp)
      first | exact (show _ from by simp only [← e55] at *; exact h) | (simp only [e55] at h; exact h)
    | 10, hx, h =>
      have e56 := hx 56 (by simp)
      first | exact (show _ from by simp only [← e56] at *; exact h) | (simp only [e56] at h; exact h)
    | 11, hx, h =>
      have e57 := hx 57 (by simp)
      first | exact (show _ from by simp only [← e57] at *; exact h) | (simp only [e57] at h; exact h)
    | 12, hx, h =>
      have e58 := hx 58 (by simp)
      first | exact (show _ from by simp only [← e58] at *; exact h) | (simp only [e58] at h; exact h)
    | (n + 13), _, h => exact h
  case phh =>
    intro i j s w w' hij h hb r
    iterate 13 (rcases i with _ | i; · exact h)
    exact h
  case pstep =>
    intro i o ho a' w' hsa hb hd
    match i, ho with
    | 0, ho =>
      obtain rfl := Option.some.inj ho
      try dsimp only at hd
      have g5 : a'.tmps.getD 5 undef = .int .i64 ((jz : Int) + 1) := hsa.rest 5 (by rfl)
      refine wpOp_of rfl rfl ?_
      refine op_run (v := .int .i64 ((jz : Int) + 1)) (w' := w') ?_ ⟨_, rfl, slots_put (ns := 68) (hsa.size.trans rfl) (by decide), Below.refl _ _⟩
      simp only [execOp, Act.eval, List.map_toArray, List.map_cons, List.map_nil, g5]; first | (go_simp; done) | rfl
    | 1, ho =>
      obtain rfl := Option.some.inj ho
      try dsimp only at hd
      have d0 : a'.tmps.getD 46 undef = .int .i64 ((jz : Int) + 1) := hd 0 (by rfl)
      refine wpOp_of rfl rfl ?_
      refine op_run (v := .bool true) (w' := w') ?_ ⟨_, rfl, slots_put (ns := 68) (hsa.size.trans rfl) (by decide), Below.refl _ _⟩
      simp only [execOp, Act.eval, List.map_toArray, List.map_cons, List.map_nil, d0]; first | (go_simp; done) | rfl
    | 2, ho =>
      obtain rfl := Option.some.inj ho
      try dsimp only at hd
      have d1 : a'.tmps.getD 47 undef = .bool true := hd 1 (by rfl)
      refine wpOp_of rfl rfl ?_
      refine op_run (v := .bool true) (w' := w') ?_ ⟨_, rfl, slots_put (ns := 68) (hsa.size.trans rfl) (by decide), Below.refl _ _⟩
      simp only [execOp, Act.eval, List.map_toArray, List.map_cons, List.map_nil, d1]; first | (go_simp; done) | rfl
    | 3, ho =>
      obtain rfl := Option.some.inj ho
      try dsimp only at hd
      have d2 : a'.tmps.getD 48 undef = .bool true := hd 2 (by rfl)
      have g6 : a'.tmps.getD 6 undef = .pointer (some ⟨pb, 0, none⟩) := hsa.rest 6 (by rfl)
      refine wpOp_on (j := 2) (dj := 48) rfl rfl rfl d2 ?_
      refine op_run (v := .pointer (some ⟨pb, 0, none⟩)) (w' := w') ?_ ⟨_, rfl, slots_put (ns := 68) (hsa.size.trans rfl) (by decide), Below.refl _ _⟩
      simp only [execOp, Act.eval, List.map_toArray, List.map_cons, List.map_nil, d2, g6]; first | (go_simp; done) | rfl
    | 4, ho =>
      obtain rfl := Option.some.inj ho
      try dsimp only at hd
      have d2 : a'.tmps.getD 48 undef = .bool true := hd 2 (by rfl)
      have d3 : a'.tmps.getD 49 undef = .pointer (some ⟨pb, 0, none⟩) := hd 3 (by rfl)
      have y0 : w'.cell? ⟨pb, 0, none⟩ = some (.string nz) := (hb.cell (p := ⟨pb, 0, none⟩) (heap_lt hR)).trans (box_cell hR 0 rfl)
      refine wpOp_on (j := 2) (dj := 48) rfl rfl rfl d2 ?_
      refine op_run (v := .string nz) (w' := w') ?_ ⟨_, rfl, slots_put (ns := 68) (hsa.size.trans rfl) (by decide), Below.refl _ _⟩
      simp only [execOp, Act.eval, List.map_toArray, List.map_cons, List.map_nil, d2, d3, y0]; first | (go_simp; done) | rfl
    | 5, ho =>
      obtain rfl := Option.some.inj ho
      try dsimp only at hd
      have d2 : a'.tmps.getD 48 undef = .bool true := hd 2 (by rfl)
      have g1 : a'.tmps.getD 1 undef = .slice (some ⟨g, off, none⟩) n cp := hsa.rest 1 (by rfl)
      refine wpOp_on (j := 2) (dj := 48) rfl rfl rfl d2 ?_
      refine op_run (v := .slice (some ⟨g, off, none⟩) n cp) (w' := w') ?_ ⟨_, rfl, slots_put (ns := 68) (hsa.size.trans rfl) (by decide), Below.refl _ _⟩
      simp only [execOp, Act.eval, List.map_toArray, List.map_cons, List.map_nil, d2, g1]; first | (go_simp; done) | rfl
    | 6, ho =>
      obtain rfl := Option.some.inj ho
      try dsimp only at hd
      have d2 : a'.tmps.getD 48 undef = .bool true := hd 2 (by rfl)
      have g5 : a'.tmps.getD 5 undef = .int .i64 ((jz : Int) + 1) := hsa.rest 5 (by rfl)
      refine wpOp_on (j := 2) (dj := 48) rfl rfl rfl d2 ?_
      refine op_run (v := .int .i64 ((jz : Int) + 1)) (w' := w') ?_ ⟨_, rfl, slots_put (ns := 68) (hsa.size.trans rfl) (by decide), Below.refl _ _⟩
      simp only [execOp, Act.eval, List.map_toArray, List.map_cons, List.map_nil, d2, g5]; first | (go_simp; done) | rfl
    | 7, ho =>
      obtain rfl := Option.some.inj ho
      try dsimp only at hd
      have d2 : a'.tmps.getD 48 undef = .bool true := hd 2 (by rfl)
      have d6 : a'.tmps.getD 52 undef = .int .i64 ((jz : Int) + 1) := hd 6 (by rfl)
      refine wpOp_on (j := 2) (dj := 48) rfl rfl rfl d2 ?_
      refine op_run (v := .int .i64 (jz : Int)) (w' := w') ?_ ⟨_, rfl, slots_put (ns := 68) (hsa.size.trans rfl) (by decide), Below.refl _ _⟩
      have e : IntKind.i64.wrap ((jz : Int) + 1 - 1) = (jz : Int) := (by rw [IntKind.wrap_i64]; omega); rw [← e]; clear e; simp only [execOp, Act.eval, List.map_toArray, List.map_cons, List.map_nil, d2, d6]; first | (go_simp; done) | rfl
    | 8, ho =>
      obtain rfl := Option.some.inj ho
      try dsimp only at hd
      have d2 : a'.tmps.getD 48 undef = .bool true := hd 2 (by rfl)
      have d5 : a'.tmps.getD 51 undef = .slice (some ⟨g, off, none⟩) n cp := hd 5 (by rfl)
      have d7 : a'.tmps.getD 53 undef = .int .i64 (jz : Int) := hd 7 (by rfl)
      refine wpOp_on (j := 2) (dj := 48) rfl rfl rfl d2 ?_
      refine op_run (v := .pointer (some ⟨g, off + jz * 3, none⟩)) (w' := w') ?_ ⟨_, rfl, slots_put (ns := 68) (hsa.size.trans rfl) (by decide), Below.refl _ _⟩
      simp only [execOp, Act.eval, List.map_toArray, List.map_cons, List.map_nil, d2, d5, d7]; first | (go_simp; done) | rfl
    | 9, ho =>
      obtain rfl := Option.some.inj ho
      try dsimp only at hd
      have d2 : a'.tmps.getD 48 undef = .bool true := hd 2 (by rfl)
      have d8 : a'.tmps.getD 54 undef = .pointer (some ⟨g, off + jz * 3, none⟩) := hd 8 (by rfl)
      refine wpOp_on (j := 2) (dj := 48) rfl rfl rfl d2 ?_
      refine op_run (v := .pointer (some ⟨g, off + jz * 3, none⟩)) (w' := w') ?_ ⟨_, rfl, slots_put (ns := 68) (hsa.size.trans rfl) (by decide), Below.refl _ _⟩
      simp only [execOp, Act.eval, List.map_toArray, List.map_cons, List.map_nil, d2, d8]; first | (go_simp; done) | rfl
    | 10, ho =>
      obtain rfl := Option.some.inj ho
      try dsimp only at hd
      have d2 : a'.tmps.getD 48 undef = .bool true := hd 2 (by rfl)
      have d9 : a'.tmps.getD 55 undef = .pointer (some ⟨g, off + jz * 3, none⟩) := hd 9 (by rfl)
      have y : w'.cell? ⟨g, off + jz * 3, none⟩ = some (.string sp) := (hb.cell (p := ⟨g, off + jz * 3, none⟩) hg).trans yq
      refine wpOp_on (j := 2) (dj := 48) rfl rfl rfl d2 ?_
      refine op_run (v := .string sp) (w' := w') ?_ ⟨_, rfl, slots_put (ns := 68) (hsa.size.trans rfl) (by decide), Below.refl _ _⟩
      simp only [execOp, Act.eval, List.map_toArray, List.map_cons, List.map_nil, d2, d9, y]; first | (go_simp; done) | rfl
    | 11, ho =>
      obtain rfl := Option.some.inj ho
      try dsimp only at hd
      have d2 : a'.tmps.getD 48 undef = .bool true := hd 2 (by rfl)
      have d4 : a'.tmps.getD 50 undef = .string nz := hd 4 (by rfl)
      have d10 : a'.tmps.getD 56 undef = .string sp := hd 10 (by rfl)
      refine wpOp_on (j := 2) (dj := 48) rfl rfl rfl d2 ?_
      refine op_run (v := .bool true) (w' := w') ?_ ⟨_, rfl, slots_put (ns := 68) (hsa.size.trans rfl) (by decide), Below.refl _ _⟩
      simp only [execOp, Act.eval, d4, d10]; first | (go_simp; done) | (simp [Instr.run, Op.stringOp, hz1]; done) | (go_simp; simp [hz1, hz2]; done)
    | 12, ho =>
      obtain rfl := Option.some.inj ho
      try dsimp only at hd
      have d2 : a'.tmps.getD 48 undef = .bool true := hd 2 (by rfl)
      have d11 : a'.tmps.getD 57 undef = .bool true := hd 11 (by rfl)
      refine wpOp_of rfl rfl ?_
      refine op_run (v := .bool true) (w' := w') ?_ ⟨_, rfl, slots_put (ns := 68) (hsa.size.trans rfl) (by decide), Below.refl _ _⟩
      simp only [execOp, Act.eval, List.map_toArray, List.map_cons, List.map_nil, d2, d11]; first | (go_simp; done) | rfl
    | (n + 13), ho => exact absurd ho (by simp)
  case pdone =>
    intro a' w' hsa hb hd
    have d12 : a'.tmps.getD 58 undef = .bool true := hd 12 (by decide)
    exact HQ.out _ _ ⟨hsa.size.trans rfl, hsa.defers.trans rfl, hsa.rest 0 (by rfl), hsa.rest 1 (by rfl), hsa.rest 4 (by rfl), hsa.rest 5 (by rfl), hsa.rest 6 (by rfl), hsa.rest 7 (by rfl), hsa.rest 8 (by rfl), hsa.rest 9 (by rfl)⟩ d12 hb
theorem kn_r6c {K : Act → World → Prop} {c : Code} (hc : regOf (Tryz.f44.body.getD .skip) 6 = some c) (a : Act) {v : Vkn} {wq : World}  {pb : Nat} {po pq : Int} {nz : ByteArray} {g off n cp jz : Nat} (hF : Fkn a v) (h6v : v.v6 = .pointer (some ⟨pb, 0, none⟩)) (h5v : v.v5 = .int .i64 ((jz : Int) + 1)) (h1v : v.v1 = .slice (some ⟨g, off, none⟩) n cp) (hR : wq.heap[pb]? = some (.cells #[.string nz, .int .i64 po, .int .i64 pq] 75 (0, 0))) (hj : jz < n) (hg : g < wq.heap.size) (yq : wq.cell? ⟨g, off + jz * 3, none⟩ = some (.string nz)) (hj2 : jz ≤ 1000000)
    (hQ : ∀ a' w', Fkn a' v → a'.tmps.getD 58 undef = .bool true → Below wq.heap.size wq w' → K a' w') :
    Code.wp Tryz.prog c (Exit.then K fun _ _ _ => False) a wq := by
  have HQ := hide hQ
  clear hQ
  obtain ⟨v0, v1, v4, v5, v6, v7, v8, v9⟩ := v
  simp only at h6v h5v h1v HQ
  subst h6v h5v h1v
  obtain ⟨u, rfl⟩ := frx_kn hF
  clear hF
  simp only [Tryz.f44, Option.getD_some, regOf] at hc
  injection hc with hc
  subst hc
  have hi0 : (0 : Int) ≤ (jz : Int) := by omega
  have hi1 : (jz : Int) < (n : Int) := by omega
  have hi2 : (jz : Int) + 1 > 0 := by omega
  refine wp_region_phi (by kernel_rfl) (ns := 68) (uses := (fun i => match i with | 0 => [46] | 1 => [47] | 2 => [48] | 3 => [49] | 4 => [50] | 5 => [51] | 6 => [52] | 7 => [53] | 8 => [54] | 9 => [55] | 10 => [56] | 11 => [57] | 12 => [58] | _ => [])) (by kernel_rfl) (by kernel_rfl) (fun _ w w' => Below w.heap.size w w') (fun w => Below wq.heap.size wq w) (fun _ _ _ h r => h.trans (r.mono h.size)) ((Below.refl _ _).drew) (fun i => match i with | 0 => fun s w => s 46 = .int .i64 ((jz : Int) + 1) | 1 => fun s w => s 47 = .bool true | 2 => fun s w => s 48 = .bool true | 3 => fun s w => s 49 = .pointer (some ⟨pb, 0, none⟩) | 4 => fun s w => s 50 = .string nz | 5 => fun s w => s 51 = .slice (some ⟨g, off, none⟩) n cp | 6 => fun s w => s 52 = .int .i64 ((jz : Int) + 1) | 7 => fun s w => s 53 = .int .i64 (jz : Int) | 8 => fun s w => s 54 = .pointer (some ⟨g, off + jz * 3, none⟩) | 9 => fun s w => s 55 = .pointer (some ⟨g, off + jz * 3, none⟩) | 10 => fun s w => s 56 = .string nz | 11 => fun s w => s 57 = .bool true | 12 => fun s w => s 58 = .bool true | _ => fun _ _ => True) ?phc ?phh ?pstep ?pdone
  case phc =>
    intro i s s' w hx h
    match i, hx, h with
    | 0, hx, h =>
      have e46 := hx 46 (by simp)
      first | exact (show _ from by simp only [← e46] at *; exact h) | (simp only [e46] at h; exact h)
    | 1, hx, h =>
      have e47 := hx 47 (by simp)
      first | exact (show _ from by simp only [← e47] at *; exact h) | (simp only [e47] at h; exact h)
    | 2, hx, h =>
      have e48 := hx 48 (by simp)
      first | exact (show _ from by simp only [← e48] at *; exact h) | (simp only [e48] at h; exact h)
    | 3, hx, h =>
      have e49 := hx 49 (by simp)
      first | exact (show _ from by simp only [← e49] at *; exact h) | (simp only [e49] at h; exact h)
    | 4, hx, h =>
      have e50 := hx 50 (by simp)
      first | exact (show _ from by simp only [← e50] at *; exact h) | (simp only [e50] at h; exact h)
    | 5, hx, h =>
      have e51 := hx 51 (by simp)
      first | exact (show _ from by simp only [← e51] at *; exact h) | (simp only [e51] at h; exact h)
    | 6, hx, h =>
      have e52 := hx 52 (by simp)
      first | exact (show _ from by simp only [← e52] at *; exact h) | (simp only [e52] at h; exact h)
    | 7, hx, h =>
      have e53 := hx 53 (by simp)
      first | exact (show _ from by simp only [← e53] at *; exact h) | (simp only [e53] at h; exact h)
    | 8, hx, h =>
      have e54 := hx 54 (by simp)
      first | exact (show _ from by simp only [← e54] at *; exact h) | (simp only [e54] at h; exact h)
    | 9, hx, h =>
      have e55 := hx 55 (by simp)
      first | exact (show _ from by simp only [← e55] at *; exact h) | (simp only [e55] at h; exact h)
    | 10, hx, h =>
      have e56 := hx 56 (by simp)
      first | exact (show _ from by simp only [← e56] at *; exact h) | (simp only [e56] at h; exact h)
    | 11, hx, h =>
      have e57 := hx 57 (by simp)
      first | exact (show _ from by simp only [← e57] at *; exact h) | (simp only [e57] at h; exact h)
    | 12, hx, h =>
      have e58 := hx 58 (by simp)
      first | exact (show _ from by simp only [← e58] at *; exact h) | (simp only [e58] at h; exact h)
    | (n + 13), _, h => exact h
  case phh =>
    intro i j s w w' hij h hb r
    iterate 13 (rcases i with _ | i; · exact h)
    exact h
  case pstep =>
    intro i o ho a' w' hsa hb hd
    match i, ho with
    | 0, ho =>
      obtain rfl := Option.some.inj ho
      try dsimp only at hd
      have g5 : a'.tmps.getD 5 undef = .int .i64 ((jz : Int) + 1) := hsa.rest 5 (by rfl)
      refine wpOp_of rfl rfl ?_
      refine op_run (v := .int .i64 ((jz : Int) + 1)) (w' := w') ?_ ⟨_, rfl, slots_put (ns := 68) (hsa.size.trans rfl) (by decide), Below.refl _ _⟩
      simp only [execOp, Act.eval, List.map_toArray, List.map_cons, List.map_nil, g5]; first | (go_simp; done) | rfl
    | 1, ho =>
      obtain rfl := Option.some.inj ho
      try dsimp only at hd
      have d0 : a'.tmps.getD 46 undef = .int .i64 ((jz : Int) + 1) := hd 0 (by rfl)
      refine wpOp_of rfl rfl ?_
      refine op_run (v := .bool true) (w' := w') ?_ ⟨_, rfl, slots_put (ns := 68) (hsa.size.trans rfl) (by decide), Below.refl _ _⟩
      simp only [execOp, Act.eval, List.map_toArray, List.map_cons, List.map_nil, d0]; first | (go_simp; done) | rfl
    | 2, ho =>
      obtain rfl := Option.some.inj ho
      try dsimp only at hd
      have d1 : a'.tmps.getD 47 undef = .bool true := hd 1 (by rfl)
      refine wpOp_of rfl rfl ?_
      refine op_run (v := .bool true) (w' := w') ?_ ⟨_, rfl, slots_put (ns := 68) (hsa.size.trans rfl) (by decide), Below.refl _ _⟩
      simp only [execOp, Act.eval, List.map_toArray, List.map_cons, List.map_nil, d1]; first | (go_simp; done) | rfl
    | 3, ho =>
      obtain rfl := Option.some.inj ho
      try dsimp only at hd
      have d2 : a'.tmps.getD 48 undef = .bool true := hd 2 (by rfl)
      have g6 : a'.tmps.getD 6 undef = .pointer (some ⟨pb, 0, none⟩) := hsa.rest 6 (by rfl)
      refine wpOp_on (j := 2) (dj := 48) rfl rfl rfl d2 ?_
      refine op_run (v := .pointer (some ⟨pb, 0, none⟩)) (w' := w') ?_ ⟨_, rfl, slots_put (ns := 68) (hsa.size.trans rfl) (by decide), Below.refl _ _⟩
      simp only [execOp, Act.eval, List.map_toArray, List.map_cons, List.map_nil, d2, g6]; first | (go_simp; done) | rfl
    | 4, ho =>
      obtain rfl := Option.some.inj ho
      try dsimp only at hd
      have d2 : a'.tmps.getD 48 undef = .bool true := hd 2 (by rfl)
      have d3 : a'.tmps.getD 49 undef = .pointer (some ⟨pb, 0, none⟩) := hd 3 (by rfl)
      have y0 : w'.cell? ⟨pb, 0, none⟩ = some (.string nz) := (hb.cell (p := ⟨pb, 0, none⟩) (heap_lt hR)).trans (box_cell hR 0 rfl)
      refine wpOp_on (j := 2) (dj := 48) rfl rfl rfl d2 ?_
      refine op_run (v := .string nz) (w' := w') ?_ ⟨_, rfl, slots_put (ns := 68) (hsa.size.trans rfl) (by decide), Below.refl _ _⟩
      simp only [execOp, Act.eval, List.map_toArray, List.map_cons, List.map_nil, d2, d3, y0]; first | (go_simp; done) | rfl
    | 5, ho =>
      obtain rfl := Option.some.inj ho
      try dsimp only at hd
      have d2 : a'.tmps.getD 48 undef = .bool true := hd 2 (by rfl)
      have g1 : a'.tmps.getD 1 undef = .slice (some ⟨g, off, none⟩) n cp := hsa.rest 1 (by rfl)
      refine wpOp_on (j := 2) (dj := 48) rfl rfl rfl d2 ?_
      refine op_run (v := .slice (some ⟨g, off, none⟩) n cp) (w' := w') ?_ ⟨_, rfl, slots_put (ns := 68) (hsa.size.trans rfl) (by decide), Below.refl _ _⟩
      simp only [execOp, Act.eval, List.map_toArray, List.map_cons, List.map_nil, d2, g1]; first | (go_simp; done) | rfl
    | 6, ho =>
      obtain rfl := Option.some.inj ho
      try dsimp only at hd
      have d2 : a'.tmps.getD 48 undef = .bool true := hd 2 (by rfl)
      have g5 : a'.tmps.getD 5 undef = .int .i64 ((jz : Int) + 1) := hsa.rest 5 (by rfl)
      refine wpOp_on (j := 2) (dj := 48) rfl rfl rfl d2 ?_
      refine op_run (v := .int .i64 ((jz : Int) + 1)) (w' := w') ?_ ⟨_, rfl, slots_put (ns := 68) (hsa.size.trans rfl) (by decide), Below.refl _ _⟩
      simp only [execOp, Act.eval, List.map_toArray, List.map_cons, List.map_nil, d2, g5]; first | (go_simp; done) | rfl
    | 7, ho =>
      obtain rfl := Option.some.inj ho
      try dsimp only at hd
      have d2 : a'.tmps.getD 48 undef = .bool true := hd 2 (by rfl)
      have d6 : a'.tmps.getD 52 undef = .int .i64 ((jz : Int) + 1) := hd 6 (by rfl)
      refine wpOp_on (j := 2) (dj := 48) rfl rfl rfl d2 ?_
      refine op_run (v := .int .i64 (jz : Int)) (w' := w') ?_ ⟨_, rfl, slots_put (ns := 68) (hsa.size.trans rfl) (by decide), Below.refl _ _⟩
      have e : IntKind.i64.wrap ((jz : Int) + 1 - 1) = (jz : Int) := (by rw [IntKind.wrap_i64]; omega); rw [← e]; clear e; simp only [execOp, Act.eval, List.map_toArray, List.map_cons, List.map_nil, d2, d6]; first | (go_simp; done) | rfl
    | 8, ho =>
      obtain rfl := Option.some.inj ho
      try dsimp only at hd
      have d2 : a'.tmps.getD 48 undef = .bool true := hd 2 (by rfl)
      have d5 : a'.tmps.getD 51 undef = .slice (some ⟨g, off, none⟩) n cp := hd 5 (by rfl)
      have d7 : a'.tmps.getD 53 undef = .int .i64 (jz : Int) := hd 7 (by rfl)
      refine wpOp_on (j := 2) (dj := 48) rfl rfl rfl d2 ?_
      refine op_run (v := .pointer (some ⟨g, off + jz * 3, none⟩)) (w' := w') ?_ ⟨_, rfl, slots_put (ns := 68) (hsa.size.trans rfl) (by decide), Below.refl _ _⟩
      simp only [execOp, Act.eval, List.map_toArray, List.map_cons, List.map_nil, d2, d5, d7]; first | (go_simp; done) | rfl
    | 9, ho =>
      obtain rfl := Option.some.inj ho
      try dsimp only at hd
      have d2 : a'.tmps.getD 48 undef = .bool true := hd 2 (by rfl)
      have d8 : a'.tmps.getD 54 undef = .pointer (some ⟨g, off + jz * 3, none⟩) := hd 8 (by rfl)
      refine wpOp_on (j := 2) (dj := 48) rfl rfl rfl d2 ?_
      refine op_run (v := .pointer (some ⟨g, off + jz * 3, none⟩)) (w' := w') ?_ ⟨_, rfl, slots_put (ns := 68) (hsa.size.trans rfl) (by decide), Below.refl _ _⟩
      simp only [execOp, Act.eval, List.map_toArray, List.map_cons, List.map_nil, d2, d8]; first | (go_simp; done) | rfl
    | 10, ho =>
      obtain rfl := Option.some.inj ho
      try dsimp only at hd
      have d2 : a'.tmps.getD 48 undef = .bool true := hd 2 (by rfl)
      have d9 : a'.tmps.getD 55 undef = .pointer (some ⟨g, off + jz * 3, none⟩) := hd 9 (by rfl)
      have y : w'.cell? ⟨g, off + jz * 3, none⟩ = some (.string nz) := (hb.cell (p := ⟨g, off + jz * 3, none⟩) hg).trans yq
      refine wpOp_on (j := 2) (dj := 48) rfl rfl rfl d2 ?_
      refine op_run (v := .string nz) (w' := w') ?_ ⟨_, rfl, slots_put (ns := 68) (hsa.size.trans rfl) (by decide), Below.refl _ _⟩
      simp only [execOp, Act.eval, List.map_toArray, List.map_cons, List.map_nil, d2, d9, y]; first | (go_simp; done) | rfl
    | 11, ho =>
      obtain rfl := Option.some.inj ho
      try dsimp only at hd
      have d2 : a'.tmps.getD 48 undef = .bool true := hd 2 (by rfl)
      have d4 : a'.tmps.getD 50 undef = .string nz := hd 4 (by rfl)
      have d10 : a'.tmps.getD 56 undef = .string nz := hd 10 (by rfl)
      refine wpOp_on (j := 2) (dj := 48) rfl rfl rfl d2 ?_
      refine op_run (v := .bool true) (w' := w') ?_ ⟨_, rfl, slots_put (ns := 68) (hsa.size.trans rfl) (by decide), Below.refl _ _⟩
      simp only [execOp, Act.eval, d4, d10]; first | (go_simp; done) | (simp [Instr.run, Op.stringOp, hz1]; done) | (go_simp; simp [hz1, hz2]; done)
    | 12, ho =>
      obtain rfl := Option.some.inj ho
      try dsimp only at hd
      have d2 : a'.tmps.getD 48 undef = .bool true := hd 2 (by rfl)
      have d11 : a'.tmps.getD 57 undef = .bool true := hd 11 (by rfl)
      refine wpOp_of rfl rfl ?_
      refine op_run (v := .bool true) (w' := w') ?_ ⟨_, rfl, slots_put (ns := 68) (hsa.size.trans rfl) (by decide), Below.refl _ _⟩
      simp only [execOp, Act.eval, List.map_toArray, List.map_cons, List.map_nil, d2, d11]; first | (go_simp; done) | rfl
    | (n + 13), ho => exact absurd ho (by simp)
  case pdone =>
    intro a' w' hsa hb hd
    have d12 : a'.tmps.getD 58 undef = .bool true := hd 12 (by decide)
    exact HQ.out _ _ ⟨hsa.size.trans rfl, hsa.defers.trans rfl, hsa.rest 0 (by rfl), hsa.rest 1 (by rfl), hsa.rest 4 (by rfl), hsa.rest 5 (by rfl), hsa.rest 6 (by rfl), hsa.rest 7 (by rfl), hsa.rest 8 (by rfl), hsa.rest 9 (by rfl)⟩ d12 hb
theorem kn_r6d {K : Act → World → Prop} {c : Code} (hc : regOf (Tryz.f44.body.getD .skip) 6 = some c) (a : Act) {v : Vkn} {wq : World}  {pb : Nat} {po pq : Int} {nz : ByteArray} {g off n cp jz : Nat} {sp : ByteArray} (hF : Fkn a v) (h6v : v.v6 = .pointer (some ⟨pb, 0, none⟩)) (h5v : v.v5 = .int .i64 ((jz : Int) + 1)) (h1v : v.v1 = .slice (some ⟨g, off, none⟩) n cp) (hR : wq.heap[pb]? = some (.cells #[.string nz, .int .i64 po, .int .i64 pq] 75 (0, 0))) (hj : jz < n) (hg : g < wq.heap.size) (yq : wq.cell? ⟨g, off + jz * 3, none⟩ = some (.string sp)) (hj2 : jz ≤ 1000000) (hz1 : Op.bytesLess nz.toList sp.toList = false) (hz2 : (nz.toList == sp.toList) = false)
    (hQ : ∀ a' w', Fkn a' v → a'.tmps.getD 58 undef = .bool false → Below wq.heap.size wq w' → K a' w') :
    Code.wp Tryz.prog c (Exit.then K fun _ _ _ => False) a wq := by
  have HQ := hide hQ
  clear hQ
  obtain ⟨v0, v1, v4, v5, v6, v7, v8, v9⟩ := v
  simp only at h6v h5v h1v HQ
  subst h6v h5v h1v
  obtain ⟨u, rfl⟩ := frx_kn hF
  clear hF
  simp only [Tryz.f44, Option.getD_some, regOf] at hc
  injection hc with hc
  subst hc
  have hi0 : (0 : Int) ≤ (jz : Int) := by omega
  have hi1 : (jz : Int) < (n : Int) := by omega
  have hi2 : (jz : Int) + 1 > 0 := by omega
  refine wp_region_phi (by kernel_rfl) (ns := 68) (uses := (fun i => match i with | 0 => [46] | 1 => [47] | 2 => [48] | 3 => [49] | 4 => [50] | 5 => [51] | 6 => [52] | 7 => [53] | 8 => [54] | 9 => [55] | 10 => [56] | 11 => [57] | 12 => [58] | _ => [])) (by kernel_rfl) (by kernel_rfl) (fun _ w w' => Below w.heap.size w w') (fun w => Below wq.heap.size wq w) (fun _ _ _ h r => h.trans (r.mono h.size)) ((Below.refl _ _).drew) (fun i => match i with | 0 => fun s w => s 46 = .int .i64 ((jz : Int) + 1) | 1 => fun s w => s 47 = .bool true | 2 => fun s w => s 48 = .bool true | 3 => fun s w => s 49 = .pointer (some ⟨pb, 0, none⟩) | 4 => fun s w => s 50 = .string nz | 5 => fun s w => s 51 = .slice (some ⟨g, off, none⟩) n cp | 6 => fun s w => s 52 = .int .i64 ((jz : Int) + 1) | 7 => fun s w => s 53 = .int .i64 (jz : Int) | 8 => fun s w => s 54 = .pointer (some ⟨g, off + jz * 3, none⟩) | 9 => fun s w => s 55 = .pointer (some ⟨g, off + jz * 3, none⟩) | 10 => fun s w => s 56 = .string sp | 11 => fun s w => s 57 = .bool false | 12 => fun s w => s 58 = .bool false | _ => fun _ _ => True) ?phc ?phh ?pstep ?pdone
  case phc =>
    intro i s s' w hx h
    match i, hx, h with
    | 0, hx, h =>
      have e46 := hx 46 (by simp)
      first | exact (show _ from by simp only [← e46] at *; exact h) | (simp only [e46] at h; exact h)
    | 1, hx, h =>
      have e47 := hx 47 (by simp)
      first | exact (show _ from by simp only [← e47] at *; exact h) | (simp only [e47] at h; exact h)
    | 2, hx, h =>
      have e48 := hx 48 (by simp)
      first | exact (show _ from by simp only [← e48] at *; exact h) | (simp only [e48] at h; exact h)
    | 3, hx, h =>
      have e49 := hx 49 (by simp)
      first | exact (show _ from by simp only [← e49] at *; exact h) | (simp only [e49] at h; exact h)
    | 4, hx, h =>
      have e50 := hx 50 (by simp)
      first | exact (show _ from by simp only [← e50] at *; exact h) | (simp only [e50] at h; exact h)
    | 5, hx, h =>
      have e51 := hx 51 (by simp)
      first | exact (show _ from by simp only [← e51] at *; exact h) | (simp only [e51] at h; exact h)
    | 6, hx, h =>
      have e52 := hx 52 (by simp)
      first | exact (show _ from by simp only [← e52] at *; exact h) | (simp only [e52] at h; exact h)
    | 7, hx, h =>
      have e53 := hx 53 (by simp)
      first | exact (show _ from by simp only [← e53] at *; exact h) | (simp only [e53] at h; exact h)
    | 8, hx, h =>
      have e54 := hx 54 (by simp)
      first | exact (show _ from by simp only [← e54] at *; exact h) | (simp only [e54] at h; exact h)
    | 9, hx, h =>
      have e55 := hx 55 (by simp)
      first | exact (show _ from by simp only [← e55] at *; exact h) | (simp only [e55] at h; exact h)
    | 10, hx, h =>
      have e56 := hx 56 (by simp)
      first | exact (show _ from by simp only [← e56] at *; exact h) | (simp only [e56] at h; exact h)
    | 11, hx, h =>
      have e57 := hx 57 (by simp)
      first | exact (show _ from by simp only [← e57] at *; exact h) | (simp only [e57] at h; exact h)
    | 12, hx, h =>
      have e58 := hx 58 (by simp)
      first | exact (show _ from by simp only [← e58] at *; exact h) | (simp only [e58] at h; exact h)
    | (n + 13), _, h => exact h
  case phh =>
    intro i j s w w' hij h hb r
    iterate 13 (rcases i with _ | i; · exact h)
    exact h
  case pstep =>
    intro i o ho a' w' hsa hb hd
    match i, ho with
    | 0, ho =>
      obtain rfl := Option.some.inj ho
      try dsimp only at hd
      have g5 : a'.tmps.getD 5 undef = .int .i64 ((jz : Int) + 1) := hsa.rest 5 (by rfl)
      refine wpOp_of rfl rfl ?_
      refine op_run (v := .int .i64 ((jz : Int) + 1)) (w' := w') ?_ ⟨_, rfl, slots_put (ns := 68) (hsa.size.trans rfl) (by decide), Below.refl _ _⟩
      simp only [execOp, Act.eval, List.map_toArray, List.map_cons, List.map_nil, g5]; first | (go_simp; done) | rfl
    | 1, ho =>
      obtain rfl := Option.some.inj ho
      try dsimp only at hd
      have d0 : a'.tmps.getD 46 undef = .int .i64 ((jz : Int) + 1) := hd 0 (by rfl)
      refine wpOp_of rfl rfl ?_
      refine op_run (v := .bool true) (w' := w') ?_ ⟨_, rfl, slots_put (ns := 68) (hsa.size.trans rfl) (by decide), Below.refl _ _⟩
      simp only [execOp, Act.eval, List.map_toArray, List.map_cons, List.map_nil, d0]; first | (go_simp; done) | rfl
    | 2, ho =>
      obtain rfl := Option.some.inj ho
      try dsimp only at hd
      have d1 : a'.tmps.getD 47 undef = .bool true := hd 1 (by rfl)
      refine wpOp_of rfl rfl ?_
      refine op_run (v := .bool true) (w' := w') ?_ ⟨_, rfl, slots_put (ns := 68) (hsa.size.trans rfl) (by decide), Below.refl _ _⟩
      simp only [execOp, Act.eval, List.map_toArray, List.map_cons, List.map_nil, d1]; first | (go_simp; done) | rfl
    | 3, ho =>
      obtain rfl := Option.some.inj ho
      try dsimp only at hd
      have d2 : a'.tmps.getD 48 undef = .bool true := hd 2 (by rfl)
      have g6 : a'.tmps.getD 6 undef = .pointer (some ⟨pb, 0, none⟩) := hsa.rest 6 (by rfl)
      refine wpOp_on (j := 2) (dj := 48) rfl rfl rfl d2 ?_
      refine op_run (v := .pointer (some ⟨pb, 0, none⟩)) (w' := w') ?_ ⟨_, rfl, slots_put (ns := 68) (hsa.size.trans rfl) (by decide), Below.refl _ _⟩
      simp only [execOp, Act.eval, List.map_toArray, List.map_cons, List.map_nil, d2, g6]; first | (go_simp; done) | rfl
    | 4, ho =>
      obtain rfl := Option.some.inj ho
      try dsimp only at hd
      have d2 : a'.tmps.getD 48 undef = .bool true := hd 2 (by rfl)
      have d3 : a'.tmps.getD 49 undef = .pointer (some ⟨pb, 0, none⟩) := hd 3 (by rfl)
      have y0 : w'.cell? ⟨pb, 0, none⟩ = some (.string nz) := (hb.cell (p := ⟨pb, 0, none⟩) (heap_lt hR)).trans (box_cell hR 0 rfl)
      refine wpOp_on (j := 2) (dj := 48) rfl rfl rfl d2 ?_
      refine op_run (v := .string nz) (w' := w') ?_ ⟨_, rfl, slots_put (ns := 68) (hsa.size.trans rfl) (by decide), Below.refl _ _⟩
      simp only [execOp, Act.eval, List.map_toArray, List.map_cons, List.map_nil, d2, d3, y0]; first | (go_simp; done) | rfl
    | 5, ho =>
      obtain rfl := Option.some.inj ho
      try dsimp only at hd
      have d2 : a'.tmps.getD 48 undef = .bool true := hd 2 (by rfl)
      have g1 : a'.tmps.getD 1 undef = .slice (some ⟨g, off, none⟩) n cp := hsa.rest 1 (by rfl)
      refine wpOp_on (j := 2) (dj := 48) rfl rfl rfl d2 ?_
      refine op_run (v := .slice (some ⟨g, off, none⟩) n cp) (w' := w') ?_ ⟨_, rfl, slots_put (ns := 68) (hsa.size.trans rfl) (by decide), Below.refl _ _⟩
      simp only [execOp, Act.eval, List.map_toArray, List.map_cons, List.map_nil, d2, g1]; first | (go_simp; done) | rfl
    | 6, ho =>
      obtain rfl := Option.some.inj ho
      try dsimp only at hd
      have d2 : a'.tmps.getD 48 undef = .bool true := hd 2 (by rfl)
      have g5 : a'.tmps.getD 5 undef = .int .i64 ((jz : Int) + 1) := hsa.rest 5 (by rfl)
      refine wpOp_on (j := 2) (dj := 48) rfl rfl rfl d2 ?_
      refine op_run (v := .int .i64 ((jz : Int) + 1)) (w' := w') ?_ ⟨_, rfl, slots_put (ns := 68) (hsa.size.trans rfl) (by decide), Below.refl _ _⟩
      simp only [execOp, Act.eval, List.map_toArray, List.map_cons, List.map_nil, d2, g5]; first | (go_simp; done) | rfl
    | 7, ho =>
      obtain rfl := Option.some.inj ho
      try dsimp only at hd
      have d2 : a'.tmps.getD 48 undef = .bool true := hd 2 (by rfl)
      have d6 : a'.tmps.getD 52 undef = .int .i64 ((jz : Int) + 1) := hd 6 (by rfl)
      refine wpOp_on (j := 2) (dj := 48) rfl rfl rfl d2 ?_
      refine op_run (v := .int .i64 (jz : Int)) (w' := w') ?_ ⟨_, rfl, slots_put (ns := 68) (hsa.size.trans rfl) (by decide), Below.refl _ _⟩
      have e : IntKind.i64.wrap ((jz : Int) + 1 - 1) = (jz : Int) := (by rw [IntKind.wrap_i64]; omega); rw [← e]; clear e; simp only [execOp, Act.eval, List.map_toArray, List.map_cons, List.map_nil, d2, d6]; first | (go_simp; done) | rfl
    | 8, ho =>
      obtain rfl := Option.some.inj ho
      try dsimp only at hd
      have d2 : a'.tmps.getD 48 undef = .bool true := hd 2 (by rfl)
      have d5 : a'.tmps.getD 51 undef = .slice (some ⟨g, off, none⟩) n cp := hd 5 (by rfl)
      have d7 : a'.tmps.getD 53 undef = .int .i64 (jz : Int) := hd 7 (by rfl)
      refine wpOp_on (j := 2) (dj := 48) rfl rfl rfl d2 ?_
      refine op_run (v := .pointer (some ⟨g, off + jz * 3, none⟩)) (w' := w') ?_ ⟨_, rfl, slots_put (ns := 68) (hsa.size.trans rfl) (by decide), Below.refl _ _⟩
      simp only [execOp, Act.eval, List.map_toArray, List.map_cons, List.map_nil, d2, d5, d7]; first | (go_simp; done) | rfl
    | 9, ho =>
      obtain rfl := Option.some.inj ho
      try dsimp only at hd
      have d2 : a'.tmps.getD 48 undef = .bool true := hd 2 (by rfl)
      have d8 : a'.tmps.getD 54 undef = .pointer (some ⟨g, off + jz * 3, none⟩) := hd 8 (by rfl)
      refine wpOp_on (j := 2) (dj := 48) rfl rfl rfl d2 ?_
      refine op_run (v := .pointer (some ⟨g, off + jz * 3, none⟩)) (w' := w') ?_ ⟨_, rfl, slots_put (ns := 68) (hsa.size.trans rfl) (by decide), Below.refl _ _⟩
      simp only [execOp, Act.eval, List.map_toArray, List.map_cons, List.map_nil, d2, d8]; first | (go_simp; done) | rfl
    | 10, ho =>
      obtain rfl := Option.some.inj ho
      try dsimp only at hd
      have d2 : a'.tmps.getD 48 undef = .bool true := hd 2 (by rfl)
      have d9 : a'.tmps.getD 55 undef = .pointer (some ⟨g, off + jz * 3, none⟩) := hd 9 (by rfl)
      have y : w'.cell? ⟨g, off + jz * 3, none⟩ = some (.string sp) := (hb.cell (p := ⟨g, off + jz * 3, none⟩) hg).trans yq
      refine wpOp_on (j := 2) (dj := 48) rfl rfl rfl d2 ?_
      refine op_run (v := .string sp) (w' := w') ?_ ⟨_, rfl, slots_put (ns := 68) (hsa.size.trans rfl) (by decide), Below.refl _ _⟩
      simp only [execOp, Act.eval, List.map_toArray, List.map_cons, List.map_nil, d2, d9, y]; first | (go_simp; done) | rfl
    | 11, ho =>
      obtain rfl := Option.some.inj ho
      try dsimp only at hd
      have d2 : a'.tmps.getD 48 undef = .bool true := hd 2 (by rfl)
      have d4 : a'.tmps.getD 50 undef = .string nz := hd 4 (by rfl)
      have d10 : a'.tmps.getD 56 undef = .string sp := hd 10 (by rfl)
      refine wpOp_on (j := 2) (dj := 48) rfl rfl rfl d2 ?_
      refine op_run (v := .bool false) (w' := w') ?_ ⟨_, rfl, slots_put (ns := 68) (hsa.size.trans rfl) (by decide), Below.refl _ _⟩
      simp only [execOp, Act.eval, d4, d10]; first | (go_simp; done) | (simp [Instr.run, Op.stringOp, hz1]; done) | (go_simp; simp [hz1, hz2]; done)
    | 12, ho =>
      obtain rfl := Option.some.inj ho
      try dsimp only at hd
      have d2 : a'.tmps.getD 48 undef = .bool true := hd 2 (by rfl)
      have d11 : a'.tmps.getD 57 undef = .bool false := hd 11 (by rfl)
      refine wpOp_of rfl rfl ?_
      refine op_run (v := .bool false) (w' := w') ?_ ⟨_, rfl, slots_put (ns := 68) (hsa.size.trans rfl) (by decide), Below.refl _ _⟩
      simp only [execOp, Act.eval, List.map_toArray, List.map_cons, List.map_nil, d2, d11]; first | (go_simp; done) | rfl
    | (n + 13), ho => exact absurd ho (by simp)
  case pdone =>
    intro a' w' hsa hb hd
    have d12 : a'.tmps.getD 58 undef = .bool false := hd 12 (by decide)
    exact HQ.out _ _ ⟨hsa.size.trans rfl, hsa.defers.trans rfl, hsa.rest 0 (by rfl), hsa.rest 1 (by rfl), hsa.rest 4 (by rfl), hsa.rest 5 (by rfl), hsa.rest 6 (by rfl), hsa.rest 7 (by rfl), hsa.rest 8 (by rfl), hsa.rest 9 (by rfl)⟩ d12 hb
theorem kn_r7 {K : Act → World → Prop} {c : Code} (hc : regOf (Tryz.f44.body.getD .skip) 7 = some c) (a : Act) {v : Vkn} {wq : World}  (hF : Fkn a v) (hQ : ∀ a', Fkn a' { v with v4 := .bool false } → K a' wq) :
    Code.wp Tryz.prog c (Exit.then K fun _ _ _ => False) a wq := by
  have HQ := hide hQ
  clear hQ
  obtain ⟨v0, v1, v4, v5, v6, v7, v8, v9⟩ := v
  obtain ⟨u, rfl⟩ := frx_kn hF
  clear hF
  simp only [Tryz.f44, Option.getD_some, regOf] at hc
  injection hc with hc
  subst hc
  go_wp2
  exact HQ.out _ ⟨rfl, rfl, rfl, rfl, rfl, rfl, rfl, rfl, rfl, rfl⟩
theorem kn_r8 {K : Act → World → Prop} {c : Code} (hc : regOf (Tryz.f44.body.getD .skip) 8 = some c) (a : Act) {v : Vkn} {wq : World} {tb mb sn sc : Nat} {so : Option Addr} {nm : ByteArray} {lo fi : Int} {pb : Nat} {po pq : Int} {nz : ByteArray} {R : World → World → Prop} (hF : Fkn a v) (h0v : v.v0 = .pointer (some ⟨tb, 0, none⟩)) (h6v : v.v6 = .pointer (some ⟨pb, 0, none⟩)) (hB : wq.heap[tb]? = some (.cells #[.string nm, .int .i64 lo, .int .i64 fi, .slice so sn sc, .map (some mb)] 52 (0, 0))) (hR : wq.heap[pb]? = some (.cells #[.string nz, .int .i64 po, .int .i64 pq] 75 (0, 0))) (hM : ∀ W, Below wq.heap.size wq W → ∃ W2, (Instr.mapUpdate 50 (.map (some mb)) (.string nz) (.agg #[.int .i64 po, .int .i64 pq])).run Tryz.prog W = .ok () W2 ∧ R W W2)
    (hQ : ∀ a' w1 w2, Fkn a' v → Below wq.heap.size wq w1 → R w1 w2 → K a' w2) :
    Code.wp Tryz.prog c (Exit.then K fun _ _ _ => False) a wq := by
  have HQ := hide hQ
  clear hQ
  obtain ⟨v0, v1, v4, v5, v6, v7, v8, v9⟩ := v
  simp only at h0v h6v HQ
  subst h0v h6v
  obtain ⟨u, rfl⟩ := frx_kn hF
  clear hF
  simp only [Tryz.f44, Option.getD_some, regOf] at hc
  injection hc with hc
  subst hc
  have HM := hide hM
  clear hM
  refine wp_region_last 8 rfl (by kernel_rfl) rfl rfl (by kernel_rfl) ?_
  intro ops' hops'
  simp only [idle, List.setIfInBounds_toArray, List.set_cons_succ, List.set_cons_zero] at hops'
  subst hops'
  refine wpAny_phi (ns := 68) (uses := (fun i => match i with | 0 => [59] | 1 => [60] | 2 => [61] | 3 => [62] | 4 => [63] | 5 => [64] | 6 => [65] | 7 => [66] | 8 => [] | _ => [])) (by kernel_rfl) (by kernel_rfl) (fun _ w w' => Below w.heap.size w w') (fun w => Below wq.heap.size wq w) (fun _ _ _ h r => h.trans (r.mono h.size)) ((Below.refl _ _).drew) (fun i => match i with | 0 => fun s w => s 59 = .pointer (some ⟨tb, 0, none⟩) | 1 => fun s w => s 60 = .pointer (some ⟨tb, 0, none⟩) | 2 => fun s w => s 61 = .pointer (some ⟨tb, 4, none⟩) | 3 => fun s w => s 62 = .map (some mb) | 4 => fun s w => s 63 = .pointer (some ⟨pb, 0, none⟩) | 5 => fun s w => s 64 = .string nz | 6 => fun s w => s 65 = .pointer (some ⟨pb, 1, none⟩) | 7 => fun s w => s 66 = .agg #[.int .i64 po, .int .i64 pq] | 8 => fun s w => True | _ => fun _ _ => True) ?phc ?phh ?pstep ?pdone
  case phc =>
    intro i s s' w hx h
    match i, hx, h with
    | 0, hx, h =>
      have e59 := hx 59 (by simp)
      first | exact (show _ from by simp only [← e59] at *; exact h) | (simp only [e59] at h; exact h)
    | 1, hx, h =>
      have e60 := hx 60 (by simp)
      first | exact (show _ from by simp only [← e60] at *; exact h) | (simp only [e60] at h; exact h)
    | 2, hx, h =>
      have e61 := hx 61 (by simp)
      first | exact (show _ from by simp only [← e61] at *; exact h) | (simp only [e61] at h; exact h)
    | 3, hx, h =>
      have e62 := hx 62 (by simp)
      first | exact (show _ from by simp only [← e62] at *; exact h) | (simp only [e62] at h; exact h)
    | 4, hx, h =>
      have e63 := hx 63 (by simp)
      first | exact (show _ from by simp only [← e63] at *; exact h) | (simp only [e63] at h; exact h)
    | 5, hx, h =>
      have e64 := hx 64 (by simp)
      first | exact (show _ from by simp only [← e64] at *; exact h) | (simp only [e64] at h; exact h)
    | 6, hx, h =>
      have e65 := hx 65 (by simp)
      first | exact (show _ from by simp only [← e65] at *; exact h) | (simp only [e65] at h; exact h)
    | 7, hx, h =>
      have e66 := hx 66 (by simp)
      first | exact (show _ from by simp only [← e66] at *; exact h) | (simp only [e66] at h; exact h)
    | 8, hx, h =>
      exact h
    | (n + 9), _, h => exact h
  case phh =>
    intro i j s w w' hij h hb r
    iterate 9 (rcases i with _ | i; · exact h)
    exact h
  case pstep =>
    intro i o ho a' w' hsa hb hd
    match i, ho with
    | 0, ho =>
      obtain rfl := Option.some.inj ho
      try dsimp only at hd
      have g0 : a'.tmps.getD 0 undef = .pointer (some ⟨tb, 0, none⟩) := hsa.rest 0 (by rfl)
      refine wpOp_of rfl rfl ?_
      refine op_run (v := .pointer (some ⟨tb, 0, none⟩)) (w' := w') ?_ ⟨_, rfl, slots_put (ns := 68) (hsa.size.trans rfl) (by decide), Below.refl _ _⟩
      simp only [execOp, Act.eval, List.map_toArray, List.map_cons, List.map_nil, g0]; first | (go_simp; done) | rfl
    | 1, ho =>
      obtain rfl := Option.some.inj ho
      try dsimp only at hd
      have d0 : a'.tmps.getD 59 undef = .pointer (some ⟨tb, 0, none⟩) := hd 0 (by rfl)
      refine wpOp_of rfl rfl ?_
      refine op_run (v := .pointer (some ⟨tb, 0, none⟩)) (w' := w') ?_ ⟨_, rfl, slots_put (ns := 68) (hsa.size.trans rfl) (by decide), Below.refl _ _⟩
      simp only [execOp, Act.eval, List.map_toArray, List.map_cons, List.map_nil, d0]; first | (go_simp; done) | rfl
    | 2, ho =>
      obtain rfl := Option.some.inj ho
      try dsimp only at hd
      have d1 : a'.tmps.getD 60 undef = .pointer (some ⟨tb, 0, none⟩) := hd 1 (by rfl)
      refine wpOp_of rfl rfl ?_
      refine op_run (v := .pointer (some ⟨tb, 4, none⟩)) (w' := w') ?_ ⟨_, rfl, slots_put (ns := 68) (hsa.size.trans rfl) (by decide), Below.refl _ _⟩
      simp only [execOp, Act.eval, List.map_toArray, List.map_cons, List.map_nil, d1]; first | (go_simp; done) | rfl
    | 3, ho =>
      obtain rfl := Option.some.inj ho
      try dsimp only at hd
      have d2 : a'.tmps.getD 61 undef = .pointer (some ⟨tb, 4, none⟩) := hd 2 (by rfl)
      have y : w'.cell? ⟨tb, 4, none⟩ = some (.map (some mb)) := (hb.cell (p := ⟨tb, 4, none⟩) (heap_lt hB)).trans (box_cell hB 4 rfl)
      refine wpOp_of rfl rfl ?_
      refine op_run (v := .map (some mb)) (w' := w') ?_ ⟨_, rfl, slots_put (ns := 68) (hsa.size.trans rfl) (by decide), Below.refl _ _⟩
      simp only [execOp, Act.eval, List.map_toArray, List.map_cons, List.map_nil, d2, y]; first | (go_simp; done) | rfl
    | 4, ho =>
      obtain rfl := Option.some.inj ho
      try dsimp only at hd
      have g6 : a'.tmps.getD 6 undef = .pointer (some ⟨pb, 0, none⟩) := hsa.rest 6 (by rfl)
      refine wpOp_of rfl rfl ?_
      refine op_run (v := .pointer (some ⟨pb, 0, none⟩)) (w' := w') ?_ ⟨_, rfl, slots_put (ns := 68) (hsa.size.trans rfl) (by decide), Below.refl _ _⟩
      simp only [execOp, Act.eval, List.map_toArray, List.map_cons, List.map_nil, g6]; first | (go_simp; done) | rfl
    | 5, ho =>
      obtain rfl := Option.some.inj ho
      try dsimp only at hd
      have d4 : a'.tmps.getD 63 undef = .pointer (some ⟨pb, 0, none⟩) := hd 4 (by rfl)
      have y0 : w'.cell? ⟨pb, 0, none⟩ = some (.string nz) := (hb.cell (p := ⟨pb, 0, none⟩) (heap_lt hR)).trans (box_cell hR 0 rfl)
      refine wpOp_of rfl rfl ?_
      refine op_run (v := .string nz) (w' := w') ?_ ⟨_, rfl, slots_put (ns := 68) (hsa.size.trans rfl) (by decide), Below.refl _ _⟩
      simp only [execOp, Act.eval, List.map_toArray, List.map_cons, List.map_nil, d4, y0]; first | (go_simp; done) | rfl
    | 6, ho =>
      obtain rfl := Option.some.inj ho
      try dsimp only at hd
      have g6 : a'.tmps.getD 6 undef = .pointer (some ⟨pb, 0, none⟩) := hsa.rest 6 (by rfl)
      refine wpOp_of rfl rfl ?_
      refine op_run (v := .pointer (some ⟨pb, 1, none⟩)) (w' := w') ?_ ⟨_, rfl, slots_put (ns := 68) (hsa.size.trans rfl) (by decide), Below.refl _ _⟩
      simp only [execOp, Act.eval, List.map_toArray, List.map_cons, List.map_nil, g6]; first | (go_simp; done) | rfl
    | 7, ho =>
      obtain rfl := Option.some.inj ho
      try dsimp only at hd
      have d6 : a'.tmps.getD 65 undef = .pointer (some ⟨pb, 1, none⟩) := hd 6 (by rfl)
      have y1 : w'.cell? ⟨pb, 1, none⟩ = some (.int .i64 po) := (hb.cell (p := ⟨pb, 1, none⟩) (heap_lt hR)).trans (box_cell hR 1 rfl)
      have y2 : w'.cell? ⟨pb, 2, none⟩ = some (.int .i64 pq) := (hb.cell (p := ⟨pb, 2, none⟩) (heap_lt hR)).trans (box_cell hR 2 rfl)
      refine wpOp_of rfl rfl ?_
      refine op_run (v := .agg #[.int .i64 po, .int .i64 pq]) (w' := w') ?_ ⟨_, rfl, slots_put (ns := 68) (hsa.size.trans rfl) (by decide), Below.refl _ _⟩
      simp only [execOp, Act.eval, List.map_toArray, List.map_cons, List.map_nil, d6, y1, y2]; first | (go_simp; done) | rfl
    | 8, ho =>
      obtain rfl := Option.some.inj ho
      try dsimp only at hd
      refine wpOp_of rfl rfl ?_
      refine op_run (v := undef) (w' := w') ?_ ⟨_, rfl, ?_, ?_⟩
      · rfl
      · try dsimp only
        trivial
      · exact Below.refl _ _
    | (n + 9), ho => exact absurd ho (by simp)
  case pdone =>
    intro a' w' hsa hb hd
    have d3 : a'.tmps.getD 62 undef = .map (some mb) := hd 3 (by decide)
    have d5 : a'.tmps.getD 64 undef = .string nz := hd 5 (by decide)
    have d7 : a'.tmps.getD 66 undef = .agg #[.int .i64 po, .int .i64 pq] := hd 7 (by decide)
    intro K2 hK2
    obtain ⟨w2, hrun, r2⟩ := HM.out w' hb
    refine op_skip (w' := w2) ?_ (hK2 _ _ ?_)
    · simp only [execOp, Act.eval, d3, d5, d7]
      first | (go_simp; done) | (simp [hrun]; done) | (rw [hrun]; rfl)
    exact HQ.out _ _ _ ⟨hsa.size.trans rfl, hsa.defers.trans rfl, hsa.rest 0 (by rfl), hsa.rest 1 (by rfl), hsa.rest 4 (by rfl), hsa.rest 5 (by rfl), hsa.rest 6 (by rfl), hsa.rest 7 (by rfl), hsa.rest 8 (by rfl), hsa.rest 9 (by rfl)⟩ hb r2
theorem kn_r9 {K : Act → World → Prop} {c : Code} (hc : regOf (Tryz.f44.body.getD .skip) 9 = some c) (a : Act) {v : Vkn} {wq : World} {i : Nat} (hF : Fkn a v) (h9v : v.v9 = .int .i64 (i : Int)) (hk : i ≤ 1000000) (hQ : ∀ a', Fkn a' { v with v9 := .int .i64 ((i + 1 : Nat) : Int) } → K a' wq) :
    Code.wp Tryz.prog c (Exit.then K fun _ _ _ => False) a wq := by
  have HQ := hide hQ
  clear hQ
  obtain ⟨v0, v1, v4, v5, v6, v7, v8, v9⟩ := v
  simp only at h9v HQ
  subst h9v
  obtain ⟨u, rfl⟩ := frx_kn hF
  clear hF
  simp only [Tryz.f44, Option.getD_some, regOf] at hc
  injection hc with hc
  subst hc
  have e1 : ((i + 1 : Nat) : Int) = (i : Int) + 1 := by omega
  rw [e1] at HQ
  go_wp2
  exact HQ.out _ ⟨rfl, rfl, rfl, rfl, rfl, rfl, rfl, rfl, rfl, rfl⟩
theorem kn_r10 {K : Act → World → Prop} {c : Code} (hc : regOf (Tryz.f44.body.getD .skip) 10 = some c) (a : Act) {v : Vkn} {wq : World}  (hF : Fkn a v) (hQ : ∀ a', Fkn a' { v with v4 := .bool true } → K a' wq) :
    Code.wp Tryz.prog c (Exit.then K fun _ _ _ => False) a wq := by
  have HQ := hide hQ
  clear hQ
  obtain ⟨v0, v1, v4, v5, v6, v7, v8, v9⟩ := v
  obtain ⟨u, rfl⟩ := frx_kn hF
  clear hF
  simp only [Tryz.f44, Option.getD_some, regOf] at hc
  injection hc with hc
  subst hc
  go_wp2
  exact HQ.out _ ⟨rfl, rfl, rfl, rfl, rfl, rfl, rfl, rfl, rfl, rfl⟩
end Go.Proofs.YtfoomgdlbkjaeaaGreat.Y
