/-
  carillonref15's Read, Trim (mkxd.py).
-/
import Derived.Test.YtmkkcgkakomacaaGreatZXC
namespace Go.Proofs.YtmkkcgkakomacaaGreat.Y
open Go.RowKit
set_option maxHeartbeats 8000000
set_option maxRecDepth 100000
attribute [local go_sem ↓] Go.wp_at_zero Go.wp_at_succ
set_option linter.unusedSimpArgs false
set_option linter.unusedVariables false
theorem frame_xr (t : Array Value) (h : t.size = 45) : ∃ u : Nat → Value, t = List.toArray (u 0 :: u 1 :: u 2 :: u 3 :: u 4 :: u 5 :: u 6 :: u 7 :: u 8 :: u 9 :: u 10 :: u 11 :: u 12 :: u 13 :: u 14 :: u 15 :: u 16 :: u 17 :: u 18 :: u 19 :: u 20 :: u 21 :: u 22 :: u 23 :: u 24 :: u 25 :: u 26 :: u 27 :: u 28 :: u 29 :: u 30 :: u 31 :: u 32 :: u 33 :: u 34 :: u 35 :: u 36 :: u 37 :: u 38 :: u 39 :: u 40 :: u 41 :: u 42 :: u 43 :: u 44 :: []) := by
  refine ⟨fun i => t.getD i undef, ?_⟩
  refine Eq.trans (b := ((List.range 45).map fun i => t.getD i undef).toArray) ?_ rfl
  apply Array.ext
  · simp [h]
  · intro k h1 h2
    simp [Array.getD, h1]
structure Vxr where
  v0 : Value
  v1 : Value
  v2 : Value
  v6 : Value
  v7 : Value
  v8 : Value
structure Fxr (a : Act) (v : Vxr) : Prop where
  size : a.tmps.size = 45
  defers : a.defers = []
  s0 : a.tmps.getD 0 undef = v.v0
  s1 : a.tmps.getD 1 undef = v.v1
  s2 : a.tmps.getD 2 undef = v.v2
  s6 : a.tmps.getD 6 undef = v.v6
  s7 : a.tmps.getD 7 undef = v.v7
  s8 : a.tmps.getD 8 undef = v.v8
theorem frx_xr {a : Act} {v0 v1 v2 v6 v7 v8 : Value} (h : Fxr a ⟨v0, v1, v2, v6, v7, v8⟩) : ∃ u : Nat → Value, a = ⟨List.toArray (v0 :: v1 :: v2 :: u 3 :: u 4 :: u 5 :: v6 :: v7 :: v8 :: u 9 :: u 10 :: u 11 :: u 12 :: u 13 :: u 14 :: u 15 :: u 16 :: u 17 :: u 18 :: u 19 :: u 20 :: u 21 :: u 22 :: u 23 :: u 24 :: u 25 :: u 26 :: u 27 :: u 28 :: u 29 :: u 30 :: u 31 :: u 32 :: u 33 :: u 34 :: u 35 :: u 36 :: u 37 :: u 38 :: u 39 :: u 40 :: u 41 :: u 42 :: u 43 :: u 44 :: []), []⟩ := by
  obtain ⟨t', d'⟩ := a
  obtain ⟨hs, hd, q0, q1, q2, q6, q7, q8⟩ := h
  obtain ⟨u, hu⟩ := frame_xr t' hs
  simp only at hd q0 q1 q2 q6 q7 q8
  subst hu hd
  have e0 : u 0 = v0 := q0
  have e1 : u 1 = v1 := q1
  have e2 : u 2 = v2 := q2
  have e6 : u 6 = v6 := q6
  have e7 : u 7 = v7 := q7
  have e8 : u 8 = v8 := q8
  refine ⟨u, ?_⟩
  rw [e0, e1, e2, e6, e7, e8]
theorem xr_r0 {K : Act → World → Prop} {c : Code} (hc : regOf (Tryz.f14.body.getD .skip) 0 = some c) (a : Act) {v : Vxr} {wq : World}  (hF : Fxr a v) (hQ : ∀ a', Fxr a' { v with v6 := .slice none 0 0 } → K a' wq) :
    Code.wp Tryz.prog c (Exit.then K fun _ _ _ => False) a wq := by
  have HQ := hide hQ
  clear hQ
  obtain ⟨v0, v1, v2, v6, v7, v8⟩ := v
  obtain ⟨u, rfl⟩ := frx_xr hF
  clear hF
  simp only [Tryz.f14, Option.getD_some, regOf] at hc
  injection hc with hc
  subst hc
  go_wp2
  exact HQ.out _ ⟨rfl, rfl, rfl, rfl, rfl, rfl, rfl, rfl⟩
theorem xr_r1 {K : Act → World → Prop} {c : Code} (hc : regOf (Tryz.f14.body.getD .skip) 1 = some c) (a : Act) {v : Vxr} {wq : World}  (hF : Fxr a v) (hQ : ∀ a', Fxr a' { v with v7 := .slice none 0 0 } → K a' wq) :
    Code.wp Tryz.prog c (Exit.then K fun _ _ _ => False) a wq := by
  have HQ := hide hQ
  clear hQ
  obtain ⟨v0, v1, v2, v6, v7, v8⟩ := v
  obtain ⟨u, rfl⟩ := frx_xr hF
  clear hF
  simp only [Tryz.f14, Option.getD_some, regOf] at hc
  injection hc with hc
  subst hc
  go_wp2
  exact HQ.out _ ⟨rfl, rfl, rfl, rfl, rfl, rfl, rfl, rfl⟩
theorem xr_r2 {K : Act → World → Prop} {c : Code} (hc : regOf (Tryz.f14.body.getD .skip) 2 = some c) (a : Act) {v : Vxr} {wq : World}  (hF : Fxr a v) (hQ : ∀ a', Fxr a' { v with v8 := .int .i64 0 } → K a' wq) :
    Code.wp Tryz.prog c (Exit.then K fun _ _ _ => False) a wq := by
  have HQ := hide hQ
  clear hQ
  obtain ⟨v0, v1, v2, v6, v7, v8⟩ := v
  obtain ⟨u, rfl⟩ := frx_xr hF
  clear hF
  simp only [Tryz.f14, Option.getD_some, regOf] at hc
  injection hc with hc
  subst hc
  go_wp2
  exact HQ.out _ ⟨rfl, rfl, rfl, rfl, rfl, rfl, rfl, rfl⟩
theorem xr_r3a {K : Act → World → Prop} {c : Code} (hc : regOf (Tryz.f14.body.getD .skip) 3 = some c) (a : Act) {v : Vxr} {wq : World} {xb n rc i m oc : Nat} {ro oo : Option Addr} {ms : Int} (hF : Fxr a v) (h0v : v.v0 = .pointer (some ⟨xb, 0, none⟩)) (h2v : v.v2 = .int .i64 ms) (h7v : v.v7 = .slice oo m oc) (h8v : v.v8 = .int .i64 (i : Int)) (hi : i < n) (hcb : wq.cell? ⟨xb, 4, none⟩ = some (.slice ro n rc))
    (hQ : ∀ a', Fxr a' v → a'.tmps.getD 21 undef = .bool (decide ((m : Int) < ms)) → K a' wq) :
    Code.wp Tryz.prog c (Exit.then K fun _ _ _ => False) a wq := by
  have HQ := hide hQ
  clear hQ
  obtain ⟨v0, v1, v2, v6, v7, v8⟩ := v
  simp only at h0v h2v h7v h8v HQ
  subst h0v h2v h7v h8v
  obtain ⟨u, rfl⟩ := frx_xr hF
  clear hF
  simp only [Tryz.f14, Option.getD_some, regOf] at hc
  injection hc with hc
  subst hc
  have e1 : (i : Int) < (n : Int) := by omega
  by_cases h : (m : Int) < ms
  · rw [decide_eq_true h] at HQ
    go_wp2
    exact HQ.out _ ⟨rfl, rfl, rfl, rfl, rfl, rfl, rfl, rfl⟩ (by first | rfl | (simp; done) | (simp; omega))
  · rw [decide_eq_false h] at HQ
    go_wp2
    exact HQ.out _ ⟨rfl, rfl, rfl, rfl, rfl, rfl, rfl, rfl⟩ (by first | rfl | (simp; done) | (simp; omega))
theorem xr_r3b {K : Act → World → Prop} {c : Code} (hc : regOf (Tryz.f14.body.getD .skip) 3 = some c) (a : Act) {v : Vxr} {wq : World} {xb n rc : Nat} {ro : Option Addr} (hF : Fxr a v) (h0v : v.v0 = .pointer (some ⟨xb, 0, none⟩)) (h8v : v.v8 = .int .i64 (n : Int)) (hcb : wq.cell? ⟨xb, 4, none⟩ = some (.slice ro n rc))
    (hQ : ∀ a', Fxr a' v → a'.tmps.getD 21 undef = .bool false → K a' wq) :
    Code.wp Tryz.prog c (Exit.then K fun _ _ _ => False) a wq := by
  have HQ := hide hQ
  clear hQ
  obtain ⟨v0, v1, v2, v6, v7, v8⟩ := v
  simp only at h0v h8v HQ
  subst h0v h8v
  obtain ⟨u, rfl⟩ := frx_xr hF
  clear hF
  simp only [Tryz.f14, Option.getD_some, regOf] at hc
  injection hc with hc
  subst hc
  go_wp2
  exact HQ.out _ ⟨rfl, rfl, rfl, rfl, rfl, rfl, rfl, rfl⟩ (by first | rfl | (simp; done))
theorem xr_r5t {K : Act → World → Prop} {c : Code} (hc : regOf (Tryz.f14.body.getD .skip) 5 = some c) (a : Act) {v : Vxr} {wq : World} {xb rb ro n rc i : Nat} {of x0 : Int} (hF : Fxr a v) (h0v : v.v0 = .pointer (some ⟨xb, 0, none⟩)) (h1v : v.v1 = .int .i64 of) (h8v : v.v8 = .int .i64 (i : Int)) (hi : i < n) (hcb : wq.cell? ⟨xb, 4, none⟩ = some (.slice (some ⟨rb, ro, none⟩) n rc)) (hx0 : wq.cell? ⟨rb, ro + i * 5, none⟩ = some (.int .i64 x0)) (hle : of ≤ x0)
    (hQ : ∀ a', Fxr a' v → a'.tmps.getD 33 undef = .bool true → K a' wq) :
    Code.wp Tryz.prog c (Exit.then K fun _ _ _ => False) a wq := by
  have HQ := hide hQ
  clear hQ
  obtain ⟨v0, v1, v2, v6, v7, v8⟩ := v
  simp only at h0v h1v h8v HQ
  subst h0v h1v h8v
  obtain ⟨u, rfl⟩ := frx_xr hF
  clear hF
  simp only [Tryz.f14, Option.getD_some, regOf] at hc
  injection hc with hc
  subst hc
  have g1 : x0 ≥ of := hle
  have g2 : decide (of ≤ x0) = true := decide_eq_true hle
  have e1 : (i : Int) < (n : Int) := by omega
  go_wp2
  exact HQ.out _ ⟨rfl, rfl, rfl, rfl, rfl, rfl, rfl, rfl⟩ (by first | rfl | (simp; done) | (simp; omega))
theorem xr_r5f {K : Act → World → Prop} {c : Code} (hc : regOf (Tryz.f14.body.getD .skip) 5 = some c) (a : Act) {v : Vxr} {wq : World} {xb rb ro n rc i : Nat} {of x0 : Int} (hF : Fxr a v) (h0v : v.v0 = .pointer (some ⟨xb, 0, none⟩)) (h1v : v.v1 = .int .i64 of) (h8v : v.v8 = .int .i64 (i : Int)) (hi : i < n) (hcb : wq.cell? ⟨xb, 4, none⟩ = some (.slice (some ⟨rb, ro, none⟩) n rc)) (hx0 : wq.cell? ⟨rb, ro + i * 5, none⟩ = some (.int .i64 x0)) (hle : ¬ of ≤ x0)
    (hQ : ∀ a', Fxr a' v → a'.tmps.getD 33 undef = .bool false → K a' wq) :
    Code.wp Tryz.prog c (Exit.then K fun _ _ _ => False) a wq := by
  have HQ := hide hQ
  clear hQ
  obtain ⟨v0, v1, v2, v6, v7, v8⟩ := v
  simp only at h0v h1v h8v HQ
  subst h0v h1v h8v
  obtain ⟨u, rfl⟩ := frx_xr hF
  clear hF
  simp only [Tryz.f14, Option.getD_some, regOf] at hc
  injection hc with hc
  subst hc
  have g1 : ¬ x0 ≥ of := hle
  have g2 : decide (of ≤ x0) = false := decide_eq_false hle
  have e1 : (i : Int) < (n : Int) := by omega
  go_wp2
  exact HQ.out _ ⟨rfl, rfl, rfl, rfl, rfl, rfl, rfl, rfl⟩ (by first | rfl | (simp; done) | (simp; omega))
theorem xr_r6 {K : Act → World → Prop} {c : Code} (hc : regOf (Tryz.f14.body.getD .skip) 6 = some c) (a : Act) {v : Vxr} {wq : World} {xb rb ro n rc i m oc m2 oc2 : Nat} {oo oo2 : Option Addr} {x0 x2 : Int} {x1 x3 x4 : ByteArray} {w1 : World} (hF : Fxr a v) (h0v : v.v0 = .pointer (some ⟨xb, 0, none⟩)) (h7v : v.v7 = .slice oo m oc) (h8v : v.v8 = .int .i64 (i : Int)) (hi : i < n) (hcb : wq.cell? ⟨xb, 4, none⟩ = some (.slice (some ⟨rb, ro, none⟩) n rc)) (hx0 : wq.cell? ⟨rb, ro + i * 5, none⟩ = some (.int .i64 x0)) (hx1 : wq.cell? ⟨rb, ro + i * 5 + 1, none⟩ = some (.string x1)) (hx2 : wq.cell? ⟨rb, ro + i * 5 + 2, none⟩ = some (.int .i64 x2)) (hx3 : wq.cell? ⟨rb, ro + i * 5 + 3, none⟩ = some (.string x3)) (hx4 : wq.cell? ⟨rb, ro + i * 5 + 4, none⟩ = some (.string x4)) (hA : (Builtin.append_ #[35, 35] 35 #[.slice oo m oc, .slice (some ⟨wq.heap.size, 0, none⟩) 1 1]).run Tryz.prog (wq.alloc (.cells #[.int .i64 x0, .string x1, .int .i64 x2, .string x3, .string x4] 39)) = .ok (.slice oo2 m2 oc2) w1)
    (hQ : ∀ a', Fxr a' { v with v7 := .slice oo2 m2 oc2 } → K a' w1) :
    Code.wp Tryz.prog c (Exit.then K fun _ _ _ => False) a wq := by
  have HQ := hide hQ
  clear hQ
  obtain ⟨v0, v1, v2, v6, v7, v8⟩ := v
  simp only at h0v h7v h8v HQ
  subst h0v h7v h8v
  obtain ⟨u, rfl⟩ := frx_xr hF
  clear hF
  simp only [Tryz.f14, Option.getD_some, regOf] at hc
  injection hc with hc
  subst hc
  have HA := hide hA
  have e1 : (i : Int) < (n : Int) := by omega
  clear hA
  go_wp2_with (at_builtin; refine wpList_append_run rfl _ _ 35 rfl _ _ _ rfl rfl HA.out ?_)
  exact HQ.out _ ⟨rfl, rfl, rfl, rfl, rfl, rfl, rfl, rfl⟩
theorem xr_r4 {K : Act → World → Prop} {c : Code} (hc : regOf (Tryz.f14.body.getD .skip) 4 = some c) (a : Act) {v : Vxr} {wq : World} {i : Nat} (hF : Fxr a v) (h8v : v.v8 = .int .i64 (i : Int)) (hi : i ≤ 1000000)
    (hQ : ∀ a', Fxr a' { v with v8 := .int .i64 ((i + 1 : Nat) : Int) } → K a' wq) :
    Code.wp Tryz.prog c (Exit.then K fun _ _ _ => False) a wq := by
  have HQ := hide hQ
  clear hQ
  obtain ⟨v0, v1, v2, v6, v7, v8⟩ := v
  simp only at h8v HQ
  subst h8v
  obtain ⟨u, rfl⟩ := frx_xr hF
  clear hF
  simp only [Tryz.f14, Option.getD_some, regOf] at hc
  injection hc with hc
  subst hc
  go_wp2
  exact HQ.out _ ⟨rfl, rfl, rfl, rfl, rfl, rfl, rfl, (by first | rfl | (simp; done) | (go_num; done))⟩
theorem xr_r7 {K : Act → World → Prop} {c : Code} (hc : regOf (Tryz.f14.body.getD .skip) 7 = some c) (a : Act) {v : Vxr} {wq : World} {oo : Option Addr} {m oc : Nat} (hF : Fxr a v) (h7v : v.v7 = .slice oo m oc) (hQ : ∀ a', Fxr a' { v with v6 := .slice oo m oc } → K a' wq) :
    Code.wp Tryz.prog c (Exit.then K fun _ _ _ => False) a wq := by
  have HQ := hide hQ
  clear hQ
  obtain ⟨v0, v1, v2, v6, v7, v8⟩ := v
  simp only at h7v HQ
  subst h7v
  obtain ⟨u, rfl⟩ := frx_xr hF
  clear hF
  simp only [Tryz.f14, Option.getD_some, regOf] at hc
  injection hc with hc
  subst hc
  go_wp2
  exact HQ.out _ ⟨rfl, rfl, rfl, rfl, rfl, rfl, rfl, rfl⟩
def geB (off : Int) (r : Rec) : Bool := decide (off ≤ r.off)
def xreadF (l : List Rec) (off most : Int) : List Rec := (l.filter (geB off)).take most.toNat
theorem filter_snoc (l : List Rec) (off : Int) (i : Nat) (h : i < l.length) : (l.take (i + 1)).filter (geB off) = (l.take i).filter (geB off) ++ (if off ≤ l[i].off then [l[i]] else []) := by
  rw [List.take_succ_eq_append_getElem h, List.filter_append]
  congr 1
  by_cases hle : off ≤ l[i].off
  · rw [if_pos hle, List.filter_cons_of_pos (by simp [geB, hle]), List.filter_nil]
  · rw [if_neg hle, List.filter_cons_of_neg (by simp [geB, hle]), List.filter_nil]
theorem xread_end {l : List Rec} {off most : Int} {i : Nat} (hb : (l.take i).filter (geB off) = [] ∨ (((l.take i).filter (geB off)).length : Int) ≤ most) (he : l.length ≤ i ∨ most ≤ (((l.take i).filter (geB off)).length : Int)) : xreadF l off most = (l.take i).filter (geB off) := by
  unfold xreadF
  have hs : l.filter (geB off) = (l.take i).filter (geB off) ++ (l.drop i).filter (geB off) := by rw [← List.filter_append, List.take_append_drop]
  rw [hs]
  rcases he with he | he
  · rw [List.drop_eq_nil_of_le he, List.filter_nil, List.append_nil]
    rcases hb with hb | hb
    · rw [hb, List.take_nil]
    · exact List.take_of_length_le (by omega)
  · rcases hb with hb | hb
    · rw [hb] at he ⊢
      rw [show most.toNat = 0 by simp at he; omega, List.take_zero]
    · rw [show most.toNat = ((l.take i).filter (geB off)).length by omega, List.take_left]
theorem xr_ret {W : World} {a : Act} {v : Vxr} {x : Value} {R : Ending → World → Prop} (hF : Fxr a v) (h2 : v.v6 = x) (h : R (.returned x) W) :
    bodyPost Tryz.prog Tryz.f14 R .ret a W := by
  have g2 := slot_get (hF.s6.trans h2)
  refine bodyPost_ret (v := x) ?_ hF.defers h
  simp [results, Tryz.results14, go_sem, g2]
theorem q_five {w : World} {ro : Option Addr} {n rc : Nat} {l : List Rec} (h : OwnsQ w 39 5 (.slice ro n rc) n (recCells l)) (hn : n = l.length) {i : Nat} (hi : i < l.length) : ∃ b off, ro = some ⟨b, off, none⟩ ∧ b < w.heap.size ∧ w.cell? ⟨b, off + i * 5, none⟩ = some (.int .i64 l[i].off) ∧ w.cell? ⟨b, off + i * 5 + 1, none⟩ = some (.string l[i].prod) ∧ w.cell? ⟨b, off + i * 5 + 2, none⟩ = some (.int .i64 l[i].seq) ∧ w.cell? ⟨b, off + i * 5 + 3, none⟩ = some (.string l[i].key) ∧ w.cell? ⟨b, off + i * 5 + 4, none⟩ = some (.string l[i].val) := by
  subst hn
  obtain ⟨_, b, off, e, hb, hc⟩ := (recs_of_q h).five i hi
  exact ⟨b, off, e, hb, hc⟩
theorem xread {w : World} {xb rc : Nat} {ro : Option Addr} {l : List Rec} (hcb : w.cell? ⟨xb, 4, none⟩ = some (.slice ro l.length rc)) (hxl : xb < w.heap.size) (hq : OwnsQ w 39 5 (.slice ro l.length rc) l.length (recCells l)) (hl : l.length ≤ 100000) (off ms : Int) :
    Calls Tryz.prog 14 #[.pointer (some ⟨xb, 0, none⟩), .int .i64 off, .int .i64 ms] w fun e w' => ∃ oo oc, e = .returned (.slice oo (xreadF l off ms).length oc) ∧ w'.ownsRow w.heap.size 39 5 (.slice oo (xreadF l off ms).length oc) (xreadF l off ms).length (recCells (xreadF l off ms)) ∧ Below w.heap.size w w' := by
  go_enter Tryz.func14, Tryz.ntmps14
  refine wp_seq (reg_mono (xr_r0 (by kernel_rfl) _ (v := ⟨_, _, _, _, _, _⟩) ⟨rfl, rfl, rfl, rfl, rfl, rfl, rfl, rfl⟩ ?_))
  intro a0 F0
  try dsimp only at F0
  refine wp_seq (reg_mono (xr_r1 (by kernel_rfl) _ F0 ?_))
  intro a1 F1
  try dsimp only at F1
  refine wp_seq (wp_seq (reg_mono (xr_r2 (by kernel_rfl) _ F1 ?_)))
  intro a2 F2
  try dsimp only at F2
  refine wp_block (wp_loop (fun a W => ∃ (i oc : Nat) (oo : Option Addr) (O : List Rec) (v : Vxr), i ≤ l.length ∧ O = (l.take i).filter (geB off) ∧ (O = [] ∨ (O.length : Int) ≤ ms) ∧ Fxr a v ∧ v.v0 = .pointer (some ⟨xb, 0, none⟩) ∧ v.v1 = .int .i64 off ∧ v.v2 = .int .i64 ms ∧ v.v7 = .slice oo O.length oc ∧ v.v8 = .int .i64 (i : Int) ∧ W.ownsRow w.heap.size 39 5 (.slice oo O.length oc) O.length (recCells O) ∧ Below w.heap.size w W) (fun a _ => l.length - (intOf (a.tmps.getD 8 undef)).toNat) ⟨0, 0, none, [], _, Nat.zero_le _, rfl, .inl rfl, F2, rfl, rfl, rfl, rfl, rfl, nil_own _ _ _ _, Below.refl _ _⟩ ?_)
  clear F0 F1 F2
  rintro a W ⟨i, oc, oo, O, v, hi, hO, hb, F, q0, q1, q2, q7, q8, own, bW⟩
  have hmi : (intOf (a.tmps.getD 8 undef)).toNat = i := by rw [F.s8, q8]; simp [intOf]
  obtain ⟨v0, v1, v2, v6, v7, v8⟩ := v
  simp only at q0 q1 q2 q7 q8
  subst q0 q1 q2 q7 q8
  have hcW := (bW.cell (p := ⟨xb, 4, none⟩) hxl).trans hcb
  have hqW : OwnsQ W 39 5 (.slice ro l.length rc) l.length (recCells l) := hq.congr fun j hj => bW.block j (hq.lt hj)
  by_cases hlt : i < l.length
  case neg =>
    obtain rfl : i = l.length := by omega
    refine wp_seq (wp_seq (reg_mono (xr_r3b (by kernel_rfl) _ F rfl rfl hcW ?_)))
    intro a3 F3 g3
    refine wp_cond_false g3 (wp_exit ?_)
    have he : xreadF l off ms = O := by rw [hO] at hb ⊢; exact xread_end hb (.inl (Nat.le_refl _))
    show Code.wp _ _ _ _ _
    refine wp_seq (reg_mono (xr_r7 (by kernel_rfl) _ F3 rfl ?_))
    intro a7 F7
    try dsimp only at F7
    exact wp_ret (xr_ret F7 rfl ⟨oo, oc, by rw [he], by rw [he]; exact own, bW⟩)
  refine wp_seq (wp_seq (reg_mono (xr_r3a (by kernel_rfl) _ F rfl rfl rfl rfl hlt hcW ?_)))
  intro a3 F3 g3
  by_cases hms : (O.length : Int) < ms
  case neg =>
    rw [decide_eq_false hms] at g3
    refine wp_cond_false g3 (wp_exit ?_)
    have he : xreadF l off ms = O := by rw [hO] at hb hms ⊢; exact xread_end hb (.inr (by omega))
    show Code.wp _ _ _ _ _
    refine wp_seq (reg_mono (xr_r7 (by kernel_rfl) _ F3 rfl ?_))
    intro a7 F7
    try dsimp only at F7
    exact wp_ret (xr_ret F7 rfl ⟨oo, oc, by rw [he], by rw [he]; exact own, bW⟩)
  rw [decide_eq_true hms] at g3
  refine wp_cond_true g3 (wp_skip ?_)
  show Code.wp _ _ _ _ _
  obtain ⟨rb, of, hro, hrb, x0, x1, x2, x3, x4⟩ := q_five hqW rfl hlt
  have hsn := filter_snoc l off i hlt
  rw [← hO] at hsn
  generalize l[i] = r at *
  rw [hro] at hcW
  refine wp_seq (wp_block ?_)
  by_cases hle : off ≤ r.off
  case pos =>
    rw [if_pos hle] at hsn
    refine wp_seq (reg_mono (xr_r5t (by kernel_rfl) _ F3 rfl rfl rfl hlt hcW x0 hle ?_))
    intro a5 F5 g5
    refine wp_cond_true g5 ?_
    have hOl : O.length ≤ i := by rw [hO]; exact Nat.le_trans (List.length_filter_le _ _) (by rw [List.length_take]; omega)
    have hsz := bW.size
    obtain ⟨t6, c6, w6, r6, o6, g6⟩ := app_rec (own_below own ((Below.refl W.heap.size W).alloc (Nat.le_refl _) (.cells #[.int .i64 r.off, .string r.prod, .int .i64 r.seq, .string r.key, .string r.val] 39))) (q_lit (w := W) (e := 39) (cs := #[.int .i64 r.off, .string r.prod, .int .i64 r.seq, .string r.key, .string r.val]) rfl) (by intro u hu; simp at hu; rcases hu with rfl | rfl | rfl | rfl | rfl <;> rfl) (by omega) (by simp; omega)
    refine reg_all (xr_r6 (by kernel_rfl) _ F5 rfl rfl rfl hlt hcW x0 x1 x2 x3 x4 r6 ?_)
    intro a6 F6
    try dsimp only at F6
    show Code.wp _ _ _ _ _
    refine reg_mono (xr_r4 (by kernel_rfl) _ F6 rfl (by omega) ?_)
    intro a4 F4
    try dsimp only at F4
    have B6 : Below w.heap.size w w6 := bW.trans (((Below.refl w.heap.size W).alloc hsz _).trans (grown_below g6 (fun k e => (own.lt k e).1) (by simp; omega)))
    have el : (O ++ [r]).length = O.length + 1 := by simp
    refine ⟨⟨i + 1, c6, t6, O ++ [r], _, hlt, hsn.symm, .inr (by rw [el]; omega), F4, rfl, rfl, rfl, by rw [el], rfl, ?_, B6⟩, ?_⟩
    · rw [el, recCells_snoc]
      exact o6
    · rw [hmi, F4.s8]
      simp [intOf]
      omega
  rw [if_neg hle, List.append_nil] at hsn
  refine wp_seq (reg_mono (xr_r5f (by kernel_rfl) _ F3 rfl rfl rfl hlt hcW x0 hle ?_))
  intro a5 F5 g5
  refine wp_cond_false g5 (wp_skip ?_)
  show Code.wp _ _ _ _ _
  refine reg_mono (xr_r4 (by kernel_rfl) _ F5 rfl (by omega) ?_)
  intro a4 F4
  try dsimp only at F4
  refine ⟨⟨i + 1, oc, oo, O, _, hlt, hsn.symm, hb, F4, rfl, rfl, rfl, rfl, rfl, own, bW⟩, ?_⟩
  rw [hmi, F4.s8]
  simp [intOf]
  omega
theorem frame_xt (t : Array Value) (h : t.size = 32) : ∃ u : Nat → Value, t = List.toArray (u 0 :: u 1 :: u 2 :: u 3 :: u 4 :: u 5 :: u 6 :: u 7 :: u 8 :: u 9 :: u 10 :: u 11 :: u 12 :: u 13 :: u 14 :: u 15 :: u 16 :: u 17 :: u 18 :: u 19 :: u 20 :: u 21 :: u 22 :: u 23 :: u 24 :: u 25 :: u 26 :: u 27 :: u 28 :: u 29 :: u 30 :: u 31 :: []) := by
  refine ⟨fun i => t.getD i undef, ?_⟩
  refine Eq.trans (b := ((List.range 32).map fun i => t.getD i undef).toArray) ?_ rfl
  apply Array.ext
  · simp [h]
  · intro k h1 h2
    simp [Array.getD, h1]
structure Vxt where
  v0 : Value
  v1 : Value
  v4 : Value
structure Fxt (a : Act) (v : Vxt) : Prop where
  size : a.tmps.size = 32
  defers : a.defers = []
  s0 : a.tmps.getD 0 undef = v.v0
  s1 : a.tmps.getD 1 undef = v.v1
  s4 : a.tmps.getD 4 undef = v.v4
theorem frx_xt {a : Act} {v0 v1 v4 : Value} (h : Fxt a ⟨v0, v1, v4⟩) : ∃ u : Nat → Value, a = ⟨List.toArray (v0 :: v1 :: u 2 :: u 3 :: v4 :: u 5 :: u 6 :: u 7 :: u 8 :: u 9 :: u 10 :: u 11 :: u 12 :: u 13 :: u 14 :: u 15 :: u 16 :: u 17 :: u 18 :: u 19 :: u 20 :: u 21 :: u 22 :: u 23 :: u 24 :: u 25 :: u 26 :: u 27 :: u 28 :: u 29 :: u 30 :: u 31 :: []), []⟩ := by
  obtain ⟨t', d'⟩ := a
  obtain ⟨hs, hd, q0, q1, q4⟩ := h
  obtain ⟨u, hu⟩ := frame_xt t' hs
  simp only at hd q0 q1 q4
  subst hu hd
  have e0 : u 0 = v0 := q0
  have e1 : u 1 = v1 := q1
  have e4 : u 4 = v4 := q4
  refine ⟨u, ?_⟩
  rw [e0, e1, e4]
theorem xt_r0 {K : Act → World → Prop} {c : Code} (hc : regOf (Tryz.f16.body.getD .skip) 0 = some c) (a : Act) {v : Vxt} {wq : World}  (hF : Fxt a v) (hQ : ∀ a', Fxt a' { v with v4 := .int .i64 0 } → K a' wq) :
    Code.wp Tryz.prog c (Exit.then K fun _ _ _ => False) a wq := by
  have HQ := hide hQ
  clear hQ
  obtain ⟨v0, v1, v4⟩ := v
  obtain ⟨u, rfl⟩ := frx_xt hF
  clear hF
  simp only [Tryz.f16, Option.getD_some, regOf] at hc
  injection hc with hc
  subst hc
  go_wp2
  exact HQ.out _ ⟨rfl, rfl, rfl, rfl, rfl⟩
theorem xt_r2 {K : Act → World → Prop} {c : Code} (hc : regOf (Tryz.f16.body.getD .skip) 2 = some c) (a : Act) {v : Vxt} {wq : World}  (hF : Fxt a v) (hQ : ∀ a', Fxt a' { v with v4 := .int .i64 7 } → K a' wq) :
    Code.wp Tryz.prog c (Exit.then K fun _ _ _ => False) a wq := by
  have HQ := hide hQ
  clear hQ
  obtain ⟨v0, v1, v4⟩ := v
  obtain ⟨u, rfl⟩ := frx_xt hF
  clear hF
  simp only [Tryz.f16, Option.getD_some, regOf] at hc
  injection hc with hc
  subst hc
  go_wp2
  exact HQ.out _ ⟨rfl, rfl, rfl, rfl, rfl⟩
theorem xt_r6 {K : Act → World → Prop} {c : Code} (hc : regOf (Tryz.f16.body.getD .skip) 6 = some c) (a : Act) {v : Vxt} {wq : World}  (hF : Fxt a v) (hQ : ∀ a', Fxt a' { v with v4 := .int .i64 0 } → K a' wq) :
    Code.wp Tryz.prog c (Exit.then K fun _ _ _ => False) a wq := by
  have HQ := hide hQ
  clear hQ
  obtain ⟨v0, v1, v4⟩ := v
  obtain ⟨u, rfl⟩ := frx_xt hF
  clear hF
  simp only [Tryz.f16, Option.getD_some, regOf] at hc
  injection hc with hc
  subst hc
  go_wp2
  exact HQ.out _ ⟨rfl, rfl, rfl, rfl, rfl⟩
theorem xt_r1t {K : Act → World → Prop} {c : Code} (hc : regOf (Tryz.f16.body.getD .skip) 1 = some c) (a : Act) {v : Vxt} {wq : World} {xb : Nat} {x y : Int} (hF : Fxt a v) (h0v : v.v0 = .pointer (some ⟨xb, 0, none⟩)) (h1v : v.v1 = .int .i64 y) (hcb : wq.cell? ⟨xb, 2, none⟩ = some (.int .i64 x)) (hlt : x < y)
    (hQ : ∀ a', Fxt a' v → a'.tmps.getD 10 undef = .bool true → K a' wq) :
    Code.wp Tryz.prog c (Exit.then K fun _ _ _ => False) a wq := by
  have HQ := hide hQ
  clear hQ
  obtain ⟨v0, v1, v4⟩ := v
  simp only at h0v h1v HQ
  subst h0v h1v
  obtain ⟨u, rfl⟩ := frx_xt hF
  clear hF
  simp only [Tryz.f16, Option.getD_some, regOf] at hc
  injection hc with hc
  subst hc
  have g1 : y > x := hlt
  have g2 : decide (x < y) = true := decide_eq_true hlt
  go_wp2
  exact HQ.out _ ⟨rfl, rfl, rfl, rfl, rfl⟩ (by first | rfl | (simp; done) | (simp; omega))
theorem xt_r1f {K : Act → World → Prop} {c : Code} (hc : regOf (Tryz.f16.body.getD .skip) 1 = some c) (a : Act) {v : Vxt} {wq : World} {xb : Nat} {x y : Int} (hF : Fxt a v) (h0v : v.v0 = .pointer (some ⟨xb, 0, none⟩)) (h1v : v.v1 = .int .i64 y) (hcb : wq.cell? ⟨xb, 2, none⟩ = some (.int .i64 x)) (hlt : ¬ x < y)
    (hQ : ∀ a', Fxt a' v → a'.tmps.getD 10 undef = .bool false → K a' wq) :
    Code.wp Tryz.prog c (Exit.then K fun _ _ _ => False) a wq := by
  have HQ := hide hQ
  clear hQ
  obtain ⟨v0, v1, v4⟩ := v
  simp only at h0v h1v HQ
  subst h0v h1v
  obtain ⟨u, rfl⟩ := frx_xt hF
  clear hF
  simp only [Tryz.f16, Option.getD_some, regOf] at hc
  injection hc with hc
  subst hc
  have g1 : ¬ y > x := hlt
  have g2 : decide (x < y) = false := decide_eq_false hlt
  go_wp2
  exact HQ.out _ ⟨rfl, rfl, rfl, rfl, rfl⟩ (by first | rfl | (simp; done) | (simp; omega))
theorem xt_r3t {K : Act → World → Prop} {c : Code} (hc : regOf (Tryz.f16.body.getD .skip) 3 = some c) (a : Act) {v : Vxt} {wq : World} {xb : Nat} {x y : Int} (hF : Fxt a v) (h0v : v.v0 = .pointer (some ⟨xb, 0, none⟩)) (h1v : v.v1 = .int .i64 y) (hcb : wq.cell? ⟨xb, 1, none⟩ = some (.int .i64 x)) (hlt : x < y)
    (hQ : ∀ a', Fxt a' v → a'.tmps.getD 16 undef = .bool true → K a' wq) :
    Code.wp Tryz.prog c (Exit.then K fun _ _ _ => False) a wq := by
  have HQ := hide hQ
  clear hQ
  obtain ⟨v0, v1, v4⟩ := v
  simp only at h0v h1v HQ
  subst h0v h1v
  obtain ⟨u, rfl⟩ := frx_xt hF
  clear hF
  simp only [Tryz.f16, Option.getD_some, regOf] at hc
  injection hc with hc
  subst hc
  have g1 : y > x := hlt
  have g2 : decide (x < y) = true := decide_eq_true hlt
  go_wp2
  exact HQ.out _ ⟨rfl, rfl, rfl, rfl, rfl⟩ (by first | rfl | (simp; done) | (simp; omega))
theorem xt_r3f {K : Act → World → Prop} {c : Code} (hc : regOf (Tryz.f16.body.getD .skip) 3 = some c) (a : Act) {v : Vxt} {wq : World} {xb : Nat} {x y : Int} (hF : Fxt a v) (h0v : v.v0 = .pointer (some ⟨xb, 0, none⟩)) (h1v : v.v1 = .int .i64 y) (hcb : wq.cell? ⟨xb, 1, none⟩ = some (.int .i64 x)) (hlt : ¬ x < y)
    (hQ : ∀ a', Fxt a' v → a'.tmps.getD 16 undef = .bool false → K a' wq) :
    Code.wp Tryz.prog c (Exit.then K fun _ _ _ => False) a wq := by
  have HQ := hide hQ
  clear hQ
  obtain ⟨v0, v1, v4⟩ := v
  simp only at h0v h1v HQ
  subst h0v h1v
  obtain ⟨u, rfl⟩ := frx_xt hF
  clear hF
  simp only [Tryz.f16, Option.getD_some, regOf] at hc
  injection hc with hc
  subst hc
  have g1 : ¬ y > x := hlt
  have g2 : decide (x < y) = false := decide_eq_false hlt
  go_wp2
  exact HQ.out _ ⟨rfl, rfl, rfl, rfl, rfl⟩ (by first | rfl | (simp; done) | (simp; omega))
theorem xt_r4 {K : Act → World → Prop} {c : Code} (hc : regOf (Tryz.f16.body.getD .skip) 4 = some c) (a : Act) {v : Vxt} {wq : World} {xb : Nat} {y : Int} {c0 c1 c2 c3 c4 : Value} (hF : Fxt a v) (h0v : v.v0 = .pointer (some ⟨xb, 0, none⟩)) (h1v : v.v1 = .int .i64 y) (hB : wq.heap[xb]? = some (.cells #[c0, c1, c2, c3, c4] 44 (0, 0)))
    (hQ : ∀ a', Fxt a' v → K a' (wq.setCell ⟨xb, 1, none⟩ (.int .i64 y))) :
    Code.wp Tryz.prog c (Exit.then K fun _ _ _ => False) a wq := by
  have HQ := hide hQ
  clear hQ
  obtain ⟨v0, v1, v4⟩ := v
  simp only at h0v h1v HQ
  subst h0v h1v
  obtain ⟨u, rfl⟩ := frx_xt hF
  clear hF
  simp only [Tryz.f16, Option.getD_some, regOf] at hc
  injection hc with hc
  subst hc
  obtain ⟨z0, z1, z2, z3, z4⟩ : (wq.cell? ⟨xb, 0, none⟩ = some c0) ∧ (wq.cell? ⟨xb, 1, none⟩ = some c1) ∧ (wq.cell? ⟨xb, 2, none⟩ = some c2) ∧ (wq.cell? ⟨xb, 3, none⟩ = some c3) ∧ (wq.cell? ⟨xb, 4, none⟩ = some c4) := ⟨box_cell hB 0 rfl, box_cell hB 1 rfl, box_cell hB 2 rfl, box_cell hB 3 rfl, box_cell hB 4 rfl⟩
  have f1 := box_free hB 1
  have f2 := box_free hB 2
  have f3 := box_free hB 3
  have f4 := box_free hB 4
  clear hB
  go_wp2
  exact HQ.out _ ⟨rfl, rfl, rfl, rfl, rfl⟩
theorem xt_r5 {K : Act → World → Prop} {c : Code} (hc : regOf (Tryz.f16.body.getD .skip) 5 = some c) (a : Act) {v : Vxt} {wq : World} {xb n rc : Nat} {ro : Option Addr} {y : Int} {c0 c1 c2 c3 : Value} {R : Option Addr → Nat → Nat → World → Prop} (hF : Fxt a v) (h0v : v.v0 = .pointer (some ⟨xb, 0, none⟩)) (h1v : v.v1 = .int .i64 y) (hB : wq.heap[xb]? = some (.cells #[c0, c1, c2, c3, .slice ro n rc] 44 (0, 0))) (hE : Calls Tryz.prog 14 #[.pointer (some ⟨xb, 0, none⟩), .int .i64 y, .int .i64 (n : Int)] wq fun e w' => ∃ oo m oc, e = .returned (.slice oo m oc) ∧ Below wq.heap.size wq w' ∧ R oo m oc w')
    (hQ : ∀ a' w1 oo m oc, Fxt a' v → Below wq.heap.size wq w1 → R oo m oc w1 → K a' (w1.setCell ⟨xb, 4, none⟩ (.slice oo m oc))) :
    Code.wp Tryz.prog c (Exit.then K fun _ _ _ => False) a wq := by
  have HQ := hide hQ
  clear hQ
  obtain ⟨v0, v1, v4⟩ := v
  simp only at h0v h1v HQ
  subst h0v h1v
  obtain ⟨u, rfl⟩ := frx_xt hF
  clear hF
  simp only [Tryz.f16, Option.getD_some, regOf] at hc
  injection hc with hc
  subst hc
  have HE := hide hE
  have HS := hide hB
  have z4 : wq.cell? ⟨xb, 4, none⟩ = some (.slice ro n rc) := box_cell hB 4 rfl
  clear hE hB
  go_wp2_with (go_at_call 14; refine HE.out.mono ?_; rintro e w1 ⟨oo, m, oc, rfl, b1, r1⟩; have hR2 := Below.at b1 HS.out; have y4 := box_cell hR2 4 rfl; have y5 := box_free hR2 4; have B1 := hide b1; have R1 := hide r1; clear b1 hR2 z4 r1)
  exact HQ.out _ _ _ _ _ ⟨rfl, rfl, rfl, rfl, rfl⟩ B1.out R1.out
def xtrimF (G : XG) (n : Int) : Int × XG := if G.fin < n then (7, G) else if G.low < n then (0, { G with low := n, recs := xreadF G.recs n G.recs.length }) else (0, G)
theorem xt_ret {W : World} {a : Act} {v : Vxt} {x : Int} {R : Ending → World → Prop} (hF : Fxt a v) (h2 : v.v4 = .int .i64 x) (h : R (.returned (.int .i64 x)) W) :
    bodyPost Tryz.prog Tryz.f16 R .ret a W := by
  have g2 := slot_get (hF.s4.trans h2)
  refine bodyPost_ret (v := .int .i64 x) ?_ hF.defers h
  simp [results, Tryz.results16, go_sem, g2]
theorem xtrim {w : World} {X : XL} {G : XG} (h : XAt w X G) (hl : G.recs.length ≤ 100000) (n : Int) :
    Calls Tryz.prog 16 #[.pointer (some ⟨X.b, 0, none⟩), .int .i64 n] w fun e w' => e = .returned (.int .i64 (xtrimF G n).1) ∧ ∃ X', XAt w' X' (xtrimF G n).2 ∧ XStep w w' X X' := by
  obtain ⟨_, hc1, hc2, _, _⟩ := xcells h
  have hxl := heap_lt h.box
  go_enter Tryz.func16, Tryz.ntmps16
  refine wp_seq (reg_mono (xt_r0 (by kernel_rfl) _ (v := ⟨_, _, _⟩) ⟨rfl, rfl, rfl, rfl, rfl⟩ ?_))
  intro a0 F0
  try dsimp only at F0
  by_cases h1 : G.fin < n
  case pos =>
    have e : xtrimF G n = (7, G) := by rw [xtrimF, if_pos h1]
    rw [e]
    refine wp_seq (wp_seq (reg_mono (xt_r1t (by kernel_rfl) _ F0 rfl rfl hc2 h1 ?_)))
    intro a1 F1 g1
    refine wp_cond_true g1 ?_
    refine wp_seq (reg_mono (xt_r2 (by kernel_rfl) _ F1 ?_))
    intro a2 F2
    try dsimp only at F2
    refine wp_ret ?_
    simp only [Exit.then]
    exact xt_ret F2 rfl ⟨rfl, X, h, XStep.below (Below.refl _ _)⟩
  refine wp_seq (wp_seq (reg_mono (xt_r1f (by kernel_rfl) _ F0 rfl rfl hc2 h1 ?_)))
  intro a1 F1 g1
  refine wp_cond_false g1 (wp_skip ?_)
  show Code.wp _ _ _ _ _
  by_cases h2 : G.low < n
  case neg =>
    have e : xtrimF G n = (0, G) := by rw [xtrimF, if_neg h1, if_neg h2]
    rw [e]
    refine wp_seq (wp_seq (reg_mono (xt_r3f (by kernel_rfl) _ F1 rfl rfl hc1 h2 ?_)))
    intro a3 F3 g3
    refine wp_cond_false g3 (wp_skip ?_)
    show Code.wp _ _ _ _ _
    refine wp_seq (reg_mono (xt_r6 (by kernel_rfl) _ F3 ?_))
    intro a6 F6
    try dsimp only at F6
    exact wp_ret (xt_ret F6 rfl ⟨rfl, X, h, XStep.below (Below.refl _ _)⟩)
  have e : xtrimF G n = (0, { G with low := n, recs := xreadF G.recs n G.recs.length }) := by rw [xtrimF, if_neg h1, if_pos h2]
  rw [e]
  refine wp_seq (wp_seq (reg_mono (xt_r3t (by kernel_rfl) _ F1 rfl rfl hc1 h2 ?_)))
  intro a3 F3 g3
  refine wp_cond_true g3 ?_
  refine wp_seq (reg_mono (xt_r4 (by kernel_rfl) _ F3 rfl rfl h.box ?_))
  intro a4 F4
  try dsimp only at F4
  have X4 := xset (o := 1) (x := .int .i64 n) h.box
  have T4 : Touch (fun j => j = X.b) w (w.setCell ⟨X.b, 1, none⟩ (.int .i64 n)) := (Touch.refl _ _).setCell _ _ (fun _ => rfl)
  have nP : (Value.slice X.po G.prods.length X.pc).ownBlock ≠ some X.b := fun e => by
    have := h.prow.type e h.box
    exact absurd this (by decide)
  have nR : (Value.slice X.ro G.recs.length X.rc).ownBlock ≠ some X.b := fun e => by
    have := h.row.type e h.box
    exact absurd this (by decide)
  have P4 := h.prow.set X.b 1 (.int .i64 n) nP
  have R4 := h.row.set X.b 1 (.int .i64 n) nR
  generalize w.setCell _ _ = w4 at *
  simp only [List.setIfInBounds_toArray, List.set_cons_succ, List.set_cons_zero] at X4
  have E5 := xread (box_cell X4 4 rfl) (heap_lt X4) R4 hl n (G.recs.length : Int)
  refine reg_all (xt_r5 (R := fun oo m oc w' => m = (xreadF G.recs n G.recs.length).length ∧ w'.ownsRow w4.heap.size 39 5 (.slice oo (xreadF G.recs n G.recs.length).length oc) (xreadF G.recs n G.recs.length).length (recCells (xreadF G.recs n G.recs.length))) (by kernel_rfl) _ F4 rfl rfl X4 (E5.mono fun e w' ⟨oo, oc, h1, h2, h3⟩ => ⟨oo, _, oc, h1, h3, rfl, h2⟩) ?_)
  rintro a5 w5 oo m oc F5 b5 ⟨rfl, o5⟩
  try dsimp only at F5
  show Code.wp _ _ _ _ _
  have X5 := Below.at b5 X4
  have X6 := xset (o := 4) (x := .slice oo (xreadF G.recs n G.recs.length).length oc) X5
  have T6 := (T4.below b5).setCell ⟨X.b, 4, none⟩ (.slice oo (xreadF G.recs n G.recs.length).length oc) (fun _ => rfl)
  have hx4 : X.b < w4.heap.size := heap_lt X4
  have n5 : ∀ j, (Value.slice oo (xreadF G.recs n G.recs.length).length oc).ownBlock = some j → w4.heap.size ≤ j := fun j hj => (o5.lt j hj).1
  have P6 := (OwnsQ.congr P4 fun j hj => b5.block j (P4.lt hj)).set X.b 4 (.slice oo (xreadF G.recs n G.recs.length).length oc) nP
  have R6 := (OwnsQ.of_row o5).set X.b 4 (.slice oo (xreadF G.recs n G.recs.length).length oc) (fun e => by have := n5 _ e; omega)
  generalize w5.setCell _ _ = w6 at *
  simp only [List.setIfInBounds_toArray, List.set_cons_succ, List.set_cons_zero] at X6
  refine wp_seq (reg_mono (xt_r6 (by kernel_rfl) _ F5 ?_))
  intro a6 F6
  try dsimp only at F6
  refine wp_ret (xt_ret F6 rfl ⟨rfl, ⟨X.b, X.po, X.pc, oo, oc⟩, ⟨X6, P6, R6⟩, T6, rfl, ?_⟩)
  rintro j (rfl | hj | hj)
  · exact .inl (.inl rfl)
  · exact .inl (.inr (.inl hj))
  · refine .inr ?_
    have := n5 j ((own_block _ _ _ _).trans hj)
    have := T4.size
    omega
end Go.Proofs.YtmkkcgkakomacaaGreat.Y
