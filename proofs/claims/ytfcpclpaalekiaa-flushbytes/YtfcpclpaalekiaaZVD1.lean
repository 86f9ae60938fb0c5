/-
  carillonref12's Decode: its plain regions (mkvd.py).
-/
import Derived.Test.YtfcpclpaalekiaaZPW3
namespace Go.Proofs.Ytfcpclpaalekiaa
open Go.RowKit
set_option maxHeartbeats 8000000
set_option maxRecDepth 100000
attribute [local go_sem ↓] Go.wp_at_zero Go.wp_at_succ
set_option linter.unusedSimpArgs false
set_option linter.unusedVariables false
theorem frame_vd (t : Array Value) (h : t.size = 69) : ∃ u : Nat → Value, t = List.toArray (u 0 :: u 1 :: u 2 :: u 3 :: u 4 :: u 5 :: u 6 :: u 7 :: u 8 :: u 9 :: u 10 :: u 11 :: u 12 :: u 13 :: u 14 :: u 15 :: u 16 :: u 17 :: u 18 :: u 19 :: u 20 :: u 21 :: u 22 :: u 23 :: u 24 :: u 25 :: u 26 :: u 27 :: u 28 :: u 29 :: u 30 :: u 31 :: u 32 :: u 33 :: u 34 :: u 35 :: u 36 :: u 37 :: u 38 :: u 39 :: u 40 :: u 41 :: u 42 :: u 43 :: u 44 :: u 45 :: u 46 :: u 47 :: u 48 :: u 49 :: u 50 :: u 51 :: u 52 :: u 53 :: u 54 :: u 55 :: u 56 :: u 57 :: u 58 :: u 59 :: u 60 :: u 61 :: u 62 :: u 63 :: u 64 :: u 65 :: u 66 :: u 67 :: u 68 :: []) := by
  refine ⟨fun i => t.getD i undef, ?_⟩
  refine Eq.trans (b := ((List.range 69).map fun i => t.getD i undef).toArray) ?_ rfl
  apply Array.ext
  · simp [h]
  · intro k h1 h2
    simp [Array.getD, h1]
structure Vvd where
  v0 : Value
  v2 : Value
  v3 : Value
  v4 : Value
  v5 : Value
  v6 : Value
  v7 : Value
  v8 : Value
structure Fvd (a : Act) (v : Vvd) : Prop where
  size : a.tmps.size = 69
  defers : a.defers = []
  s0 : a.tmps.getD 0 undef = v.v0
  s2 : a.tmps.getD 2 undef = v.v2
  s3 : a.tmps.getD 3 undef = v.v3
  s4 : a.tmps.getD 4 undef = v.v4
  s5 : a.tmps.getD 5 undef = v.v5
  s6 : a.tmps.getD 6 undef = v.v6
  s7 : a.tmps.getD 7 undef = v.v7
  s8 : a.tmps.getD 8 undef = v.v8
theorem frx_vd {a : Act} {v0 v2 v3 v4 v5 v6 v7 v8 : Value} (h : Fvd a ⟨v0, v2, v3, v4, v5, v6, v7, v8⟩) : ∃ u : Nat → Value, a = ⟨List.toArray (v0 :: u 1 :: v2 :: v3 :: v4 :: v5 :: v6 :: v7 :: v8 :: u 9 :: u 10 :: u 11 :: u 12 :: u 13 :: u 14 :: u 15 :: u 16 :: u 17 :: u 18 :: u 19 :: u 20 :: u 21 :: u 22 :: u 23 :: u 24 :: u 25 :: u 26 :: u 27 :: u 28 :: u 29 :: u 30 :: u 31 :: u 32 :: u 33 :: u 34 :: u 35 :: u 36 :: u 37 :: u 38 :: u 39 :: u 40 :: u 41 :: u 42 :: u 43 :: u 44 :: u 45 :: u 46 :: u 47 :: u 48 :: u 49 :: u 50 :: u 51 :: u 52 :: u 53 :: u 54 :: u 55 :: u 56 :: u 57 :: u 58 :: u 59 :: u 60 :: u 61 :: u 62 :: u 63 :: u 64 :: u 65 :: u 66 :: u 67 :: u 68 :: []), []⟩ := by
  obtain ⟨t', d'⟩ := a
  obtain ⟨hs, hd, q0, q2, q3, q4, q5, q6, q7, q8⟩ := h
  obtain ⟨u, hu⟩ := frame_vd t' hs
  simp only at hd q0 q2 q3 q4 q5 q6 q7 q8
  subst hu hd
  have e0 : u 0 = v0 := q0
  have e2 : u 2 = v2 := q2
  have e3 : u 3 = v3 := q3
  have e4 : u 4 = v4 := q4
  have e5 : u 5 = v5 := q5
  have e6 : u 6 = v6 := q6
  have e7 : u 7 = v7 := q7
  have e8 : u 8 = v8 := q8
  refine ⟨u, ?_⟩
  rw [e0, e2, e3, e4, e5, e6, e7, e8]
theorem vd_r1 {K : Act → World → Prop} {c : Code} (hc : regOf (Try.f37.body.getD .skip) 1 = some c) (a : Act) {v : Vvd} {wq : World} {t : ByteArray} {L : List IT} {z : Int} (hF : Fvd a v) (h0v : v.v0 = .string t) (hD : Calls Try.prog 36 #[.string ⟨#[108, 42, 98, 108]⟩, .string t] wq fun e w' => ∃ ao cap, e = .returned (.tuple #[.slice ao L.length cap, .int .i64 z]) ∧ w'.ownsRow wq.heap.size tItem 3 (.slice ao L.length cap) L.length (itCells L) ∧ Below wq.heap.size wq w')
    (hQ : ∀ a' w' ao cap, Fvd a' { v with v4 := .slice ao L.length cap, v5 := .int .i64 z } → w'.ownsRow wq.heap.size tItem 3 (.slice ao L.length cap) L.length (itCells L) → Below wq.heap.size wq w' → K a' w') :
    Code.wp Try.prog c (Exit.then K fun _ _ _ => False) a wq := by
  have HQ := hide hQ
  clear hQ
  obtain ⟨v0, v2, v3, v4, v5, v6, v7, v8⟩ := v
  simp only at h0v HQ
  subst h0v
  obtain ⟨u, rfl⟩ := frx_vd hF
  clear hF
  simp only [Try.f37, Option.getD_some, regOf] at hc
  injection hc with hc
  subst hc
  have HD := hide hD
  clear hD
  go_wp2_with fail
  refine HD.out.mono ?_
  rintro e w1 ⟨ao, cap, rfl, r1, b1⟩
  have B1 := hide b1
  have R1 := hide r1
  clear b1 r1 HD
  generalize L.length = n at *
  go_wp2
  exact HQ.out _ _ ao cap ⟨rfl, rfl, rfl, rfl, rfl, rfl, rfl, rfl, rfl, rfl⟩ R1.out B1.out
theorem vd_r2 {K : Act → World → Prop} {c : Code} (hc : regOf (Try.f37.body.getD .skip) 2 = some c) (a : Act) {v : Vvd} {wq : World} {z : Int} (hF : Fvd a v) (h5v : v.v5 = .int .i64 z) (hQ : ∀ a', Fvd a' v → a'.tmps.getD 15 undef = .bool (z != 0) → K a' wq) :
    Code.wp Try.prog c (Exit.then K fun _ _ _ => False) a wq := by
  have HQ := hide hQ
  clear hQ
  obtain ⟨v0, v2, v3, v4, v5, v6, v7, v8⟩ := v
  simp only at h5v HQ
  subst h5v
  obtain ⟨u, rfl⟩ := frx_vd hF
  clear hF
  simp only [Try.f37, Option.getD_some, regOf] at hc
  injection hc with hc
  subst hc
  go_wp2
  exact HQ.out _ ⟨rfl, rfl, rfl, rfl, rfl, rfl, rfl, rfl, rfl, rfl⟩ rfl
theorem vd_r3 {K : Act → World → Prop} {c : Code} (hc : regOf (Try.f37.body.getD .skip) 3 = some c) (a : Act) {v : Vvd} {wq : World} {rb : Nat} {z0 z1 : Value} {z : Int} (hF : Fvd a v) (h2v : v.v2 = .pointer (some ⟨rb, 0, none⟩)) (h5v : v.v5 = .int .i64 z) (hR : wq.heap[rb]? = some (.cells #[z0, z1] tView (0, 0)))
    (hQ : ∀ a' w', Fvd a' { v with v3 := .int .i64 z } → Touch (fun j => j = rb) wq w' → w'.heap[rb]? = some (.cells #[.int .i64 0, .slice none 0 0] tView (0, 0)) → K a' w') :
    Code.wp Try.prog c (Exit.then K fun _ _ _ => False) a wq := by
  have HQ := hide hQ
  clear hQ
  obtain ⟨v0, v2, v3, v4, v5, v6, v7, v8⟩ := v
  simp only at h2v h5v HQ
  subst h2v h5v
  obtain ⟨u, rfl⟩ := frx_vd hF
  clear hF
  simp only [Try.f37, Option.getD_some, regOf] at hc
  injection hc with hc
  subst hc
  have f0 := box_free hR 0
  have f1 := box_free hR 1
  have c0 := box_cell hR 0 rfl
  have c1 := box_cell hR 1 rfl
  have HR := hide hR
  clear hR
  go_wp2
  refine HQ.out _ _ ⟨rfl, rfl, rfl, rfl, rfl, rfl, rfl, rfl, rfl, rfl⟩ ?_ ?_
  · repeat refine Touch.setCell ?_ _ _ (fun _ => rfl)
    exact Touch.refl _ wq
  · have h1 := box_set (box_set HR.out 0 (.int .i64 0)) 1 (.slice none 0 0)
    simpa using h1
theorem vd_r5 {K : Act → World → Prop} {c : Code} (hc : regOf (Try.f37.body.getD .skip) 5 = some c) (a : Act) {v : Vvd} {wq : World} {rb : Nat} {z0 z1 : Value} (hF : Fvd a v) (h2v : v.v2 = .pointer (some ⟨rb, 0, none⟩)) (hR : wq.heap[rb]? = some (.cells #[z0, z1] tView (0, 0)))
    (hQ : ∀ a' w', Fvd a' { v with v3 := .int .i64 10 } → Touch (fun j => j = rb) wq w' → w'.heap[rb]? = some (.cells #[.int .i64 0, .slice none 0 0] tView (0, 0)) → K a' w') :
    Code.wp Try.prog c (Exit.then K fun _ _ _ => False) a wq := by
  have HQ := hide hQ
  clear hQ
  obtain ⟨v0, v2, v3, v4, v5, v6, v7, v8⟩ := v
  simp only at h2v HQ
  subst h2v
  obtain ⟨u, rfl⟩ := frx_vd hF
  clear hF
  simp only [Try.f37, Option.getD_some, regOf] at hc
  injection hc with hc
  subst hc
  have f0 := box_free hR 0
  have f1 := box_free hR 1
  have c0 := box_cell hR 0 rfl
  have c1 := box_cell hR 1 rfl
  have HR := hide hR
  clear hR
  go_wp2
  refine HQ.out _ _ ⟨rfl, rfl, rfl, rfl, rfl, rfl, rfl, rfl, rfl, rfl⟩ ?_ ?_
  · repeat refine Touch.setCell ?_ _ _ (fun _ => rfl)
    exact Touch.refl _ wq
  · have h1 := box_set (box_set HR.out 0 (.int .i64 0)) 1 (.slice none 0 0)
    simpa using h1
theorem vd_r11 {K : Act → World → Prop} {c : Code} (hc : regOf (Try.f37.body.getD .skip) 11 = some c) (a : Act) {v : Vvd} {wq : World} {rb : Nat} {z0 z1 : Value} (hF : Fvd a v) (h2v : v.v2 = .pointer (some ⟨rb, 0, none⟩)) (hR : wq.heap[rb]? = some (.cells #[z0, z1] tView (0, 0)))
    (hQ : ∀ a' w', Fvd a' { v with v3 := .int .i64 10 } → Touch (fun j => j = rb) wq w' → w'.heap[rb]? = some (.cells #[.int .i64 0, .slice none 0 0] tView (0, 0)) → K a' w') :
    Code.wp Try.prog c (Exit.then K fun _ _ _ => False) a wq := by
  have HQ := hide hQ
  clear hQ
  obtain ⟨v0, v2, v3, v4, v5, v6, v7, v8⟩ := v
  simp only at h2v HQ
  subst h2v
  obtain ⟨u, rfl⟩ := frx_vd hF
  clear hF
  simp only [Try.f37, Option.getD_some, regOf] at hc
  injection hc with hc
  subst hc
  have f0 := box_free hR 0
  have f1 := box_free hR 1
  have c0 := box_cell hR 0 rfl
  have c1 := box_cell hR 1 rfl
  have HR := hide hR
  clear hR
  go_wp2
  refine HQ.out _ _ ⟨rfl, rfl, rfl, rfl, rfl, rfl, rfl, rfl, rfl, rfl⟩ ?_ ?_
  · repeat refine Touch.setCell ?_ _ _ (fun _ => rfl)
    exact Touch.refl _ wq
  · have h1 := box_set (box_set HR.out 0 (.int .i64 0)) 1 (.slice none 0 0)
    simpa using h1
theorem vd_r15 {K : Act → World → Prop} {c : Code} (hc : regOf (Try.f37.body.getD .skip) 15 = some c) (a : Act) {v : Vvd} {wq : World} {rb : Nat} {z0 z1 : Value} (hF : Fvd a v) (h2v : v.v2 = .pointer (some ⟨rb, 0, none⟩)) (hR : wq.heap[rb]? = some (.cells #[z0, z1] tView (0, 0)))
    (hQ : ∀ a' w', Fvd a' { v with v3 := .int .i64 10 } → Touch (fun j => j = rb) wq w' → w'.heap[rb]? = some (.cells #[.int .i64 0, .slice none 0 0] tView (0, 0)) → K a' w') :
    Code.wp Try.prog c (Exit.then K fun _ _ _ => False) a wq := by
  have HQ := hide hQ
  clear hQ
  obtain ⟨v0, v2, v3, v4, v5, v6, v7, v8⟩ := v
  simp only at h2v HQ
  subst h2v
  obtain ⟨u, rfl⟩ := frx_vd hF
  clear hF
  simp only [Try.f37, Option.getD_some, regOf] at hc
  injection hc with hc
  subst hc
  have f0 := box_free hR 0
  have f1 := box_free hR 1
  have c0 := box_cell hR 0 rfl
  have c1 := box_cell hR 1 rfl
  have HR := hide hR
  clear hR
  go_wp2
  refine HQ.out _ _ ⟨rfl, rfl, rfl, rfl, rfl, rfl, rfl, rfl, rfl, rfl⟩ ?_ ?_
  · repeat refine Touch.setCell ?_ _ _ (fun _ => rfl)
    exact Touch.refl _ wq
  · have h1 := box_set (box_set HR.out 0 (.int .i64 0)) 1 (.slice none 0 0)
    simpa using h1
theorem vd_r4 {K : Act → World → Prop} {c : Code} (hc : regOf (Try.f37.body.getD .skip) 4 = some c) (a : Act) {v : Vvd} {wq : World} {b off n cp : Nat} {q : Int} (hF : Fvd a v) (h4v : v.v4 = .slice (some ⟨b, off, none⟩) n cp) (hn : 0 < n) (y0 : wq.cell? ⟨b, off + 1, none⟩ = some (.int .u64 q))
    (hQ : ∀ a', Fvd a' v → a'.tmps.getD 22 undef = .bool (decide (9007199254740991 < q)) → K a' wq) :
    Code.wp Try.prog c (Exit.then K fun _ _ _ => False) a wq := by
  have HQ := hide hQ
  clear hQ
  obtain ⟨v0, v2, v3, v4, v5, v6, v7, v8⟩ := v
  simp only at h4v HQ
  subst h4v
  obtain ⟨u, rfl⟩ := frx_vd hF
  clear hF
  simp only [Try.f37, Option.getD_some, regOf] at hc
  injection hc with hc
  subst hc
  generalize u 1 = u1
  generalize u 9 = u9
  generalize u 10 = u10
  generalize u 11 = u11
  generalize u 12 = u12
  generalize u 13 = u13
  generalize u 14 = u14
  generalize u 15 = u15
  generalize u 16 = u16
  generalize u 17 = u17
  generalize u 18 = u18
  generalize u 19 = u19
  generalize u 20 = u20
  generalize u 21 = u21
  generalize u 22 = u22
  generalize u 23 = u23
  generalize u 24 = u24
  generalize u 25 = u25
  generalize u 26 = u26
  generalize u 27 = u27
  generalize u 28 = u28
  generalize u 29 = u29
  generalize u 30 = u30
  generalize u 31 = u31
  generalize u 32 = u32
  generalize u 33 = u33
  generalize u 34 = u34
  generalize u 35 = u35
  generalize u 36 = u36
  generalize u 37 = u37
  generalize u 38 = u38
  generalize u 39 = u39
  generalize u 40 = u40
  generalize u 41 = u41
  generalize u 42 = u42
  generalize u 43 = u43
  generalize u 44 = u44
  generalize u 45 = u45
  generalize u 46 = u46
  generalize u 47 = u47
  generalize u 48 = u48
  generalize u 49 = u49
  generalize u 50 = u50
  generalize u 51 = u51
  generalize u 52 = u52
  generalize u 53 = u53
  generalize u 54 = u54
  generalize u 55 = u55
  generalize u 56 = u56
  generalize u 57 = u57
  generalize u 58 = u58
  generalize u 59 = u59
  generalize u 60 = u60
  generalize u 61 = u61
  generalize u 62 = u62
  generalize u 63 = u63
  generalize u 64 = u64
  generalize u 65 = u65
  generalize u 66 = u66
  generalize u 67 = u67
  generalize u 68 = u68
  clear u
  have hn1 : (0 : Int) < (n : Int) := by omega
  by_cases h : 9007199254740991 < q
  · rw [decide_eq_true h] at HQ
    have g : q > 9007199254740991 := h
    go_wp2
    exact HQ.out _ ⟨rfl, rfl, rfl, rfl, rfl, rfl, rfl, rfl, rfl, rfl⟩ rfl
  · rw [decide_eq_false h] at HQ
    have g : ¬ q > 9007199254740991 := h
    go_wp2
    exact HQ.out _ ⟨rfl, rfl, rfl, rfl, rfl, rfl, rfl, rfl, rfl, rfl⟩ rfl
theorem vd_r6 {K : Act → World → Prop} {c : Code} (hc : regOf (Try.f37.body.getD .skip) 6 = some c) (a : Act) {v : Vvd} {wq : World} {b off n cp : Nat} {q : Int} (hF : Fvd a v) (h4v : v.v4 = .slice (some ⟨b, off, none⟩) n cp) (hn : 0 < n) (y0 : wq.cell? ⟨b, off + 1, none⟩ = some (.int .u64 q)) (hq : 0 ≤ q ∧ q ≤ 9007199254740991)
    (hQ : ∀ a', Fvd a' { v with v6 := .pointer (some ⟨wq.heap.size, 0, none⟩) } → K a' (wq.alloc (.cells #[.int .i64 q, .slice none 0 0] tView))) :
    Code.wp Try.prog c (Exit.then K fun _ _ _ => False) a wq := by
  have HQ := hide hQ
  clear hQ
  obtain ⟨v0, v2, v3, v4, v5, v6, v7, v8⟩ := v
  simp only at h4v HQ
  subst h4v
  obtain ⟨u, rfl⟩ := frx_vd hF
  clear hF
  simp only [Try.f37, Option.getD_some, regOf] at hc
  injection hc with hc
  subst hc
  generalize u 1 = u1
  generalize u 9 = u9
  generalize u 10 = u10
  generalize u 11 = u11
  generalize u 12 = u12
  generalize u 13 = u13
  generalize u 14 = u14
  generalize u 15 = u15
  generalize u 16 = u16
  generalize u 17 = u17
  generalize u 18 = u18
  generalize u 19 = u19
  generalize u 20 = u20
  generalize u 21 = u21
  generalize u 22 = u22
  generalize u 23 = u23
  generalize u 24 = u24
  generalize u 25 = u25
  generalize u 26 = u26
  generalize u 27 = u27
  generalize u 28 = u28
  generalize u 29 = u29
  generalize u 30 = u30
  generalize u 31 = u31
  generalize u 32 = u32
  generalize u 33 = u33
  generalize u 34 = u34
  generalize u 35 = u35
  generalize u 36 = u36
  generalize u 37 = u37
  generalize u 38 = u38
  generalize u 39 = u39
  generalize u 40 = u40
  generalize u 41 = u41
  generalize u 42 = u42
  generalize u 43 = u43
  generalize u 44 = u44
  generalize u 45 = u45
  generalize u 46 = u46
  generalize u 47 = u47
  generalize u 48 = u48
  generalize u 49 = u49
  generalize u 50 = u50
  generalize u 51 = u51
  generalize u 52 = u52
  generalize u 53 = u53
  generalize u 54 = u54
  generalize u 55 = u55
  generalize u 56 = u56
  generalize u 57 = u57
  generalize u 58 = u58
  generalize u 59 = u59
  generalize u 60 = u60
  generalize u 61 = u61
  generalize u 62 = u62
  generalize u 63 = u63
  generalize u 64 = u64
  generalize u 65 = u65
  generalize u 66 = u66
  generalize u 67 = u67
  generalize u 68 = u68
  clear u
  have hn1 : (0 : Int) < (n : Int) := by omega
  obtain ⟨q1, q2⟩ := hq
  have q3 : wrap64 q = q := by unfold wrap64; omega
  go_wp2
  exact HQ.out _ ⟨rfl, rfl, rfl, rfl, rfl, rfl, rfl, rfl, rfl, rfl⟩
theorem vd_r7 {K : Act → World → Prop} {c : Code} (hc : regOf (Try.f37.body.getD .skip) 7 = some c) (a : Act) {v : Vvd} {wq : World}  (hF : Fvd a v) (hQ : ∀ a', Fvd a' { v with v7 := .int .i64 ((1 : Nat) : Int) } → K a' wq) :
    Code.wp Try.prog c (Exit.then K fun _ _ _ => False) a wq := by
  have HQ := hide hQ
  clear hQ
  obtain ⟨v0, v2, v3, v4, v5, v6, v7, v8⟩ := v
  obtain ⟨u, rfl⟩ := frx_vd hF
  clear hF
  simp only [Try.f37, Option.getD_some, regOf] at hc
  injection hc with hc
  subst hc
  go_wp2
  exact HQ.out _ ⟨rfl, rfl, rfl, rfl, rfl, rfl, rfl, rfl, rfl, rfl⟩
theorem vd_r8 {K : Act → World → Prop} {c : Code} (hc : regOf (Try.f37.body.getD .skip) 8 = some c) (a : Act) {v : Vvd} {wq : World} {ao : Option Addr} {n cp i : Nat} (hF : Fvd a v) (h4v : v.v4 = .slice ao n cp) (h7v : v.v7 = .int .i64 (i : Int)) (hQ : ∀ a', Fvd a' v → a'.tmps.getD 33 undef = .bool (decide (i < n)) → K a' wq) :
    Code.wp Try.prog c (Exit.then K fun _ _ _ => False) a wq := by
  have HQ := hide hQ
  clear hQ
  obtain ⟨v0, v2, v3, v4, v5, v6, v7, v8⟩ := v
  simp only at h4v h7v HQ
  subst h4v h7v
  obtain ⟨u, rfl⟩ := frx_vd hF
  clear hF
  simp only [Try.f37, Option.getD_some, regOf] at hc
  injection hc with hc
  subst hc
  by_cases h1 : i < n
  · rw [decide_eq_true h1] at HQ
    have g : (i : Int) < (n : Int) := by omega
    go_wp2
    exact HQ.out _ ⟨rfl, rfl, rfl, rfl, rfl, rfl, rfl, rfl, rfl, rfl⟩ rfl
  · rw [decide_eq_false h1] at HQ
    have g : ¬ (i : Int) < (n : Int) := by omega
    go_wp2
    exact HQ.out _ ⟨rfl, rfl, rfl, rfl, rfl, rfl, rfl, rfl, rfl, rfl⟩ rfl
theorem vd_r10 {K : Act → World → Prop} {c : Code} (hc : regOf (Try.f37.body.getD .skip) 10 = some c) (a : Act) {v : Vvd} {wq : World} {b off n cp i : Nat} {q : Int} (hF : Fvd a v) (h4v : v.v4 = .slice (some ⟨b, off, none⟩) n cp) (h7v : v.v7 = .int .i64 (i : Int)) (hi : i + 1 < n) (hn : n ≤ 1000) (y0 : wq.cell? ⟨b, off + (i + 1) * 3 + 1, none⟩ = some (.int .u64 q))
    (hQ : ∀ a', Fvd a' v → a'.tmps.getD 42 undef = .bool (decide (9007199254740991 < q)) → K a' wq) :
    Code.wp Try.prog c (Exit.then K fun _ _ _ => False) a wq := by
  have HQ := hide hQ
  clear hQ
  obtain ⟨v0, v2, v3, v4, v5, v6, v7, v8⟩ := v
  simp only at h4v h7v HQ
  subst h4v h7v
  obtain ⟨u, rfl⟩ := frx_vd hF
  clear hF
  simp only [Try.f37, Option.getD_some, regOf] at hc
  injection hc with hc
  subst hc
  generalize u 1 = u1
  generalize u 9 = u9
  generalize u 10 = u10
  generalize u 11 = u11
  generalize u 12 = u12
  generalize u 13 = u13
  generalize u 14 = u14
  generalize u 15 = u15
  generalize u 16 = u16
  generalize u 17 = u17
  generalize u 18 = u18
  generalize u 19 = u19
  generalize u 20 = u20
  generalize u 21 = u21
  generalize u 22 = u22
  generalize u 23 = u23
  generalize u 24 = u24
  generalize u 25 = u25
  generalize u 26 = u26
  generalize u 27 = u27
  generalize u 28 = u28
  generalize u 29 = u29
  generalize u 30 = u30
  generalize u 31 = u31
  generalize u 32 = u32
  generalize u 33 = u33
  generalize u 34 = u34
  generalize u 35 = u35
  generalize u 36 = u36
  generalize u 37 = u37
  generalize u 38 = u38
  generalize u 39 = u39
  generalize u 40 = u40
  generalize u 41 = u41
  generalize u 42 = u42
  generalize u 43 = u43
  generalize u 44 = u44
  generalize u 45 = u45
  generalize u 46 = u46
  generalize u 47 = u47
  generalize u 48 = u48
  generalize u 49 = u49
  generalize u 50 = u50
  generalize u 51 = u51
  generalize u 52 = u52
  generalize u 53 = u53
  generalize u 54 = u54
  generalize u 55 = u55
  generalize u 56 = u56
  generalize u 57 = u57
  generalize u 58 = u58
  generalize u 59 = u59
  generalize u 60 = u60
  generalize u 61 = u61
  generalize u 62 = u62
  generalize u 63 = u63
  generalize u 64 = u64
  generalize u 65 = u65
  generalize u 66 = u66
  generalize u 67 = u67
  generalize u 68 = u68
  clear u
  have hi0 : (0 : Int) ≤ (i : Int) + 1 := by omega
  have hi1 : (i : Int) + 1 < (n : Int) := by omega
  have hi2 : ((i : Int) + 1).toNat = i + 1 := by omega
  by_cases h : 9007199254740991 < q
  · rw [decide_eq_true h] at HQ
    have g : q > 9007199254740991 := h
    go_wp2
    exact HQ.out _ ⟨rfl, rfl, rfl, rfl, rfl, rfl, rfl, rfl, rfl, rfl⟩ rfl
  · rw [decide_eq_false h] at HQ
    have g : ¬ q > 9007199254740991 := h
    go_wp2
    exact HQ.out _ ⟨rfl, rfl, rfl, rfl, rfl, rfl, rfl, rfl, rfl, rfl⟩ rfl
theorem vd_r9 {K : Act → World → Prop} {c : Code} (hc : regOf (Try.f37.body.getD .skip) 9 = some c) (a : Act) {v : Vvd} {wq : World} {i : Nat} (hF : Fvd a v) (h7v : v.v7 = .int .i64 (i : Int)) (hn : i ≤ 4611686018427387904) (hQ : ∀ a', Fvd a' { v with v7 := .int .i64 ((i + 2 : Nat) : Int) } → K a' wq) :
    Code.wp Try.prog c (Exit.then K fun _ _ _ => False) a wq := by
  have HQ := hide hQ
  clear hQ
  obtain ⟨v0, v2, v3, v4, v5, v6, v7, v8⟩ := v
  simp only at h7v HQ
  subst h7v
  obtain ⟨u, rfl⟩ := frx_vd hF
  clear hF
  simp only [Try.f37, Option.getD_some, regOf] at hc
  injection hc with hc
  subst hc
  have hj1 : ((i + 2 : Nat) : Int) = (i : Int) + 2 := by omega
  rw [hj1] at HQ
  clear hj1
  go_wp2
  exact HQ.out _ ⟨rfl, rfl, rfl, rfl, rfl, rfl, rfl, rfl, rfl, rfl⟩
theorem vd_r13 {K : Act → World → Prop} {c : Code} (hc : regOf (Try.f37.body.getD .skip) 13 = some c) (a : Act) {v : Vvd} {wq : World} {ob cp : Nat} {x : VW} {ao : Option Addr} (hF : Fvd a v) (h6v : v.v6 = .pointer (some ⟨ob, 0, none⟩)) (hD : wq.heap[ob]? = some (.cells #[.int .i64 x.num, .slice ao x.mem.length cp] tView (0, 0))) (hM : MemsAt wq ao x.mem)
    (hQ : ∀ a' w', Fvd a' { v with v8 := .bool (decide x.right) } → Below wq.heap.size wq w' → K a' w') :
    Code.wp Try.prog c (Exit.then K fun _ _ _ => False) a wq := by
  have HQ := hide hQ
  clear hQ
  obtain ⟨v0, v2, v3, v4, v5, v6, v7, v8⟩ := v
  simp only at h6v HQ
  subst h6v
  obtain ⟨u, rfl⟩ := frx_vd hF
  clear hF
  simp only [Try.f37, Option.getD_some, regOf] at hc
  injection hc with hc
  subst hc
  have c0 := box_cell hD 0 rfl
  have c1 := box_cell hD 1 rfl
  have HR := hide (rright x ao cp wq hM)
  clear hD hM
  simp only [VW.v] at HR
  generalize decide x.right = r at *
  generalize x.mem.length = n at *
  generalize x.num = k at *
  go_wp2_with fail
  refine HR.out.mono ?_
  rintro e w1 ⟨rfl, b1⟩
  have B1 := hide b1
  clear b1 HR
  go_wp2
  exact HQ.out _ _ ⟨rfl, rfl, rfl, rfl, rfl, rfl, rfl, rfl, rfl, rfl⟩ B1.out
theorem vd_r14 {K : Act → World → Prop} {c : Code} (hc : regOf (Try.f37.body.getD .skip) 14 = some c) (a : Act) {v : Vvd} {wq : World} {r : Bool} (hF : Fvd a v) (h8v : v.v8 = .bool r) (hQ : ∀ a', Fvd a' v → a'.tmps.getD 66 undef = .bool (!r) → K a' wq) :
    Code.wp Try.prog c (Exit.then K fun _ _ _ => False) a wq := by
  have HQ := hide hQ
  clear hQ
  obtain ⟨v0, v2, v3, v4, v5, v6, v7, v8⟩ := v
  simp only at h8v HQ
  subst h8v
  obtain ⟨u, rfl⟩ := frx_vd hF
  clear hF
  simp only [Try.f37, Option.getD_some, regOf] at hc
  injection hc with hc
  subst hc
  go_wp2
  exact HQ.out _ ⟨rfl, rfl, rfl, rfl, rfl, rfl, rfl, rfl, rfl, rfl⟩ rfl
theorem vd_r16 {K : Act → World → Prop} {c : Code} (hc : regOf (Try.f37.body.getD .skip) 16 = some c) (a : Act) {v : Vvd} {wq : World} {ob rb n oc : Nat} {num : Int} {oo : Option Addr} {z0 z1 : Value} (hF : Fvd a v) (h2v : v.v2 = .pointer (some ⟨rb, 0, none⟩)) (h6v : v.v6 = .pointer (some ⟨ob, 0, none⟩)) (hO : wq.heap[ob]? = some (.cells #[.int .i64 num, .slice oo n oc] tView (0, 0))) (hR : wq.heap[rb]? = some (.cells #[z0, z1] tView (0, 0)))
    (hQ : ∀ a' w', Fvd a' { v with v3 := .int .i64 0 } → Touch (fun j => j = rb) wq w' → w'.heap[rb]? = some (.cells #[.int .i64 num, .slice oo n oc] tView (0, 0)) → K a' w') :
    Code.wp Try.prog c (Exit.then K fun _ _ _ => False) a wq := by
  have HQ := hide hQ
  clear hQ
  obtain ⟨v0, v2, v3, v4, v5, v6, v7, v8⟩ := v
  simp only at h2v h6v HQ
  subst h2v h6v
  obtain ⟨u, rfl⟩ := frx_vd hF
  clear hF
  simp only [Try.f37, Option.getD_some, regOf] at hc
  injection hc with hc
  subst hc
  have f0 := box_free hR 0
  have f1 := box_free hR 1
  have c0 := box_cell hR 0 rfl
  have c1 := box_cell hR 1 rfl
  have d0 := box_cell hO 0 rfl
  have d1 := box_cell hO 1 rfl
  have HR := hide hR
  clear hR hO
  go_wp2
  refine HQ.out _ _ ⟨rfl, rfl, rfl, rfl, rfl, rfl, rfl, rfl, rfl, rfl⟩ ?_ ?_
  · repeat refine Touch.setCell ?_ _ _ (fun _ => rfl)
    exact Touch.refl _ wq
  · have h1 := box_set (box_set HR.out 0 (.int .i64 num)) 1 (.slice oo n oc)
    simpa using h1
end Go.Proofs.Ytfcpclpaalekiaa
