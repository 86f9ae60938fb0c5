/-
  TopicBack's regions (mkba.py).
-/
import Derived.Test.YtmkkcgkakomacaaGreatZUA
import Derived.Test.YtmkkcgkakomacaaGreatZUR
import Derived.Deep.RegionWith
namespace Go.Proofs.YtmkkcgkakomacaaGreat.Y
open Go.RowKit
set_option maxHeartbeats 8000000
set_option maxRecDepth 100000
attribute [local go_sem ↓] Go.wp_at_zero Go.wp_at_succ
set_option linter.unusedSimpArgs false
set_option linter.unusedVariables false
theorem frame_ba (t : Array Value) (h : t.size = 136) : ∃ u : Nat → Value, t = List.toArray (u 0 :: u 1 :: u 2 :: u 3 :: u 4 :: u 5 :: u 6 :: u 7 :: u 8 :: u 9 :: u 10 :: u 11 :: u 12 :: u 13 :: u 14 :: u 15 :: u 16 :: u 17 :: u 18 :: u 19 :: u 20 :: u 21 :: u 22 :: u 23 :: u 24 :: u 25 :: u 26 :: u 27 :: u 28 :: u 29 :: u 30 :: u 31 :: u 32 :: u 33 :: u 34 :: u 35 :: u 36 :: u 37 :: u 38 :: u 39 :: u 40 :: u 41 :: u 42 :: u 43 :: u 44 :: u 45 :: u 46 :: u 47 :: u 48 :: u 49 :: u 50 :: u 51 :: u 52 :: u 53 :: u 54 :: u 55 :: u 56 :: u 57 :: u 58 :: u 59 :: u 60 :: u 61 :: u 62 :: u 63 :: u 64 :: u 65 :: u 66 :: u 67 :: u 68 :: u 69 :: u 70 :: u 71 :: u 72 :: u 73 :: u 74 :: u 75 :: u 76 :: u 77 :: u 78 :: u 79 :: u 80 :: u 81 :: u 82 :: u 83 :: u 84 :: u 85 :: u 86 :: u 87 :: u 88 :: u 89 :: u 90 :: u 91 :: u 92 :: u 93 :: u 94 :: u 95 :: u 96 :: u 97 :: u 98 :: u 99 :: u 100 :: u 101 :: u 102 :: u 103 :: u 104 :: u 105 :: u 106 :: u 107 :: u 108 :: u 109 :: u 110 :: u 111 :: u 112 :: u 113 :: u 114 :: u 115 :: u 116 :: u 117 :: u 118 :: u 119 :: u 120 :: u 121 :: u 122 :: u 123 :: u 124 :: u 125 :: u 126 :: u 127 :: u 128 :: u 129 :: u 130 :: u 131 :: u 132 :: u 133 :: u 134 :: u 135 :: []) := by
  refine ⟨fun i => t.getD i undef, ?_⟩
  refine Eq.trans (b := ((List.range 136).map fun i => t.getD i undef).toArray) ?_ rfl
  apply Array.ext
  · simp [h]
  · intro k h1 h2
    simp [Array.getD, h1]
structure Vba where
  v0 : Value
  v1 : Value
  v4 : Value
  v5 : Value
  v6 : Value
  v8 : Value
  v9 : Value
  v10 : Value
  v11 : Value
  v12 : Value
  v13 : Value
  v14 : Value
  v15 : Value
  v16 : Value
structure Fba (a : Act) (v : Vba) : Prop where
  size : a.tmps.size = 136
  defers : a.defers = []
  s0 : a.tmps.getD 0 undef = v.v0
  s1 : a.tmps.getD 1 undef = v.v1
  s4 : a.tmps.getD 4 undef = v.v4
  s5 : a.tmps.getD 5 undef = v.v5
  s6 : a.tmps.getD 6 undef = v.v6
  s8 : a.tmps.getD 8 undef = v.v8
  s9 : a.tmps.getD 9 undef = v.v9
  s10 : a.tmps.getD 10 undef = v.v10
  s11 : a.tmps.getD 11 undef = v.v11
  s12 : a.tmps.getD 12 undef = v.v12
  s13 : a.tmps.getD 13 undef = v.v13
  s14 : a.tmps.getD 14 undef = v.v14
  s15 : a.tmps.getD 15 undef = v.v15
  s16 : a.tmps.getD 16 undef = v.v16
theorem frx_ba {a : Act} {v0 v1 v4 v5 v6 v8 v9 v10 v11 v12 v13 v14 v15 v16 : Value} (h : Fba a ⟨v0, v1, v4, v5, v6, v8, v9, v10, v11, v12, v13, v14, v15, v16⟩) : ∃ u : Nat → Value, a = ⟨List.toArray (v0 :: v1 :: u 2 :: u 3 :: v4 :: v5 :: v6 :: u 7 :: v8 :: v9 :: v10 :: v11 :: v12 :: v13 :: v14 :: v15 :: v16 :: u 17 :: u 18 :: u 19 :: u 20 :: u 21 :: u 22 :: u 23 :: u 24 :: u 25 :: u 26 :: u 27 :: u 28 :: u 29 :: u 30 :: u 31 :: u 32 :: u 33 :: u 34 :: u 35 :: u 36 :: u 37 :: u 38 :: u 39 :: u 40 :: u 41 :: u 42 :: u 43 :: u 44 :: u 45 :: u 46 :: u 47 :: u 48 :: u 49 :: u 50 :: u 51 :: u 52 :: u 53 :: u 54 :: u 55 :: u 56 :: u 57 :: u 58 :: u 59 :: u 60 :: u 61 :: u 62 :: u 63 :: u 64 :: u 65 :: u 66 :: u 67 :: u 68 :: u 69 :: u 70 :: u 71 :: u 72 :: u 73 :: u 74 :: u 75 :: u 76 :: u 77 :: u 78 :: u 79 :: u 80 :: u 81 :: u 82 :: u 83 :: u 84 :: u 85 :: u 86 :: u 87 :: u 88 :: u 89 :: u 90 :: u 91 :: u 92 :: u 93 :: u 94 :: u 95 :: u 96 :: u 97 :: u 98 :: u 99 :: u 100 :: u 101 :: u 102 :: u 103 :: u 104 :: u 105 :: u 106 :: u 107 :: u 108 :: u 109 :: u 110 :: u 111 :: u 112 :: u 113 :: u 114 :: u 115 :: u 116 :: u 117 :: u 118 :: u 119 :: u 120 :: u 121 :: u 122 :: u 123 :: u 124 :: u 125 :: u 126 :: u 127 :: u 128 :: u 129 :: u 130 :: u 131 :: u 132 :: u 133 :: u 134 :: u 135 :: []), []⟩ := by
  obtain ⟨t', d'⟩ := a
  obtain ⟨hs, hd, q0, q1, q4, q5, q6, q8, q9, q10, q11, q12, q13, q14, q15, q16⟩ := h
  obtain ⟨u, hu⟩ := frame_ba t' hs
  simp only at hd q0 q1 q4 q5 q6 q8 q9 q10 q11 q12 q13 q14 q15 q16
  subst hu hd
  have e0 : u 0 = v0 := q0
  have e1 : u 1 = v1 := q1
  have e4 : u 4 = v4 := q4
  have e5 : u 5 = v5 := q5
  have e6 : u 6 = v6 := q6
  have e8 : u 8 = v8 := q8
  have e9 : u 9 = v9 := q9
  have e10 : u 10 = v10 := q10
  have e11 : u 11 = v11 := q11
  have e12 : u 12 = v12 := q12
  have e13 : u 13 = v13 := q13
  have e14 : u 14 = v14 := q14
  have e15 : u 15 = v15 := q15
  have e16 : u 16 = v16 := q16
  refine ⟨u, ?_⟩
  rw [e0, e1, e4, e5, e6, e8, e9, e10, e11, e12, e13, e14, e15, e16]
theorem ba_r0 {K : Act → World → Prop} {c : Code} (hc : regOf (Tryz.f5.body.getD .skip) 0 = some c) (a : Act) {v : Vba} {wq : World}  (hF : Fba a v) (hQ : ∀ a', Fba a' { v with v4 := .bool false } → K a' wq) :
    Code.wp Tryz.prog c (Exit.then K fun _ _ _ => False) a wq := by
  have HQ := hide hQ
  clear hQ
  obtain ⟨v0, v1, v4, v5, v6, v8, v9, v10, v11, v12, v13, v14, v15, v16⟩ := v
  obtain ⟨u, rfl⟩ := frx_ba hF
  clear hF
  simp only [Tryz.f5, Option.getD_some, regOf] at hc
  injection hc with hc
  subst hc
  go_wp2
  exact HQ.out _ ⟨rfl, rfl, rfl, rfl, rfl, rfl, rfl, rfl, rfl, rfl, rfl, rfl, rfl, rfl, rfl, rfl⟩
theorem ba_r1 {K : Act → World → Prop} {c : Code} (hc : regOf (Tryz.f5.body.getD .skip) 1 = some c) (a : Act) {v : Vba} {wq : World} {R : World → Prop} (hF : Fba a v) (hE : Calls Tryz.prog 6 #[] wq fun e w' => e = .returned (.bool true) ∧ R w')
    (hQ : ∀ a' w' , Fba a' { v with v5 := .bool true } → R w' → K a' w') :
    Code.wp Tryz.prog c (Exit.then K fun _ _ _ => False) a wq := by
  have HQ := hide hQ
  clear hQ
  obtain ⟨v0, v1, v4, v5, v6, v8, v9, v10, v11, v12, v13, v14, v15, v16⟩ := v
  obtain ⟨u, rfl⟩ := frx_ba hF
  clear hF
  simp only [Tryz.f5, Option.getD_some, regOf] at hc
  injection hc with hc
  subst hc
  have HE := hide hE
  clear hE
  go_wp2_with fail
  refine HE.out.mono ?_
  rintro e w1 ⟨rfl, r1⟩
  have R1 := hide r1
  clear r1 HE
  go_wp2
  exact HQ.out _ _ ⟨rfl, rfl, rfl, rfl, rfl, rfl, rfl, rfl, rfl, rfl, rfl, rfl, rfl, rfl, rfl, rfl⟩ R1.out
theorem ba_r2 {K : Act → World → Prop} {c : Code} (hc : regOf (Tryz.f5.body.getD .skip) 2 = some c) (a : Act) {v : Vba} {wq : World} {R : LOC → World → Prop} (hF : Fba a v) (hE : Calls Tryz.prog 7 #[.string ⟨#[116]⟩] wq fun e w' => ∃ L : LOC, e = .returned (.tuple #[.pointer (some ⟨L.b, 0, none⟩), .int .i64 0]) ∧ R L w')
    (hQ : ∀ a' w' (L : LOC), Fba a' { v with v6 := .pointer (some ⟨L.b, 0, none⟩) } → R L w' → K a' w') :
    Code.wp Tryz.prog c (Exit.then K fun _ _ _ => False) a wq := by
  have HQ := hide hQ
  clear hQ
  obtain ⟨v0, v1, v4, v5, v6, v8, v9, v10, v11, v12, v13, v14, v15, v16⟩ := v
  obtain ⟨u, rfl⟩ := frx_ba hF
  clear hF
  simp only [Tryz.f5, Option.getD_some, regOf] at hc
  injection hc with hc
  subst hc
  have HE := hide hE
  clear hE
  go_wp2_with fail
  refine HE.out.mono ?_
  rintro e w1 ⟨L, rfl, r1⟩
  have R1 := hide r1
  clear r1 HE
  go_wp2
  exact HQ.out _ _ L ⟨rfl, rfl, rfl, rfl, rfl, rfl, rfl, rfl, rfl, rfl, rfl, rfl, rfl, rfl, rfl, rfl⟩ R1.out
theorem ba_r3 {K : Act → World → Prop} {c : Code} (hc : regOf (Tryz.f5.body.getD .skip) 3 = some c) (a : Act) {v : Vba} {wq : World} {tb : Nat} (hF : Fba a v) (h6v : v.v6 = .pointer (some ⟨tb, 0, none⟩)) (hQ : ∀ a', Fba a' v → a'.tmps.getD 23 undef = .bool false → K a' wq) :
    Code.wp Tryz.prog c (Exit.then K fun _ _ _ => False) a wq := by
  have HQ := hide hQ
  clear hQ
  obtain ⟨v0, v1, v4, v5, v6, v8, v9, v10, v11, v12, v13, v14, v15, v16⟩ := v
  simp only at h6v HQ
  subst h6v
  obtain ⟨u, rfl⟩ := frx_ba hF
  clear hF
  simp only [Tryz.f5, Option.getD_some, regOf] at hc
  injection hc with hc
  subst hc
  go_wp2
  exact HQ.out _ ⟨rfl, rfl, rfl, rfl, rfl, rfl, rfl, rfl, rfl, rfl, rfl, rfl, rfl, rfl, rfl, rfl⟩ (by first | rfl | (simp; done) | (simp; assumption) | (simp; omega))
theorem ba_r5 {K : Act → World → Prop} {c : Code} (hc : regOf (Tryz.f5.body.getD .skip) 5 = some c) (a : Act) {v : Vba} {wq : World}  (hF : Fba a v) (hQ : ∀ a', Fba a' { v with v8 := .int .i64 ((0 : Nat) : Int) } → K a' wq) :
    Code.wp Tryz.prog c (Exit.then K fun _ _ _ => False) a wq := by
  have HQ := hide hQ
  clear hQ
  obtain ⟨v0, v1, v4, v5, v6, v8, v9, v10, v11, v12, v13, v14, v15, v16⟩ := v
  obtain ⟨u, rfl⟩ := frx_ba hF
  clear hF
  simp only [Tryz.f5, Option.getD_some, regOf] at hc
  injection hc with hc
  subst hc
  go_wp2
  exact HQ.out _ ⟨rfl, rfl, rfl, rfl, rfl, rfl, rfl, rfl, rfl, rfl, rfl, rfl, rfl, rfl, rfl, rfl⟩
theorem ba_r6 {K : Act → World → Prop} {c : Code} (hc : regOf (Tryz.f5.body.getD .skip) 6 = some c) (a : Act) {v : Vba} {wq : World} {ao : Option Addr} {n cap i : Nat} (hF : Fba a v) (h0v : v.v0 = .slice ao n cap) (h8v : v.v8 = .int .i64 (i : Int)) (hQ : ∀ a', Fba a' v → a'.tmps.getD 31 undef = .bool (decide (i < n) && decide (i < 60)) → K a' wq) :
    Code.wp Tryz.prog c (Exit.then K fun _ _ _ => False) a wq := by
  have HQ := hide hQ
  clear hQ
  obtain ⟨v0, v1, v4, v5, v6, v8, v9, v10, v11, v12, v13, v14, v15, v16⟩ := v
  simp only at h0v h8v HQ
  subst h0v h8v
  obtain ⟨u, rfl⟩ := frx_ba hF
  clear hF
  simp only [Tryz.f5, Option.getD_some, regOf] at hc
  injection hc with hc
  subst hc
  by_cases h1 : i < n
  · have g1 : (i : Int) < (n : Int) := by omega
    by_cases h2 : i < 60
    · rw [decide_eq_true h1, decide_eq_true h2] at HQ
      have g2 : (i : Int) < 60 := by omega
      go_wp2
      exact HQ.out _ ⟨rfl, rfl, rfl, rfl, rfl, rfl, rfl, rfl, rfl, rfl, rfl, rfl, rfl, rfl, rfl, rfl⟩ (by first | rfl | (simp; done) | (simp; omega))
    · rw [decide_eq_true h1, decide_eq_false h2] at HQ
      have g2 : ¬ (i : Int) < 60 := by omega
      go_wp2
      exact HQ.out _ ⟨rfl, rfl, rfl, rfl, rfl, rfl, rfl, rfl, rfl, rfl, rfl, rfl, rfl, rfl, rfl, rfl⟩ (by first | rfl | (simp; done) | (simp; omega))
  · rw [decide_eq_false h1] at HQ
    have g1 : ¬ (i : Int) < (n : Int) := by omega
    go_wp2
    exact HQ.out _ ⟨rfl, rfl, rfl, rfl, rfl, rfl, rfl, rfl, rfl, rfl, rfl, rfl, rfl, rfl, rfl, rfl⟩ (by first | rfl | (simp; done) | (simp; omega))
theorem ba_r8 {K : Act → World → Prop} {c : Code} (hc : regOf (Tryz.f5.body.getD .skip) 8 = some c) (a : Act) {v : Vba} {wq : World} {tb n cap i b off : Nat} {d : DE} {R : World → Prop} (hF : Fba a v) (h0v : v.v0 = .slice (some ⟨b, off, none⟩) n cap) (h8v : v.v8 = .int .i64 (i : Int)) (h6v : v.v6 = .pointer (some ⟨tb, 0, none⟩)) (hi : i < n) (hd : DEAt wq b (off + i * 7) d) (hE : Calls Tryz.prog 10 #[.pointer (some ⟨tb, 0, none⟩), .string d.prod, .int .i64 d.seq, .string d.key, .string d.val] wq.drew fun e w' => (∃ x, e = .returned x) ∧ R w')
    (hQ : ∀ a' w', Fba a' v → R w' → K a' w') :
    Code.wp Tryz.prog c (Exit.then K fun _ _ _ => False) a wq := by
  have HQ := hide hQ
  clear hQ
  obtain ⟨v0, v1, v4, v5, v6, v8, v9, v10, v11, v12, v13, v14, v15, v16⟩ := v
  simp only at h0v h8v h6v HQ
  subst h0v h8v h6v
  obtain ⟨u, rfl⟩ := frx_ba hF
  clear hF
  simp only [Tryz.f5, Option.getD_some, regOf] at hc
  injection hc with hc
  subst hc
  obtain ⟨c0, c1, c2, c3, c4, c5, c6⟩ := hd
  obtain ⟨dk, dp, ds, dy, dv, dn, dm⟩ := d
  simp only at c0 c1 c2 c3 c4 c5 c6 hE
  have HE := hide hE
  clear hE c0 c5 c6
  have hi0 : (0 : Int) ≤ (i : Int) := by omega
  have hi1 : (i : Int) < (n : Int) := by omega
  go_region_with ((go_at_call 10; refine HE.out.mono ?_; rintro e w1 ⟨⟨x, rfl⟩, r1⟩; have R1 := hide r1; clear r1))
  all_goals exact HQ.out _ _ ⟨rfl, rfl, rfl, rfl, rfl, rfl, rfl, rfl, rfl, rfl, rfl, rfl, rfl, rfl, rfl, rfl⟩ R1.out
theorem ba_r7 {K : Act → World → Prop} {c : Code} (hc : regOf (Tryz.f5.body.getD .skip) 7 = some c) (a : Act) {v : Vba} {wq : World} {i : Nat} (hF : Fba a v) (h8v : v.v8 = .int .i64 (i : Int)) (hk : i ≤ 1000000) (hQ : ∀ a', Fba a' { v with v8 := .int .i64 ((i + 1 : Nat) : Int) } → K a' wq) :
    Code.wp Tryz.prog c (Exit.then K fun _ _ _ => False) a wq := by
  have HQ := hide hQ
  clear hQ
  obtain ⟨v0, v1, v4, v5, v6, v8, v9, v10, v11, v12, v13, v14, v15, v16⟩ := v
  simp only at h8v HQ
  subst h8v
  obtain ⟨u, rfl⟩ := frx_ba hF
  clear hF
  simp only [Tryz.f5, Option.getD_some, regOf] at hc
  injection hc with hc
  subst hc
  have e1 : ((i + 1 : Nat) : Int) = (i : Int) + 1 := by omega
  rw [e1] at HQ
  go_wp2
  exact HQ.out _ ⟨rfl, rfl, rfl, rfl, rfl, rfl, rfl, rfl, rfl, rfl, rfl, rfl, rfl, rfl, rfl, rfl⟩
theorem ba_r9 {K : Act → World → Prop} {c : Code} (hc : regOf (Tryz.f5.body.getD .skip) 9 = some c) (a : Act) {v : Vba} {wq : World} {tb fi : Nat} {lw y : Int} {R : World → Prop} (hF : Fba a v) (h1v : v.v1 = .int .i64 lw) (h6v : v.v6 = .pointer (some ⟨tb, 0, none⟩)) (hfi : fi ≤ 1000000) (hA : Calls Tryz.prog 24 #[.pointer (some ⟨tb, 0, none⟩)] wq fun e w' => e = .returned (.int .i64 (fi : Int)) ∧ w' = wq) (hB : ∀ W, Calls Tryz.prog 9 #[.int .i64 lw, .int .i64 ((fi : Int) + 1)] W fun e w' => e = .returned (.int .i64 y) ∧ w' = W) (hC : Calls Tryz.prog 15 #[.pointer (some ⟨tb, 0, none⟩), .int .i64 y] wq fun e w' => ∃ x, e = .returned (.int .i64 x) ∧ R w')
    (hQ : ∀ a' w', Fba a' v → R w' → K a' w') :
    Code.wp Tryz.prog c (Exit.then K fun _ _ _ => False) a wq := by
  have HQ := hide hQ
  clear hQ
  obtain ⟨v0, v1, v4, v5, v6, v8, v9, v10, v11, v12, v13, v14, v15, v16⟩ := v
  simp only at h1v h6v HQ
  subst h1v h6v
  obtain ⟨u, rfl⟩ := frx_ba hF
  clear hF
  simp only [Tryz.f5, Option.getD_some, regOf] at hc
  injection hc with hc
  subst hc
  have HA := hide hA
  have HB := hide hB
  have HC := hide hC
  clear hA hB hC
  have hw : IntKind.i64.wrap ((fi : Int) + 1) = (fi : Int) + 1 := by rw [IntKind.wrap_i64]; omega
  go_wp2_with fail
  refine HA.out.mono ?_
  rintro e w1 ⟨rfl, r1⟩
  obtain rfl := r1.symm
  go_wp2_with fail
  refine (HB.out _).mono ?_
  rintro e w2 ⟨rfl, r2⟩
  obtain rfl := r2.symm
  go_wp2_with fail
  refine HC.out.mono ?_
  rintro e w3 ⟨x, rfl, r3⟩
  have R3 := hide r3
  clear r3
  go_wp2_with fail
  exact HQ.out _ _ ⟨rfl, rfl, rfl, rfl, rfl, rfl, rfl, rfl, rfl, rfl, rfl, rfl, rfl, rfl, rfl, rfl⟩ R3.out
theorem ba_r10 {K : Act → World → Prop} {c : Code} (hc : regOf (Tryz.f5.body.getD .skip) 10 = some c) (a : Act) {v : Vba} {wq : World} {tb : Nat} {s : ByteArray} {R : World → Prop} (hF : Fba a v) (h6v : v.v6 = .pointer (some ⟨tb, 0, none⟩)) (hE : Calls Tryz.prog 19 #[.pointer (some ⟨tb, 0, none⟩)] wq fun e w' => e = .returned (.string s) ∧ R w')
    (hQ : ∀ a' w' , Fba a' { v with v9 := .string s } → R w' → K a' w') :
    Code.wp Tryz.prog c (Exit.then K fun _ _ _ => False) a wq := by
  have HQ := hide hQ
  clear hQ
  obtain ⟨v0, v1, v4, v5, v6, v8, v9, v10, v11, v12, v13, v14, v15, v16⟩ := v
  simp only at h6v HQ
  subst h6v
  obtain ⟨u, rfl⟩ := frx_ba hF
  clear hF
  simp only [Tryz.f5, Option.getD_some, regOf] at hc
  injection hc with hc
  subst hc
  have HE := hide hE
  clear hE
  go_wp2_with fail
  refine HE.out.mono ?_
  rintro e w1 ⟨rfl, r1⟩
  have R1 := hide r1
  clear r1 HE
  go_wp2
  exact HQ.out _ _ ⟨rfl, rfl, rfl, rfl, rfl, rfl, rfl, rfl, rfl, rfl, rfl, rfl, rfl, rfl, rfl, rfl⟩ R1.out
theorem ba_r11 {K : Act → World → Prop} {c : Code} (hc : regOf (Tryz.f5.body.getD .skip) 11 = some c) (a : Act) {v : Vba} {wq : World} {s : ByteArray} {R : LOC → World → Prop} (hF : Fba a v) (h9v : v.v9 = .string s) (hE : Calls Tryz.prog 20 #[.string s] wq fun e w' => ∃ L : LOC, e = .returned (.tuple #[.pointer (some ⟨L.b, 0, none⟩), .int .i64 0]) ∧ R L w')
    (hQ : ∀ a' w' (L : LOC), Fba a' { v with v10 := .pointer (some ⟨L.b, 0, none⟩), v11 := .int .i64 0 } → R L w' → K a' w') :
    Code.wp Tryz.prog c (Exit.then K fun _ _ _ => False) a wq := by
  have HQ := hide hQ
  clear hQ
  obtain ⟨v0, v1, v4, v5, v6, v8, v9, v10, v11, v12, v13, v14, v15, v16⟩ := v
  simp only at h9v HQ
  subst h9v
  obtain ⟨u, rfl⟩ := frx_ba hF
  clear hF
  simp only [Tryz.f5, Option.getD_some, regOf] at hc
  injection hc with hc
  subst hc
  have HE := hide hE
  clear hE
  go_wp2_with fail
  refine HE.out.mono ?_
  rintro e w1 ⟨L, rfl, r1⟩
  have R1 := hide r1
  clear r1 HE
  go_wp2
  exact HQ.out _ _ L ⟨rfl, rfl, rfl, rfl, rfl, rfl, rfl, rfl, rfl, rfl, rfl, rfl, rfl, rfl, rfl, rfl⟩ R1.out
theorem ba_r12 {K : Act → World → Prop} {c : Code} (hc : regOf (Tryz.f5.body.getD .skip) 12 = some c) (a : Act) {v : Vba} {wq : World} {ub : Nat} (hF : Fba a v) (h10v : v.v10 = .pointer (some ⟨ub, 0, none⟩)) (h11v : v.v11 = .int .i64 0) (hQ : ∀ a', Fba a' v → a'.tmps.getD 75 undef = .bool false → K a' wq) :
    Code.wp Tryz.prog c (Exit.then K fun _ _ _ => False) a wq := by
  have HQ := hide hQ
  clear hQ
  obtain ⟨v0, v1, v4, v5, v6, v8, v9, v10, v11, v12, v13, v14, v15, v16⟩ := v
  simp only at h10v h11v HQ
  subst h10v h11v
  obtain ⟨u, rfl⟩ := frx_ba hF
  clear hF
  simp only [Tryz.f5, Option.getD_some, regOf] at hc
  injection hc with hc
  subst hc
  go_wp2
  exact HQ.out _ ⟨rfl, rfl, rfl, rfl, rfl, rfl, rfl, rfl, rfl, rfl, rfl, rfl, rfl, rfl, rfl, rfl⟩ (by first | rfl | (simp; done) | (simp; assumption) | (simp; omega))
theorem ba_r14 {K : Act → World → Prop} {c : Code} (hc : regOf (Tryz.f5.body.getD .skip) 14 = some c) (a : Act) {v : Vba} {wq : World}  (hF : Fba a v) (hQ : ∀ a', Fba a' { v with v12 := .int .i64 ((0 : Nat) : Int) } → K a' wq) :
    Code.wp Tryz.prog c (Exit.then K fun _ _ _ => False) a wq := by
  have HQ := hide hQ
  clear hQ
  obtain ⟨v0, v1, v4, v5, v6, v8, v9, v10, v11, v12, v13, v14, v15, v16⟩ := v
  obtain ⟨u, rfl⟩ := frx_ba hF
  clear hF
  simp only [Tryz.f5, Option.getD_some, regOf] at hc
  injection hc with hc
  subst hc
  go_wp2
  exact HQ.out _ ⟨rfl, rfl, rfl, rfl, rfl, rfl, rfl, rfl, rfl, rfl, rfl, rfl, rfl, rfl, rfl, rfl⟩
theorem ba_r15 {K : Act → World → Prop} {c : Code} (hc : regOf (Tryz.f5.body.getD .skip) 15 = some c) (a : Act) {v : Vba} {wq : World} {ao : Option Addr} {n cap i : Nat} (hF : Fba a v) (h0v : v.v0 = .slice ao n cap) (h12v : v.v12 = .int .i64 (i : Int)) (hQ : ∀ a', Fba a' v → a'.tmps.getD 83 undef = .bool (decide (i < n) && decide (i < 60)) → K a' wq) :
    Code.wp Tryz.prog c (Exit.then K fun _ _ _ => False) a wq := by
  have HQ := hide hQ
  clear hQ
  obtain ⟨v0, v1, v4, v5, v6, v8, v9, v10, v11, v12, v13, v14, v15, v16⟩ := v
  simp only at h0v h12v HQ
  subst h0v h12v
  obtain ⟨u, rfl⟩ := frx_ba hF
  clear hF
  simp only [Tryz.f5, Option.getD_some, regOf] at hc
  injection hc with hc
  subst hc
  by_cases h1 : i < n
  · have g1 : (i : Int) < (n : Int) := by omega
    by_cases h2 : i < 60
    · rw [decide_eq_true h1, decide_eq_true h2] at HQ
      have g2 : (i : Int) < 60 := by omega
      go_wp2
      exact HQ.out _ ⟨rfl, rfl, rfl, rfl, rfl, rfl, rfl, rfl, rfl, rfl, rfl, rfl, rfl, rfl, rfl, rfl⟩ (by first | rfl | (simp; done) | (simp; omega))
    · rw [decide_eq_true h1, decide_eq_false h2] at HQ
      have g2 : ¬ (i : Int) < 60 := by omega
      go_wp2
      exact HQ.out _ ⟨rfl, rfl, rfl, rfl, rfl, rfl, rfl, rfl, rfl, rfl, rfl, rfl, rfl, rfl, rfl, rfl⟩ (by first | rfl | (simp; done) | (simp; omega))
  · rw [decide_eq_false h1] at HQ
    have g1 : ¬ (i : Int) < (n : Int) := by omega
    go_wp2
    exact HQ.out _ ⟨rfl, rfl, rfl, rfl, rfl, rfl, rfl, rfl, rfl, rfl, rfl, rfl, rfl, rfl, rfl, rfl⟩ (by first | rfl | (simp; done) | (simp; omega))
theorem ba_r17 {K : Act → World → Prop} {c : Code} (hc : regOf (Tryz.f5.body.getD .skip) 17 = some c) (a : Act) {v : Vba} {wq : World} {tb n cap kz b off : Nat} {d : DE} {px py : Int} {R : World → Prop} (hF : Fba a v) (h0v : v.v0 = .slice (some ⟨b, off, none⟩) n cap) (h12v : v.v12 = .int .i64 (kz : Int)) (h6v : v.v6 = .pointer (some ⟨tb, 0, none⟩)) (hi : kz < n) (hd : DEAt wq b (off + kz * 7) d) (hE : Calls Tryz.prog 10 #[.pointer (some ⟨tb, 0, none⟩), .string d.prod, .int .i64 d.seq, .string ⟨#[]⟩, .string ⟨#[]⟩] wq.drew fun e w' => e = .returned (.tuple #[.int .i64 px, .int .i64 py]) ∧ R w')
    (hQ : ∀ a' w', Fba a' { v with v13 := .int .i64 px, v14 := .int .i64 py } → R w' → K a' w') :
    Code.wp Tryz.prog c (Exit.then K fun _ _ _ => False) a wq := by
  have HQ := hide hQ
  clear hQ
  obtain ⟨v0, v1, v4, v5, v6, v8, v9, v10, v11, v12, v13, v14, v15, v16⟩ := v
  simp only at h0v h12v h6v HQ
  subst h0v h12v h6v
  obtain ⟨u, rfl⟩ := frx_ba hF
  clear hF
  simp only [Tryz.f5, Option.getD_some, regOf] at hc
  injection hc with hc
  subst hc
  have c1 : wq.drew.cell? ⟨b, off + kz * 7 + 1, none⟩ = _ := hd.c1
  have c2 : wq.drew.cell? ⟨b, off + kz * 7 + 2, none⟩ = _ := hd.c2
  clear hd
  have hi0 : (0 : Int) ≤ (kz : Int) := by omega
  have hi1 : (kz : Int) < (n : Int) := by omega
  refine wp_region_any rfl ?_
  refine wpAny_staged (ns := 136) (uses := (fun i => match i with | 0 => [87] | 1 => [88] | 2 => [89] | 3 => [90] | 4 => [91] | 5 => [92] | 6 => [93] | 7 => [94] | 8 => [95] | 9 => [96] | 10 => [97] | 11 => [98] | 12 => [86] | 13 => [99] | 14 => [100] | 15 => [13] | 16 => [14] | _ => [])) (by kernel_rfl) (by kernel_rfl) (fun l _ w => (l 11 = false → w = wq.drew) ∧ (l 11 = true → (R) w)) ⟨fun _ => rfl, fun e => (by cases e)⟩ (fun i => match i with | 0 => fun s => s 87 = .pointer (some ⟨tb, 0, none⟩) | 1 => fun s => s 88 = .slice (some ⟨b, off, none⟩) n cap | 2 => fun s => s 89 = .int .i64 (kz : Int) | 3 => fun s => s 90 = .pointer (some ⟨b, off + kz * 7, none⟩) | 4 => fun s => s 91 = .pointer (some ⟨b, off + kz * 7 + 1, none⟩) | 5 => fun s => s 92 = .string d.prod | 6 => fun s => s 93 = .slice (some ⟨b, off, none⟩) n cap | 7 => fun s => s 94 = .int .i64 (kz : Int) | 8 => fun s => s 95 = .pointer (some ⟨b, off + kz * 7, none⟩) | 9 => fun s => s 96 = .pointer (some ⟨b, off + kz * 7 + 2, none⟩) | 10 => fun s => s 97 = .int .i64 d.seq | 11 => fun s => s 98 = .tuple #[.int .i64 px, .int .i64 py] | 12 => fun s => s 86 = .tuple #[.int .i64 px, .int .i64 py] | 13 => fun s => s 99 = .int .i64 px | 14 => fun s => s 100 = .int .i64 py | 15 => fun s => s 13 = .int .i64 px | 16 => fun s => s 14 = .int .i64 py | _ => fun _ => True) ?phc ?pstep ?pdone
  case phc =>
    intro i s s' hx h
    iterate 17 (rcases i with _ | i; · exact (hx _ (List.mem_singleton.2 rfl)).symm.trans h)
    exact h
  case pstep =>
    intro i o ho a' w' l hl hr hq hsa hS hd
    match i, ho, hl, hr, hq with
    | 0, ho, hl, hr, hq =>
      obtain rfl := Option.some.inj ho
      try dsimp only at hd
      have g6 : a'.tmps.getD 6 undef = .pointer (some ⟨tb, 0, none⟩) := hsa.rest 6 (by rfl)
      refine wpOp_of rfl rfl ?_
      refine op_run (v := .pointer (some ⟨tb, 0, none⟩)) (w' := _) ?_ ⟨_, rfl, ?_, fun e => hS.1 ((updL_other l (by decide)).symm.trans e), fun e => hS.2 ((updL_other l (by decide)).symm.trans e)⟩
      · simp only [execOp, Act.eval, g6]; first | (go_simp; done) | rfl
      · try dsimp only
        exact (slots_put (ns := 136) (hsa.size.trans rfl) (by decide))
    | 1, ho, hl, hr, hq =>
      obtain rfl := Option.some.inj ho
      try dsimp only at hd
      have g0 : a'.tmps.getD 0 undef = .slice (some ⟨b, off, none⟩) n cap := hsa.rest 0 (by rfl)
      refine wpOp_of rfl rfl ?_
      refine op_run (v := .slice (some ⟨b, off, none⟩) n cap) (w' := _) ?_ ⟨_, rfl, ?_, fun e => hS.1 ((updL_other l (by decide)).symm.trans e), fun e => hS.2 ((updL_other l (by decide)).symm.trans e)⟩
      · simp only [execOp, Act.eval, g0]; first | (go_simp; done) | rfl
      · try dsimp only
        exact (slots_put (ns := 136) (hsa.size.trans rfl) (by decide))
    | 2, ho, hl, hr, hq =>
      obtain rfl := Option.some.inj ho
      try dsimp only at hd
      have g12 : a'.tmps.getD 12 undef = .int .i64 (kz : Int) := hsa.rest 12 (by rfl)
      refine wpOp_of rfl rfl ?_
      refine op_run (v := .int .i64 (kz : Int)) (w' := _) ?_ ⟨_, rfl, ?_, fun e => hS.1 ((updL_other l (by decide)).symm.trans e), fun e => hS.2 ((updL_other l (by decide)).symm.trans e)⟩
      · simp only [execOp, Act.eval, g12]; first | (go_simp; done) | rfl
      · try dsimp only
        exact (slots_put (ns := 136) (hsa.size.trans rfl) (by decide))
    | 3, ho, hl, hr, hq =>
      obtain rfl := Option.some.inj ho
      try dsimp only at hd
      have d1 : a'.tmps.getD 88 undef = .slice (some ⟨b, off, none⟩) n cap := hd 1 (by rfl)
      have d2 : a'.tmps.getD 89 undef = .int .i64 (kz : Int) := hd 2 (by rfl)
      refine wpOp_of rfl rfl ?_
      refine op_run (v := .pointer (some ⟨b, off + kz * 7, none⟩)) (w' := _) ?_ ⟨_, rfl, ?_, fun e => hS.1 ((updL_other l (by decide)).symm.trans e), fun e => hS.2 ((updL_other l (by decide)).symm.trans e)⟩
      · simp only [execOp, Act.eval, d1, d2]; first | (go_simp; done) | rfl
      · try dsimp only
        exact (slots_put (ns := 136) (hsa.size.trans rfl) (by decide))
    | 4, ho, hl, hr, hq =>
      obtain rfl := Option.some.inj ho
      try dsimp only at hd
      have d3 : a'.tmps.getD 90 undef = .pointer (some ⟨b, off + kz * 7, none⟩) := hd 3 (by rfl)
      refine wpOp_of rfl rfl ?_
      refine op_run (v := .pointer (some ⟨b, off + kz * 7 + 1, none⟩)) (w' := _) ?_ ⟨_, rfl, ?_, fun e => hS.1 ((updL_other l (by decide)).symm.trans e), fun e => hS.2 ((updL_other l (by decide)).symm.trans e)⟩
      · simp only [execOp, Act.eval, d3]; first | (go_simp; done) | rfl
      · try dsimp only
        exact (slots_put (ns := 136) (hsa.size.trans rfl) (by decide))
    | 5, ho, hl, hr, hq =>
      obtain rfl := Option.some.inj ho
      try dsimp only at hd
      have d4 : a'.tmps.getD 91 undef = .pointer (some ⟨b, off + kz * 7 + 1, none⟩) := hd 4 (by rfl)
      refine wpOp_of rfl rfl ?_
      obtain rfl := hS.1 (hq 11 (by kernel_rfl))
      refine op_run (v := .string d.prod) (w' := _) ?_ ⟨_, rfl, ?_, fun e => hS.1 ((updL_other l (by decide)).symm.trans e), fun e => hS.2 ((updL_other l (by decide)).symm.trans e)⟩
      · simp only [execOp, Act.eval, d4, c1]; first | (go_simp; done) | rfl
      · try dsimp only
        exact (slots_put (ns := 136) (hsa.size.trans rfl) (by decide))
    | 6, ho, hl, hr, hq =>
      obtain rfl := Option.some.inj ho
      try dsimp only at hd
      have g0 : a'.tmps.getD 0 undef = .slice (some ⟨b, off, none⟩) n cap := hsa.rest 0 (by rfl)
      refine wpOp_of rfl rfl ?_
      refine op_run (v := .slice (some ⟨b, off, none⟩) n cap) (w' := _) ?_ ⟨_, rfl, ?_, fun e => hS.1 ((updL_other l (by decide)).symm.trans e), fun e => hS.2 ((updL_other l (by decide)).symm.trans e)⟩
      · simp only [execOp, Act.eval, g0]; first | (go_simp; done) | rfl
      · try dsimp only
        exact (slots_put (ns := 136) (hsa.size.trans rfl) (by decide))
    | 7, ho, hl, hr, hq =>
      obtain rfl := Option.some.inj ho
      try dsimp only at hd
      have g12 : a'.tmps.getD 12 undef = .int .i64 (kz : Int) := hsa.rest 12 (by rfl)
      refine wpOp_of rfl rfl ?_
      refine op_run (v := .int .i64 (kz : Int)) (w' := _) ?_ ⟨_, rfl, ?_, fun e => hS.1 ((updL_other l (by decide)).symm.trans e), fun e => hS.2 ((updL_other l (by decide)).symm.trans e)⟩
      · simp only [execOp, Act.eval, g12]; first | (go_simp; done) | rfl
      · try dsimp only
        exact (slots_put (ns := 136) (hsa.size.trans rfl) (by decide))
    | 8, ho, hl, hr, hq =>
      obtain rfl := Option.some.inj ho
      try dsimp only at hd
      have d6 : a'.tmps.getD 93 undef = .slice (some ⟨b, off, none⟩) n cap := hd 6 (by rfl)
      have d7 : a'.tmps.getD 94 undef = .int .i64 (kz : Int) := hd 7 (by rfl)
      refine wpOp_of rfl rfl ?_
      refine op_run (v := .pointer (some ⟨b, off + kz * 7, none⟩)) (w' := _) ?_ ⟨_, rfl, ?_, fun e => hS.1 ((updL_other l (by decide)).symm.trans e), fun e => hS.2 ((updL_other l (by decide)).symm.trans e)⟩
      · simp only [execOp, Act.eval, d6, d7]; first | (go_simp; done) | rfl
      · try dsimp only
        exact (slots_put (ns := 136) (hsa.size.trans rfl) (by decide))
    | 9, ho, hl, hr, hq =>
      obtain rfl := Option.some.inj ho
      try dsimp only at hd
      have d8 : a'.tmps.getD 95 undef = .pointer (some ⟨b, off + kz * 7, none⟩) := hd 8 (by rfl)
      refine wpOp_of rfl rfl ?_
      refine op_run (v := .pointer (some ⟨b, off + kz * 7 + 2, none⟩)) (w' := _) ?_ ⟨_, rfl, ?_, fun e => hS.1 ((updL_other l (by decide)).symm.trans e), fun e => hS.2 ((updL_other l (by decide)).symm.trans e)⟩
      · simp only [execOp, Act.eval, d8]; first | (go_simp; done) | rfl
      · try dsimp only
        exact (slots_put (ns := 136) (hsa.size.trans rfl) (by decide))
    | 10, ho, hl, hr, hq =>
      obtain rfl := Option.some.inj ho
      try dsimp only at hd
      have d9 : a'.tmps.getD 96 undef = .pointer (some ⟨b, off + kz * 7 + 2, none⟩) := hd 9 (by rfl)
      refine wpOp_of rfl rfl ?_
      obtain rfl := hS.1 (hq 11 (by kernel_rfl))
      refine op_run (v := .int .i64 d.seq) (w' := _) ?_ ⟨_, rfl, ?_, fun e => hS.1 ((updL_other l (by decide)).symm.trans e), fun e => hS.2 ((updL_other l (by decide)).symm.trans e)⟩
      · simp only [execOp, Act.eval, d9, c2]; first | (go_simp; done) | rfl
      · try dsimp only
        exact (slots_put (ns := 136) (hsa.size.trans rfl) (by decide))
    | 11, ho, hl, hr, hq =>
      obtain rfl := Option.some.inj ho
      try dsimp only at hd
      have d0 : a'.tmps.getD 87 undef = .pointer (some ⟨tb, 0, none⟩) := hd 0 (by rfl)
      have d5 : a'.tmps.getD 92 undef = .string d.prod := hd 5 (by rfl)
      have d10 : a'.tmps.getD 97 undef = .int .i64 d.seq := hd 10 (by rfl)
      refine wpOp_of rfl rfl ?_
      obtain rfl := hS.1 hl
      refine op_call 10 _ _ rfl (enters_of Tryz.func10 (by kernel_rfl) rfl) [.pointer (some ⟨tb, 0, none⟩), .string d.prod, .int .i64 d.seq, .string ⟨#[]⟩, .string ⟨#[]⟩] (by simp only [List.map, Act.eval, d0, d5, d10]) (hE) ?_
      rintro e w'' ⟨rfl, r1⟩
      refine ⟨_, rfl, _, rfl, ?_, fun e => absurd e (by rw [updL_same]; decide), fun _ => r1⟩
      try dsimp only
      exact (slots_put (ns := 136) (hsa.size.trans rfl) (by decide))
    | 12, ho, hl, hr, hq =>
      obtain rfl := Option.some.inj ho
      try dsimp only at hd
      have d11 : a'.tmps.getD 98 undef = .tuple #[.int .i64 px, .int .i64 py] := hd 11 (by rfl)
      refine wpOp_of rfl rfl ?_
      refine op_run (v := .tuple #[.int .i64 px, .int .i64 py]) (w' := _) ?_ ⟨_, rfl, ?_, fun e => hS.1 ((updL_other l (by decide)).symm.trans e), fun e => hS.2 ((updL_other l (by decide)).symm.trans e)⟩
      · simp only [execOp, Act.eval, d11]; first | (go_simp; done) | rfl
      · try dsimp only
        exact (slots_put (ns := 136) (hsa.size.trans rfl) (by decide))
    | 13, ho, hl, hr, hq =>
      obtain rfl := Option.some.inj ho
      try dsimp only at hd
      have d12 : a'.tmps.getD 86 undef = .tuple #[.int .i64 px, .int .i64 py] := hd 12 (by rfl)
      refine wpOp_of rfl rfl ?_
      refine op_run (v := .int .i64 px) (w' := _) ?_ ⟨_, rfl, ?_, fun e => hS.1 ((updL_other l (by decide)).symm.trans e), fun e => hS.2 ((updL_other l (by decide)).symm.trans e)⟩
      · simp only [execOp, Act.eval, d12]; first | (go_simp; done) | rfl
      · try dsimp only
        exact (slots_put (ns := 136) (hsa.size.trans rfl) (by decide))
    | 14, ho, hl, hr, hq =>
      obtain rfl := Option.some.inj ho
      try dsimp only at hd
      have d12 : a'.tmps.getD 86 undef = .tuple #[.int .i64 px, .int .i64 py] := hd 12 (by rfl)
      refine wpOp_of rfl rfl ?_
      refine op_run (v := .int .i64 py) (w' := _) ?_ ⟨_, rfl, ?_, fun e => hS.1 ((updL_other l (by decide)).symm.trans e), fun e => hS.2 ((updL_other l (by decide)).symm.trans e)⟩
      · simp only [execOp, Act.eval, d12]; first | (go_simp; done) | rfl
      · try dsimp only
        exact (slots_put (ns := 136) (hsa.size.trans rfl) (by decide))
    | 15, ho, hl, hr, hq =>
      obtain rfl := Option.some.inj ho
      try dsimp only at hd
      have d13 : a'.tmps.getD 99 undef = .int .i64 px := hd 13 (by rfl)
      refine wpOp_of rfl rfl ?_
      refine op_run (v := .int .i64 px) (w' := _) ?_ ⟨_, rfl, ?_, fun e => hS.1 ((updL_other l (by decide)).symm.trans e), fun e => hS.2 ((updL_other l (by decide)).symm.trans e)⟩
      · simp only [execOp, Act.eval, d13]; first | (go_simp; done) | rfl
      · try dsimp only
        exact (slots_put (ns := 136) (hsa.size.trans rfl) (by decide))
    | 16, ho, hl, hr, hq =>
      obtain rfl := Option.some.inj ho
      try dsimp only at hd
      have d14 : a'.tmps.getD 100 undef = .int .i64 py := hd 14 (by rfl)
      refine wpOp_of rfl rfl ?_
      refine op_run (v := .int .i64 py) (w' := _) ?_ ⟨_, rfl, ?_, fun e => hS.1 ((updL_other l (by decide)).symm.trans e), fun e => hS.2 ((updL_other l (by decide)).symm.trans e)⟩
      · simp only [execOp, Act.eval, d14]; first | (go_simp; done) | rfl
      · try dsimp only
        exact (slots_put (ns := 136) (hsa.size.trans rfl) (by decide))
    | (n + 17), ho, _, _, _ => exact absurd ho (by simp)
  case pdone =>
    intro a' w' l hl hsa hS hd
    have hR := hS.2 (hl 11 (by decide))
    have d15 : a'.tmps.getD 13 undef = .int .i64 px := hd 15 (by decide)
    have d16 : a'.tmps.getD 14 undef = .int .i64 py := hd 16 (by decide)
    exact HQ.out a' w' ⟨hsa.size.trans rfl, hsa.defers.trans rfl, hsa.rest 0 (by rfl), hsa.rest 1 (by rfl), hsa.rest 4 (by rfl), hsa.rest 5 (by rfl), hsa.rest 6 (by rfl), hsa.rest 8 (by rfl), hsa.rest 9 (by rfl), hsa.rest 10 (by rfl), hsa.rest 11 (by rfl), hsa.rest 12 (by rfl), d15, d16, hsa.rest 15 (by rfl), hsa.rest 16 (by rfl)⟩ hR
theorem ba_r18 {K : Act → World → Prop} {c : Code} (hc : regOf (Tryz.f5.body.getD .skip) 18 = some c) (a : Act) {v : Vba} {wq : World} {tb n cap kz b off : Nat} {d : DE} {px py : Int} {R : World → Prop} (hF : Fba a v) (h0v : v.v0 = .slice (some ⟨b, off, none⟩) n cap) (h12v : v.v12 = .int .i64 (kz : Int)) (h10v : v.v10 = .pointer (some ⟨tb, 0, none⟩)) (hi : kz < n) (hd : DEAt wq b (off + kz * 7) d) (hE : Calls Tryz.prog 10 #[.pointer (some ⟨tb, 0, none⟩), .string d.prod, .int .i64 d.seq, .string ⟨#[]⟩, .string ⟨#[]⟩] wq.drew fun e w' => e = .returned (.tuple #[.int .i64 px, .int .i64 py]) ∧ R w')
    (hQ : ∀ a' w', Fba a' { v with v15 := .int .i64 px, v16 := .int .i64 py } → R w' → K a' w') :
    Code.wp Tryz.prog c (Exit.then K fun _ _ _ => False) a wq := by
  have HQ := hide hQ
  clear hQ
  obtain ⟨v0, v1, v4, v5, v6, v8, v9, v10, v11, v12, v13, v14, v15, v16⟩ := v
  simp only at h0v h12v h10v HQ
  subst h0v h12v h10v
  obtain ⟨u, rfl⟩ := frx_ba hF
  clear hF
  simp only [Tryz.f5, Option.getD_some, regOf] at hc
  injection hc with hc
  subst hc
  have c1 : wq.drew.cell? ⟨b, off + kz * 7 + 1, none⟩ = _ := hd.c1
  have c2 : wq.drew.cell? ⟨b, off + kz * 7 + 2, none⟩ = _ := hd.c2
  clear hd
  have hi0 : (0 : Int) ≤ (kz : Int) := by omega
  have hi1 : (kz : Int) < (n : Int) := by omega
  refine wp_region_any rfl ?_
  refine wpAny_staged (ns := 136) (uses := (fun i => match i with | 0 => [102] | 1 => [103] | 2 => [104] | 3 => [105] | 4 => [106] | 5 => [107] | 6 => [108] | 7 => [109] | 8 => [110] | 9 => [111] | 10 => [112] | 11 => [113] | 12 => [101] | 13 => [114] | 14 => [115] | 15 => [15] | 16 => [16] | _ => [])) (by kernel_rfl) (by kernel_rfl) (fun l _ w => (l 11 = false → w = wq.drew) ∧ (l 11 = true → (R) w)) ⟨fun _ => rfl, fun e => (by cases e)⟩ (fun i => match i with | 0 => fun s => s 102 = .pointer (some ⟨tb, 0, none⟩) | 1 => fun s => s 103 = .slice (some ⟨b, off, none⟩) n cap | 2 => fun s => s 104 = .int .i64 (kz : Int) | 3 => fun s => s 105 = .pointer (some ⟨b, off + kz * 7, none⟩) | 4 => fun s => s 106 = .pointer (some ⟨b, off + kz * 7 + 1, none⟩) | 5 => fun s => s 107 = .string d.prod | 6 => fun s => s 108 = .slice (some ⟨b, off, none⟩) n cap | 7 => fun s => s 109 = .int .i64 (kz : Int) | 8 => fun s => s 110 = .pointer (some ⟨b, off + kz * 7, none⟩) | 9 => fun s => s 111 = .pointer (some ⟨b, off + kz * 7 + 2, none⟩) | 10 => fun s => s 112 = .int .i64 d.seq | 11 => fun s => s 113 = .tuple #[.int .i64 px, .int .i64 py] | 12 => fun s => s 101 = .tuple #[.int .i64 px, .int .i64 py] | 13 => fun s => s 114 = .int .i64 px | 14 => fun s => s 115 = .int .i64 py | 15 => fun s => s 15 = .int .i64 px | 16 => fun s => s 16 = .int .i64 py | _ => fun _ => True) ?phc ?pstep ?pdone
  case phc =>
    intro i s s' hx h
    iterate 17 (rcases i with _ | i; · exact (hx _ (List.mem_singleton.2 rfl)).symm.trans h)
    exact h
  case pstep =>
    intro i o ho a' w' l hl hr hq hsa hS hd
    match i, ho, hl, hr, hq with
    | 0, ho, hl, hr, hq =>
      obtain rfl := Option.some.inj ho
      try dsimp only at hd
      have g10 : a'.tmps.getD 10 undef = .pointer (some ⟨tb, 0, none⟩) := hsa.rest 10 (by rfl)
      refine wpOp_of rfl rfl ?_
      refine op_run (v := .pointer (some ⟨tb, 0, none⟩)) (w' := _) ?_ ⟨_, rfl, ?_, fun e => hS.1 ((updL_other l (by decide)).symm.trans e), fun e => hS.2 ((updL_other l (by decide)).symm.trans e)⟩
      · simp only [execOp, Act.eval, g10]; first | (go_simp; done) | rfl
      · try dsimp only
        exact (slots_put (ns := 136) (hsa.size.trans rfl) (by decide))
    | 1, ho, hl, hr, hq =>
      obtain rfl := Option.some.inj ho
      try dsimp only at hd
      have g0 : a'.tmps.getD 0 undef = .slice (some ⟨b, off, none⟩) n cap := hsa.rest 0 (by rfl)
      refine wpOp_of rfl rfl ?_
      refine op_run (v := .slice (some ⟨b, off, none⟩) n cap) (w' := _) ?_ ⟨_, rfl, ?_, fun e => hS.1 ((updL_other l (by decide)).symm.trans e), fun e => hS.2 ((updL_other l (by decide)).symm.trans e)⟩
      · simp only [execOp, Act.eval, g0]; first | (go_simp; done) | rfl
      · try dsimp only
        exact (slots_put (ns := 136) (hsa.size.trans rfl) (by decide))
    | 2, ho, hl, hr, hq =>
      obtain rfl := Option.some.inj ho
      try dsimp only at hd
      have g12 : a'.tmps.getD 12 undef = .int .i64 (kz : Int) := hsa.rest 12 (by rfl)
      refine wpOp_of rfl rfl ?_
      refine op_run (v := .int .i64 (kz : Int)) (w' := _) ?_ ⟨_, rfl, ?_, fun e => hS.1 ((updL_other l (by decide)).symm.trans e), fun e => hS.2 ((updL_other l (by decide)).symm.trans e)⟩
      · simp only [execOp, Act.eval, g12]; first | (go_simp; done) | rfl
      · try dsimp only
        exact (slots_put (ns := 136) (hsa.size.trans rfl) (by decide))
    | 3, ho, hl, hr, hq =>
      obtain rfl := Option.some.inj ho
      try dsimp only at hd
      have d1 : a'.tmps.getD 103 undef = .slice (some ⟨b, off, none⟩) n cap := hd 1 (by rfl)
      have d2 : a'.tmps.getD 104 undef = .int .i64 (kz : Int) := hd 2 (by rfl)
      refine wpOp_of rfl rfl ?_
      refine op_run (v := .pointer (some ⟨b, off + kz * 7, none⟩)) (w' := _) ?_ ⟨_, rfl, ?_, fun e => hS.1 ((updL_other l (by decide)).symm.trans e), fun e => hS.2 ((updL_other l (by decide)).symm.trans e)⟩
      · simp only [execOp, Act.eval, d1, d2]; first | (go_simp; done) | rfl
      · try dsimp only
        exact (slots_put (ns := 136) (hsa.size.trans rfl) (by decide))
    | 4, ho, hl, hr, hq =>
      obtain rfl := Option.some.inj ho
      try dsimp only at hd
      have d3 : a'.tmps.getD 105 undef = .pointer (some ⟨b, off + kz * 7, none⟩) := hd 3 (by rfl)
      refine wpOp_of rfl rfl ?_
      refine op_run (v := .pointer (some ⟨b, off + kz * 7 + 1, none⟩)) (w' := _) ?_ ⟨_, rfl, ?_, fun e => hS.1 ((updL_other l (by decide)).symm.trans e), fun e => hS.2 ((updL_other l (by decide)).symm.trans e)⟩
      · simp only [execOp, Act.eval, d3]; first | (go_simp; done) | rfl
      · try dsimp only
        exact (slots_put (ns := 136) (hsa.size.trans rfl) (by decide))
    | 5, ho, hl, hr, hq =>
      obtain rfl := Option.some.inj ho
      try dsimp only at hd
      have d4 : a'.tmps.getD 106 undef = .pointer (some ⟨b, off + kz * 7 + 1, none⟩) := hd 4 (by rfl)
      refine wpOp_of rfl rfl ?_
      obtain rfl := hS.1 (hq 11 (by kernel_rfl))
      refine op_run (v := .string d.prod) (w' := _) ?_ ⟨_, rfl, ?_, fun e => hS.1 ((updL_other l (by decide)).symm.trans e), fun e => hS.2 ((updL_other l (by decide)).symm.trans e)⟩
      · simp only [execOp, Act.eval, d4, c1]; first | (go_simp; done) | rfl
      · try dsimp only
        exact (slots_put (ns := 136) (hsa.size.trans rfl) (by decide))
    | 6, ho, hl, hr, hq =>
      obtain rfl := Option.some.inj ho
      try dsimp only at hd
      have g0 : a'.tmps.getD 0 undef = .slice (some ⟨b, off, none⟩) n cap := hsa.rest 0 (by rfl)
      refine wpOp_of rfl rfl ?_
      refine op_run (v := .slice (some ⟨b, off, none⟩) n cap) (w' := _) ?_ ⟨_, rfl, ?_, fun e => hS.1 ((updL_other l (by decide)).symm.trans e), fun e => hS.2 ((updL_other l (by decide)).symm.trans e)⟩
      · simp only [execOp, Act.eval, g0]; first | (go_simp; done) | rfl
      · try dsimp only
        exact (slots_put (ns := 136) (hsa.size.trans rfl) (by decide))
    | 7, ho, hl, hr, hq =>
      obtain rfl := Option.some.inj ho
      try dsimp only at hd
      have g12 : a'.tmps.getD 12 undef = .int .i64 (kz : Int) := hsa.rest 12 (by rfl)
      refine wpOp_of rfl rfl ?_
      refine op_run (v := .int .i64 (kz : Int)) (w' := _) ?_ ⟨_, rfl, ?_, fun e => hS.1 ((updL_other l (by decide)).symm.trans e), fun e => hS.2 ((updL_other l (by decide)).symm.trans e)⟩
      · simp only [execOp, Act.eval, g12]; first | (go_simp; done) | rfl
      · try dsimp only
        exact (slots_put (ns := 136) (hsa.size.trans rfl) (by decide))
    | 8, ho, hl, hr, hq =>
      obtain rfl := Option.some.inj ho
      try dsimp only at hd
      have d6 : a'.tmps.getD 108 undef = .slice (some ⟨b, off, none⟩) n cap := hd 6 (by rfl)
      have d7 : a'.tmps.getD 109 undef = .int .i64 (kz : Int) := hd 7 (by rfl)
      refine wpOp_of rfl rfl ?_
      refine op_run (v := .pointer (some ⟨b, off + kz * 7, none⟩)) (w' := _) ?_ ⟨_, rfl, ?_, fun e => hS.1 ((updL_other l (by decide)).symm.trans e), fun e => hS.2 ((updL_other l (by decide)).symm.trans e)⟩
      · simp only [execOp, Act.eval, d6, d7]; first | (go_simp; done) | rfl
      · try dsimp only
        exact (slots_put (ns := 136) (hsa.size.trans rfl) (by decide))
    | 9, ho, hl, hr, hq =>
      obtain rfl := Option.some.inj ho
      try dsimp only at hd
      have d8 : a'.tmps.getD 110 undef = .pointer (some ⟨b, off + kz * 7, none⟩) := hd 8 (by rfl)
      refine wpOp_of rfl rfl ?_
      refine op_run (v := .pointer (some ⟨b, off + kz * 7 + 2, none⟩)) (w' := _) ?_ ⟨_, rfl, ?_, fun e => hS.1 ((updL_other l (by decide)).symm.trans e), fun e => hS.2 ((updL_other l (by decide)).symm.trans e)⟩
      · simp only [execOp, Act.eval, d8]; first | (go_simp; done) | rfl
      · try dsimp only
        exact (slots_put (ns := 136) (hsa.size.trans rfl) (by decide))
    | 10, ho, hl, hr, hq =>
      obtain rfl := Option.some.inj ho
      try dsimp only at hd
      have d9 : a'.tmps.getD 111 undef = .pointer (some ⟨b, off + kz * 7 + 2, none⟩) := hd 9 (by rfl)
      refine wpOp_of rfl rfl ?_
      obtain rfl := hS.1 (hq 11 (by kernel_rfl))
      refine op_run (v := .int .i64 d.seq) (w' := _) ?_ ⟨_, rfl, ?_, fun e => hS.1 ((updL_other l (by decide)).symm.trans e), fun e => hS.2 ((updL_other l (by decide)).symm.trans e)⟩
      · simp only [execOp, Act.eval, d9, c2]; first | (go_simp; done) | rfl
      · try dsimp only
        exact (slots_put (ns := 136) (hsa.size.trans rfl) (by decide))
    | 11, ho, hl, hr, hq =>
      obtain rfl := Option.some.inj ho
      try dsimp only at hd
      have d0 : a'.tmps.getD 102 undef = .pointer (some ⟨tb, 0, none⟩) := hd 0 (by rfl)
      have d5 : a'.tmps.getD 107 undef = .string d.prod := hd 5 (by rfl)
      have d10 : a'.tmps.getD 112 undef = .int .i64 d.seq := hd 10 (by rfl)
      refine wpOp_of rfl rfl ?_
      obtain rfl := hS.1 hl
      refine op_call 10 _ _ rfl (enters_of Tryz.func10 (by kernel_rfl) rfl) [.pointer (some ⟨tb, 0, none⟩), .string d.prod, .int .i64 d.seq, .string ⟨#[]⟩, .string ⟨#[]⟩] (by simp only [List.map, Act.eval, d0, d5, d10]) (hE) ?_
      rintro e w'' ⟨rfl, r1⟩
      refine ⟨_, rfl, _, rfl, ?_, fun e => absurd e (by rw [updL_same]; decide), fun _ => r1⟩
      try dsimp only
      exact (slots_put (ns := 136) (hsa.size.trans rfl) (by decide))
    | 12, ho, hl, hr, hq =>
      obtain rfl := Option.some.inj ho
      try dsimp only at hd
      have d11 : a'.tmps.getD 113 undef = .tuple #[.int .i64 px, .int .i64 py] := hd 11 (by rfl)
      refine wpOp_of rfl rfl ?_
      refine op_run (v := .tuple #[.int .i64 px, .int .i64 py]) (w' := _) ?_ ⟨_, rfl, ?_, fun e => hS.1 ((updL_other l (by decide)).symm.trans e), fun e => hS.2 ((updL_other l (by decide)).symm.trans e)⟩
      · simp only [execOp, Act.eval, d11]; first | (go_simp; done) | rfl
      · try dsimp only
        exact (slots_put (ns := 136) (hsa.size.trans rfl) (by decide))
    | 13, ho, hl, hr, hq =>
      obtain rfl := Option.some.inj ho
      try dsimp only at hd
      have d12 : a'.tmps.getD 101 undef = .tuple #[.int .i64 px, .int .i64 py] := hd 12 (by rfl)
      refine wpOp_of rfl rfl ?_
      refine op_run (v := .int .i64 px) (w' := _) ?_ ⟨_, rfl, ?_, fun e => hS.1 ((updL_other l (by decide)).symm.trans e), fun e => hS.2 ((updL_other l (by decide)).symm.trans e)⟩
      · simp only [execOp, Act.eval, d12]; first | (go_simp; done) | rfl
      · try dsimp only
        exact (slots_put (ns := 136) (hsa.size.trans rfl) (by decide))
    | 14, ho, hl, hr, hq =>
      obtain rfl := Option.some.inj ho
      try dsimp only at hd
      have d12 : a'.tmps.getD 101 undef = .tuple #[.int .i64 px, .int .i64 py] := hd 12 (by rfl)
      refine wpOp_of rfl rfl ?_
      refine op_run (v := .int .i64 py) (w' := _) ?_ ⟨_, rfl, ?_, fun e => hS.1 ((updL_other l (by decide)).symm.trans e), fun e => hS.2 ((updL_other l (by decide)).symm.trans e)⟩
      · simp only [execOp, Act.eval, d12]; first | (go_simp; done) | rfl
      · try dsimp only
        exact (slots_put (ns := 136) (hsa.size.trans rfl) (by decide))
    | 15, ho, hl, hr, hq =>
      obtain rfl := Option.some.inj ho
      try dsimp only at hd
      have d13 : a'.tmps.getD 114 undef = .int .i64 px := hd 13 (by rfl)
      refine wpOp_of rfl rfl ?_
      refine op_run (v := .int .i64 px) (w' := _) ?_ ⟨_, rfl, ?_, fun e => hS.1 ((updL_other l (by decide)).symm.trans e), fun e => hS.2 ((updL_other l (by decide)).symm.trans e)⟩
      · simp only [execOp, Act.eval, d13]; first | (go_simp; done) | rfl
      · try dsimp only
        exact (slots_put (ns := 136) (hsa.size.trans rfl) (by decide))
    | 16, ho, hl, hr, hq =>
      obtain rfl := Option.some.inj ho
      try dsimp only at hd
      have d14 : a'.tmps.getD 115 undef = .int .i64 py := hd 14 (by rfl)
      refine wpOp_of rfl rfl ?_
      refine op_run (v := .int .i64 py) (w' := _) ?_ ⟨_, rfl, ?_, fun e => hS.1 ((updL_other l (by decide)).symm.trans e), fun e => hS.2 ((updL_other l (by decide)).symm.trans e)⟩
      · simp only [execOp, Act.eval, d14]; first | (go_simp; done) | rfl
      · try dsimp only
        exact (slots_put (ns := 136) (hsa.size.trans rfl) (by decide))
    | (n + 17), ho, _, _, _ => exact absurd ho (by simp)
  case pdone =>
    intro a' w' l hl hsa hS hd
    have hR := hS.2 (hl 11 (by decide))
    have d15 : a'.tmps.getD 15 undef = .int .i64 px := hd 15 (by decide)
    have d16 : a'.tmps.getD 16 undef = .int .i64 py := hd 16 (by decide)
    exact HQ.out a' w' ⟨hsa.size.trans rfl, hsa.defers.trans rfl, hsa.rest 0 (by rfl), hsa.rest 1 (by rfl), hsa.rest 4 (by rfl), hsa.rest 5 (by rfl), hsa.rest 6 (by rfl), hsa.rest 8 (by rfl), hsa.rest 9 (by rfl), hsa.rest 10 (by rfl), hsa.rest 11 (by rfl), hsa.rest 12 (by rfl), hsa.rest 13 (by rfl), hsa.rest 14 (by rfl), d15, d16⟩ hR
theorem ba_r19 {K : Act → World → Prop} {c : Code} (hc : regOf (Tryz.f5.body.getD .skip) 19 = some c) (a : Act) {v : Vba} {wq : World} {px py : Int} (hF : Fba a v) (h13v : v.v13 = .int .i64 px) (h14v : v.v14 = .int .i64 py) (h15v : v.v15 = .int .i64 px) (h16v : v.v16 = .int .i64 py) (hQ : ∀ a', Fba a' v → a'.tmps.getD 123 undef = .bool false → K a' wq) :
    Code.wp Tryz.prog c (Exit.then K fun _ _ _ => False) a wq := by
  have HQ := hide hQ
  clear hQ
  obtain ⟨v0, v1, v4, v5, v6, v8, v9, v10, v11, v12, v13, v14, v15, v16⟩ := v
  simp only at h13v h14v h15v h16v HQ
  subst h13v h14v h15v h16v
  obtain ⟨u, rfl⟩ := frx_ba hF
  clear hF
  simp only [Tryz.f5, Option.getD_some, regOf] at hc
  injection hc with hc
  subst hc
  go_wp2
  exact HQ.out _ ⟨rfl, rfl, rfl, rfl, rfl, rfl, rfl, rfl, rfl, rfl, rfl, rfl, rfl, rfl, rfl, rfl⟩ (by first | rfl | (simp; done) | (simp; assumption) | (simp; omega))
theorem ba_r16 {K : Act → World → Prop} {c : Code} (hc : regOf (Tryz.f5.body.getD .skip) 16 = some c) (a : Act) {v : Vba} {wq : World} {i : Nat} (hF : Fba a v) (h12v : v.v12 = .int .i64 (i : Int)) (hk : i ≤ 1000000) (hQ : ∀ a', Fba a' { v with v12 := .int .i64 ((i + 1 : Nat) : Int) } → K a' wq) :
    Code.wp Tryz.prog c (Exit.then K fun _ _ _ => False) a wq := by
  have HQ := hide hQ
  clear hQ
  obtain ⟨v0, v1, v4, v5, v6, v8, v9, v10, v11, v12, v13, v14, v15, v16⟩ := v
  simp only at h12v HQ
  subst h12v
  obtain ⟨u, rfl⟩ := frx_ba hF
  clear hF
  simp only [Tryz.f5, Option.getD_some, regOf] at hc
  injection hc with hc
  subst hc
  have e1 : ((i + 1 : Nat) : Int) = (i : Int) + 1 := by omega
  rw [e1] at HQ
  go_wp2
  exact HQ.out _ ⟨rfl, rfl, rfl, rfl, rfl, rfl, rfl, rfl, rfl, rfl, rfl, rfl, rfl, rfl, rfl, rfl⟩
theorem ba_r21 {K : Act → World → Prop} {c : Code} (hc : regOf (Tryz.f5.body.getD .skip) 21 = some c) (a : Act) {v : Vba} {wq : World} {tb ub : Nat} {s D : ByteArray} (hF : Fba a v) (h5v : v.v5 = .bool true) (h6v : v.v6 = .pointer (some ⟨tb, 0, none⟩)) (h9v : v.v9 = .string s) (h10v : v.v10 = .pointer (some ⟨ub, 0, none⟩)) (hs : s.toList ≠ []) (hA : Calls Tryz.prog 19 #[.pointer (some ⟨ub, 0, none⟩)] wq fun e w' => e = .returned (.string D) ∧ Below wq.heap.size wq w') (hB : ∀ W, Below wq.heap.size wq W → Calls Tryz.prog 19 #[.pointer (some ⟨tb, 0, none⟩)] W fun e w' => e = .returned (.string D) ∧ Below W.heap.size W w')
    (hQ : ∀ a' w', Fba a' { v with v4 := .bool true } → Below wq.heap.size wq w' → K a' w') :
    Code.wp Tryz.prog c (Exit.then K fun _ _ _ => False) a wq := by
  have HQ := hide hQ
  clear hQ
  obtain ⟨v0, v1, v4, v5, v6, v8, v9, v10, v11, v12, v13, v14, v15, v16⟩ := v
  simp only at h5v h6v h9v h10v HQ
  subst h5v h6v h9v h10v
  obtain ⟨u, rfl⟩ := frx_ba hF
  clear hF
  simp only [Tryz.f5, Option.getD_some, regOf] at hc
  injection hc with hc
  subst hc
  have HA := hide hA
  have HB := hide hB
  clear hA hB
  go_wp2_with fail
  refine HA.out.mono ?_
  rintro e w1 ⟨rfl, b1⟩
  have B1 := hide b1
  clear b1
  go_wp2_with fail
  refine (HB.out _ B1.out).mono ?_
  rintro e w2 ⟨rfl, b2⟩
  have B2 := hide (B1.out.trans (b2.mono B1.out.size))
  clear b2
  go_wp2_with fail
  exact HQ.out _ _ ⟨(by first | rfl | (simp [hs]; done)), (by first | rfl | (simp [hs]; done)), (by first | rfl | (simp [hs]; done)), (by first | rfl | (simp [hs]; done)), (by first | rfl | (simp [hs]; done)), (by first | rfl | (simp [hs]; done)), (by first | rfl | (simp [hs]; done)), (by first | rfl | (simp [hs]; done)), (by first | rfl | (simp [hs]; done)), (by first | rfl | (simp [hs]; done)), (by first | rfl | (simp [hs]; done)), (by first | rfl | (simp [hs]; done)), (by first | rfl | (simp [hs]; done)), (by first | rfl | (simp [hs]; done)), (by first | rfl | (simp [hs]; done)), (by first | rfl | (simp [hs]; done))⟩ B2.out
end Go.Proofs.YtmkkcgkakomacaaGreat.Y
