/-
  SubsPlays' regions (mkpy.py).
-/
import Derived.Test.YtominplelmbecaaZPyR
namespace Go.Proofs.Ytominplelmbecaa.Y
open Go.RowKit

attribute [local go_sem ↓] Go.wp_at_zero Go.wp_at_succ
set_option linter.unusedSimpArgs false
set_option linter.unusedVariables false
set_option maxHeartbeats 8000000 in
set_option maxRecDepth 100000 in
theorem py_r37 {K : Act → World → Prop} {c : Code} (hc : regOf (Try.f3.body.getD .skip) 37 = some c) (a : Act) {v : Vpy} {wq : World} {sb : Nat} {xn xt yn yt : ByteArray} {xc xx yc yx cd : Int} {tb db : Nat} {m : Int} {R : Option Addr → Nat → Nat → World → Prop} (hF : Fpy a v) (h18v : v.v18 = .pointer (some ⟨sb, 0, none⟩)) (h14v : v.v14 = .pointer (some ⟨tb, 0, none⟩)) (h23v : v.v23 = .pointer (some ⟨db, 0, none⟩)) (hD : wq.cell? ⟨db, 1, none⟩ = some (.int .i64 m)) (hS : wq.heap[sb]? = some (.cells #[.string xn, .string xt, .int .i64 xc, .int .i64 xx] 23 (0, 0))) (hE : Calls Try.prog 16 #[.agg #[.string xn, .string xt, .int .i64 xc, .int .i64 xx], .pointer (some ⟨tb, 0, none⟩), .int .i64 m] wq fun e w' => ∃ ao ln cp, e = .returned (.tuple #[.agg #[.string yn, .string yt, .int .i64 yc, .int .i64 yx], .slice ao ln cp, .int .i64 cd]) ∧ Below wq.heap.size wq w' ∧ R ao ln cp w')
    (hQ : ∀ a' w1 ao ln cp, Fpy a' { v with v24 := .int .i64 cd, v26 := .slice ao ln cp } → Below wq.heap.size wq w1 → R ao ln cp w1 → K a' (set4 w1 sb (.string yn) (.string yt) (.int .i64 yc) (.int .i64 yx))) :
    Code.wp Try.prog c (Exit.then K fun _ _ _ => False) a wq := by
  have HQ := hide hQ
  clear hQ
  obtain ⟨t', d'⟩ := a
  obtain ⟨v0, v1, v2, v3, v4, v5, v9, v12, v13, v14, v16, v17, v18, v19, v20, v21, v22, v23, v24, v25, v26, v27, v28, v99⟩ := v
  simp only at h18v h14v h23v HQ
  subst h18v h14v h23v
  obtain ⟨hs1, hd1, q0, q1, q2, q3, q4, q5, q9, q12, q13, q14, q16, q17, q18, q19, q20, q21, q22, q23, q24, q25, q26, q27, q28, q99⟩ := hF
  obtain ⟨u, hu⟩ := frame_py t' hs1
  simp only at hd1 q0 q1 q2 q3 q4 q5 q9 q12 q13 q14 q16 q17 q18 q19 q20 q21 q22 q23 q24 q25 q26 q27 q28 q99
  subst hu hd1
  have e0 : u 0 = v0 := q0
  have e1 : u 1 = v1 := q1
  have e2 : u 2 = v2 := q2
  have e3 : u 3 = v3 := q3
  have e4 : u 4 = v4 := q4
  have e5 : u 5 = v5 := q5
  have e9 : u 9 = v9 := q9
  have e12 : u 12 = v12 := q12
  have e13 : u 13 = v13 := q13
  have e14 : u 14 = .pointer (some ⟨tb, 0, none⟩) := q14
  have e16 : u 16 = v16 := q16
  have e17 : u 17 = v17 := q17
  have e18 : u 18 = .pointer (some ⟨sb, 0, none⟩) := q18
  have e19 : u 19 = v19 := q19
  have e20 : u 20 = v20 := q20
  have e21 : u 21 = v21 := q21
  have e22 : u 22 = v22 := q22
  have e23 : u 23 = .pointer (some ⟨db, 0, none⟩) := q23
  have e24 : u 24 = v24 := q24
  have e25 : u 25 = v25 := q25
  have e26 : u 26 = v26 := q26
  have e27 : u 27 = v27 := q27
  have e28 : u 28 = v28 := q28
  have e99 : u 99 = v99 := q99
  rw [e0, e1, e2, e3, e4, e5, e9, e12, e13, e14, e16, e17, e18, e19, e20, e21, e22, e23, e24, e25, e26, e27, e28, e99]
  clear q0 e0 q1 e1 q2 e2 q3 e3 q4 e4 q5 e5 q9 e9 q12 e12 q13 e13 q14 e14 q16 e16 q17 e17 q18 e18 q19 e19 q20 e20 q21 e21 q22 e22 q23 e23 q24 e24 q25 e25 q26 e26 q27 e27 q28 e28 q99 e99 hs1
  simp only [Try.f3, Option.getD_some, regOf] at hc
  injection hc with hc
  subst hc
  have HE := hide hE
  have HS := hide hS
  obtain ⟨⟨c0, c1, c2, c3⟩, _⟩ := box4 hS
  unfold set4 at HQ
  clear hE hS
  go_wp2_with (go_at_call 16; refine HE.out.mono ?_; rintro e w1 ⟨ao, ln, cp, rfl, b1, r1⟩; have R1 := hide r1; clear r1; have hR2 := Below.at b1 HS.out; obtain ⟨⟨d0, d1, d2, d3⟩, f0, f1, f2, f3⟩ := box4 hR2; have B1 := hide b1; clear b1 hR2 c0 c1 c2 c3)
  exact HQ.out _ _ _ _ _ ⟨rfl, rfl, rfl, rfl, rfl, rfl, rfl, rfl, rfl, rfl, rfl, rfl, rfl, rfl, rfl, rfl, rfl, rfl, rfl, rfl, rfl, rfl, rfl, rfl, rfl, rfl⟩ B1.out R1.out
set_option maxHeartbeats 8000000 in
set_option maxRecDepth 100000 in
theorem py_r38 {K : Act → World → Prop} {c : Code} (hc : regOf (Try.f3.body.getD .skip) 38 = some c) (a : Act) {v : Vpy} {wq : World} {sb : Nat} {xn xt yn yt : ByteArray} {xc xx yc yx cd : Int} {tb db : Nat} {m : Int} {R : Option Addr → Nat → Nat → World → Prop} (hF : Fpy a v) (h20v : v.v20 = .pointer (some ⟨sb, 0, none⟩)) (h16v : v.v16 = .pointer (some ⟨tb, 0, none⟩)) (h23v : v.v23 = .pointer (some ⟨db, 0, none⟩)) (hD : wq.cell? ⟨db, 1, none⟩ = some (.int .i64 m)) (hS : wq.heap[sb]? = some (.cells #[.string xn, .string xt, .int .i64 xc, .int .i64 xx] 37 (0, 0))) (hE : Calls Try.prog 17 #[.agg #[.string xn, .string xt, .int .i64 xc, .int .i64 xx], .pointer (some ⟨tb, 0, none⟩), .int .i64 m] wq fun e w' => ∃ ao ln cp, e = .returned (.tuple #[.agg #[.string yn, .string yt, .int .i64 yc, .int .i64 yx], .slice ao ln cp, .int .i64 cd]) ∧ Below wq.heap.size wq w' ∧ R ao ln cp w')
    (hQ : ∀ a' w1 ao ln cp, Fpy a' { v with v25 := .int .i64 cd, v27 := .slice ao ln cp } → Below wq.heap.size wq w1 → R ao ln cp w1 → K a' (set4 w1 sb (.string yn) (.string yt) (.int .i64 yc) (.int .i64 yx))) :
    Code.wp Try.prog c (Exit.then K fun _ _ _ => False) a wq := by
  have HQ := hide hQ
  clear hQ
  obtain ⟨t', d'⟩ := a
  obtain ⟨v0, v1, v2, v3, v4, v5, v9, v12, v13, v14, v16, v17, v18, v19, v20, v21, v22, v23, v24, v25, v26, v27, v28, v99⟩ := v
  simp only at h20v h16v h23v HQ
  subst h20v h16v h23v
  obtain ⟨hs1, hd1, q0, q1, q2, q3, q4, q5, q9, q12, q13, q14, q16, q17, q18, q19, q20, q21, q22, q23, q24, q25, q26, q27, q28, q99⟩ := hF
  obtain ⟨u, hu⟩ := frame_py t' hs1
  simp only at hd1 q0 q1 q2 q3 q4 q5 q9 q12 q13 q14 q16 q17 q18 q19 q20 q21 q22 q23 q24 q25 q26 q27 q28 q99
  subst hu hd1
  have e0 : u 0 = v0 := q0
  have e1 : u 1 = v1 := q1
  have e2 : u 2 = v2 := q2
  have e3 : u 3 = v3 := q3
  have e4 : u 4 = v4 := q4
  have e5 : u 5 = v5 := q5
  have e9 : u 9 = v9 := q9
  have e12 : u 12 = v12 := q12
  have e13 : u 13 = v13 := q13
  have e14 : u 14 = v14 := q14
  have e16 : u 16 = .pointer (some ⟨tb, 0, none⟩) := q16
  have e17 : u 17 = v17 := q17
  have e18 : u 18 = v18 := q18
  have e19 : u 19 = v19 := q19
  have e20 : u 20 = .pointer (some ⟨sb, 0, none⟩) := q20
  have e21 : u 21 = v21 := q21
  have e22 : u 22 = v22 := q22
  have e23 : u 23 = .pointer (some ⟨db, 0, none⟩) := q23
  have e24 : u 24 = v24 := q24
  have e25 : u 25 = v25 := q25
  have e26 : u 26 = v26 := q26
  have e27 : u 27 = v27 := q27
  have e28 : u 28 = v28 := q28
  have e99 : u 99 = v99 := q99
  rw [e0, e1, e2, e3, e4, e5, e9, e12, e13, e14, e16, e17, e18, e19, e20, e21, e22, e23, e24, e25, e26, e27, e28, e99]
  clear q0 e0 q1 e1 q2 e2 q3 e3 q4 e4 q5 e5 q9 e9 q12 e12 q13 e13 q14 e14 q16 e16 q17 e17 q18 e18 q19 e19 q20 e20 q21 e21 q22 e22 q23 e23 q24 e24 q25 e25 q26 e26 q27 e27 q28 e28 q99 e99 hs1
  simp only [Try.f3, Option.getD_some, regOf] at hc
  injection hc with hc
  subst hc
  have HE := hide hE
  have HS := hide hS
  obtain ⟨⟨c0, c1, c2, c3⟩, _⟩ := box4 hS
  unfold set4 at HQ
  clear hE hS
  go_wp2_with (go_at_call 17; refine HE.out.mono ?_; rintro e w1 ⟨ao, ln, cp, rfl, b1, r1⟩; have R1 := hide r1; clear r1; have hR2 := Below.at b1 HS.out; obtain ⟨⟨d0, d1, d2, d3⟩, f0, f1, f2, f3⟩ := box4 hR2; have B1 := hide b1; clear b1 hR2 c0 c1 c2 c3)
  exact HQ.out _ _ _ _ _ ⟨rfl, rfl, rfl, rfl, rfl, rfl, rfl, rfl, rfl, rfl, rfl, rfl, rfl, rfl, rfl, rfl, rfl, rfl, rfl, rfl, rfl, rfl, rfl, rfl, rfl, rfl⟩ B1.out R1.out
set_option maxHeartbeats 8000000 in
set_option maxRecDepth 100000 in
theorem py_r40 {K : Act → World → Prop} {c : Code} (hc : regOf (Try.f3.body.getD .skip) 40 = some c) (a : Act) {v : Vpy} {wq : World} {sb : Nat} {xn xt yn yt : ByteArray} {xc xx yc yx cd : Int} {db : Nat} {m : Int} (hF : Fpy a v) (h18v : v.v18 = .pointer (some ⟨sb, 0, none⟩)) (h23v : v.v23 = .pointer (some ⟨db, 0, none⟩)) (hD : wq.cell? ⟨db, 1, none⟩ = some (.int .i64 m)) (hS : wq.heap[sb]? = some (.cells #[.string xn, .string xt, .int .i64 xc, .int .i64 xx] 23 (0, 0))) (hE : Calls Try.prog 18 #[.agg #[.string xn, .string xt, .int .i64 xc, .int .i64 xx], .int .i64 m] wq fun e w' => e = .returned (.tuple #[.agg #[.string yn, .string yt, .int .i64 yc, .int .i64 yx], .int .i64 cd]) ∧ Below wq.heap.size wq w')
    (hQ : ∀ a' w1, Fpy a' { v with v24 := .int .i64 cd } → Below wq.heap.size wq w1 → K a' (set4 w1 sb (.string yn) (.string yt) (.int .i64 yc) (.int .i64 yx))) :
    Code.wp Try.prog c (Exit.then K fun _ _ _ => False) a wq := by
  have HQ := hide hQ
  clear hQ
  obtain ⟨t', d'⟩ := a
  obtain ⟨v0, v1, v2, v3, v4, v5, v9, v12, v13, v14, v16, v17, v18, v19, v20, v21, v22, v23, v24, v25, v26, v27, v28, v99⟩ := v
  simp only at h18v h23v HQ
  subst h18v h23v
  obtain ⟨hs1, hd1, q0, q1, q2, q3, q4, q5, q9, q12, q13, q14, q16, q17, q18, q19, q20, q21, q22, q23, q24, q25, q26, q27, q28, q99⟩ := hF
  obtain ⟨u, hu⟩ := frame_py t' hs1
  simp only at hd1 q0 q1 q2 q3 q4 q5 q9 q12 q13 q14 q16 q17 q18 q19 q20 q21 q22 q23 q24 q25 q26 q27 q28 q99
  subst hu hd1
  have e0 : u 0 = v0 := q0
  have e1 : u 1 = v1 := q1
  have e2 : u 2 = v2 := q2
  have e3 : u 3 = v3 := q3
  have e4 : u 4 = v4 := q4
  have e5 : u 5 = v5 := q5
  have e9 : u 9 = v9 := q9
  have e12 : u 12 = v12 := q12
  have e13 : u 13 = v13 := q13
  have e14 : u 14 = v14 := q14
  have e16 : u 16 = v16 := q16
  have e17 : u 17 = v17 := q17
  have e18 : u 18 = .pointer (some ⟨sb, 0, none⟩) := q18
  have e19 : u 19 = v19 := q19
  have e20 : u 20 = v20 := q20
  have e21 : u 21 = v21 := q21
  have e22 : u 22 = v22 := q22
  have e23 : u 23 = .pointer (some ⟨db, 0, none⟩) := q23
  have e24 : u 24 = v24 := q24
  have e25 : u 25 = v25 := q25
  have e26 : u 26 = v26 := q26
  have e27 : u 27 = v27 := q27
  have e28 : u 28 = v28 := q28
  have e99 : u 99 = v99 := q99
  rw [e0, e1, e2, e3, e4, e5, e9, e12, e13, e14, e16, e17, e18, e19, e20, e21, e22, e23, e24, e25, e26, e27, e28, e99]
  clear q0 e0 q1 e1 q2 e2 q3 e3 q4 e4 q5 e5 q9 e9 q12 e12 q13 e13 q14 e14 q16 e16 q17 e17 q18 e18 q19 e19 q20 e20 q21 e21 q22 e22 q23 e23 q24 e24 q25 e25 q26 e26 q27 e27 q28 e28 q99 e99 hs1
  simp only [Try.f3, Option.getD_some, regOf] at hc
  injection hc with hc
  subst hc
  have HE := hide hE
  have HS := hide hS
  obtain ⟨⟨c0, c1, c2, c3⟩, _⟩ := box4 hS
  unfold set4 at HQ
  clear hE hS
  go_wp2_with (go_at_call 18; refine HE.out.mono ?_; rintro e w1 ⟨rfl, b1⟩; have hR2 := Below.at b1 HS.out; obtain ⟨⟨d0, d1, d2, d3⟩, f0, f1, f2, f3⟩ := box4 hR2; have B1 := hide b1; clear b1 hR2 c0 c1 c2 c3)
  exact HQ.out _ _ ⟨rfl, rfl, rfl, rfl, rfl, rfl, rfl, rfl, rfl, rfl, rfl, rfl, rfl, rfl, rfl, rfl, rfl, rfl, rfl, rfl, rfl, rfl, rfl, rfl, rfl, rfl⟩ B1.out
set_option maxHeartbeats 8000000 in
set_option maxRecDepth 100000 in
theorem py_r41 {K : Act → World → Prop} {c : Code} (hc : regOf (Try.f3.body.getD .skip) 41 = some c) (a : Act) {v : Vpy} {wq : World} {sb : Nat} {xn xt yn yt : ByteArray} {xc xx yc yx cd : Int} {db : Nat} {m : Int} (hF : Fpy a v) (h20v : v.v20 = .pointer (some ⟨sb, 0, none⟩)) (h23v : v.v23 = .pointer (some ⟨db, 0, none⟩)) (hD : wq.cell? ⟨db, 1, none⟩ = some (.int .i64 m)) (hS : wq.heap[sb]? = some (.cells #[.string xn, .string xt, .int .i64 xc, .int .i64 xx] 37 (0, 0))) (hE : Calls Try.prog 19 #[.agg #[.string xn, .string xt, .int .i64 xc, .int .i64 xx], .int .i64 m] wq fun e w' => e = .returned (.tuple #[.agg #[.string yn, .string yt, .int .i64 yc, .int .i64 yx], .int .i64 cd]) ∧ Below wq.heap.size wq w')
    (hQ : ∀ a' w1, Fpy a' { v with v25 := .int .i64 cd } → Below wq.heap.size wq w1 → K a' (set4 w1 sb (.string yn) (.string yt) (.int .i64 yc) (.int .i64 yx))) :
    Code.wp Try.prog c (Exit.then K fun _ _ _ => False) a wq := by
  have HQ := hide hQ
  clear hQ
  obtain ⟨t', d'⟩ := a
  obtain ⟨v0, v1, v2, v3, v4, v5, v9, v12, v13, v14, v16, v17, v18, v19, v20, v21, v22, v23, v24, v25, v26, v27, v28, v99⟩ := v
  simp only at h20v h23v HQ
  subst h20v h23v
  obtain ⟨hs1, hd1, q0, q1, q2, q3, q4, q5, q9, q12, q13, q14, q16, q17, q18, q19, q20, q21, q22, q23, q24, q25, q26, q27, q28, q99⟩ := hF
  obtain ⟨u, hu⟩ := frame_py t' hs1
  simp only at hd1 q0 q1 q2 q3 q4 q5 q9 q12 q13 q14 q16 q17 q18 q19 q20 q21 q22 q23 q24 q25 q26 q27 q28 q99
  subst hu hd1
  have e0 : u 0 = v0 := q0
  have e1 : u 1 = v1 := q1
  have e2 : u 2 = v2 := q2
  have e3 : u 3 = v3 := q3
  have e4 : u 4 = v4 := q4
  have e5 : u 5 = v5 := q5
  have e9 : u 9 = v9 := q9
  have e12 : u 12 = v12 := q12
  have e13 : u 13 = v13 := q13
  have e14 : u 14 = v14 := q14
  have e16 : u 16 = v16 := q16
  have e17 : u 17 = v17 := q17
  have e18 : u 18 = v18 := q18
  have e19 : u 19 = v19 := q19
  have e20 : u 20 = .pointer (some ⟨sb, 0, none⟩) := q20
  have e21 : u 21 = v21 := q21
  have e22 : u 22 = v22 := q22
  have e23 : u 23 = .pointer (some ⟨db, 0, none⟩) := q23
  have e24 : u 24 = v24 := q24
  have e25 : u 25 = v25 := q25
  have e26 : u 26 = v26 := q26
  have e27 : u 27 = v27 := q27
  have e28 : u 28 = v28 := q28
  have e99 : u 99 = v99 := q99
  rw [e0, e1, e2, e3, e4, e5, e9, e12, e13, e14, e16, e17, e18, e19, e20, e21, e22, e23, e24, e25, e26, e27, e28, e99]
  clear q0 e0 q1 e1 q2 e2 q3 e3 q4 e4 q5 e5 q9 e9 q12 e12 q13 e13 q14 e14 q16 e16 q17 e17 q18 e18 q19 e19 q20 e20 q21 e21 q22 e22 q23 e23 q24 e24 q25 e25 q26 e26 q27 e27 q28 e28 q99 e99 hs1
  simp only [Try.f3, Option.getD_some, regOf] at hc
  injection hc with hc
  subst hc
  have HE := hide hE
  have HS := hide hS
  obtain ⟨⟨c0, c1, c2, c3⟩, _⟩ := box4 hS
  unfold set4 at HQ
  clear hE hS
  go_wp2_with (go_at_call 19; refine HE.out.mono ?_; rintro e w1 ⟨rfl, b1⟩; have hR2 := Below.at b1 HS.out; obtain ⟨⟨d0, d1, d2, d3⟩, f0, f1, f2, f3⟩ := box4 hR2; have B1 := hide b1; clear b1 hR2 c0 c1 c2 c3)
  exact HQ.out _ _ ⟨rfl, rfl, rfl, rfl, rfl, rfl, rfl, rfl, rfl, rfl, rfl, rfl, rfl, rfl, rfl, rfl, rfl, rfl, rfl, rfl, rfl, rfl, rfl, rfl, rfl, rfl⟩ B1.out
set_option maxHeartbeats 8000000 in
set_option maxRecDepth 100000 in
theorem py_r43 {K : Act → World → Prop} {c : Code} (hc : regOf (Try.f3.body.getD .skip) 43 = some c) (a : Act) {v : Vpy} {wq : World} {sb : Nat} {xn xt yn yt : ByteArray} {xc xx yc yx cd : Int} {tb db : Nat} {m : Int} (hF : Fpy a v) (h18v : v.v18 = .pointer (some ⟨sb, 0, none⟩)) (h14v : v.v14 = .pointer (some ⟨tb, 0, none⟩)) (h23v : v.v23 = .pointer (some ⟨db, 0, none⟩)) (hD : wq.cell? ⟨db, 1, none⟩ = some (.int .i64 m)) (hS : wq.heap[sb]? = some (.cells #[.string xn, .string xt, .int .i64 xc, .int .i64 xx] 23 (0, 0))) (hE : Calls Try.prog 20 #[.agg #[.string xn, .string xt, .int .i64 xc, .int .i64 xx], .pointer (some ⟨tb, 0, none⟩), .int .i64 m] wq fun e w' => e = .returned (.tuple #[.agg #[.string yn, .string yt, .int .i64 yc, .int .i64 yx], .int .i64 cd]) ∧ Below wq.heap.size wq w')
    (hQ : ∀ a' w1, Fpy a' { v with v24 := .int .i64 cd } → Below wq.heap.size wq w1 → K a' (set4 w1 sb (.string yn) (.string yt) (.int .i64 yc) (.int .i64 yx))) :
    Code.wp Try.prog c (Exit.then K fun _ _ _ => False) a wq := by
  have HQ := hide hQ
  clear hQ
  obtain ⟨t', d'⟩ := a
  obtain ⟨v0, v1, v2, v3, v4, v5, v9, v12, v13, v14, v16, v17, v18, v19, v20, v21, v22, v23, v24, v25, v26, v27, v28, v99⟩ := v
  simp only at h18v h14v h23v HQ
  subst h18v h14v h23v
  obtain ⟨hs1, hd1, q0, q1, q2, q3, q4, q5, q9, q12, q13, q14, q16, q17, q18, q19, q20, q21, q22, q23, q24, q25, q26, q27, q28, q99⟩ := hF
  obtain ⟨u, hu⟩ := frame_py t' hs1
  simp only at hd1 q0 q1 q2 q3 q4 q5 q9 q12 q13 q14 q16 q17 q18 q19 q20 q21 q22 q23 q24 q25 q26 q27 q28 q99
  subst hu hd1
  have e0 : u 0 = v0 := q0
  have e1 : u 1 = v1 := q1
  have e2 : u 2 = v2 := q2
  have e3 : u 3 = v3 := q3
  have e4 : u 4 = v4 := q4
  have e5 : u 5 = v5 := q5
  have e9 : u 9 = v9 := q9
  have e12 : u 12 = v12 := q12
  have e13 : u 13 = v13 := q13
  have e14 : u 14 = .pointer (some ⟨tb, 0, none⟩) := q14
  have e16 : u 16 = v16 := q16
  have e17 : u 17 = v17 := q17
  have e18 : u 18 = .pointer (some ⟨sb, 0, none⟩) := q18
  have e19 : u 19 = v19 := q19
  have e20 : u 20 = v20 := q20
  have e21 : u 21 = v21 := q21
  have e22 : u 22 = v22 := q22
  have e23 : u 23 = .pointer (some ⟨db, 0, none⟩) := q23
  have e24 : u 24 = v24 := q24
  have e25 : u 25 = v25 := q25
  have e26 : u 26 = v26 := q26
  have e27 : u 27 = v27 := q27
  have e28 : u 28 = v28 := q28
  have e99 : u 99 = v99 := q99
  rw [e0, e1, e2, e3, e4, e5, e9, e12, e13, e14, e16, e17, e18, e19, e20, e21, e22, e23, e24, e25, e26, e27, e28, e99]
  clear q0 e0 q1 e1 q2 e2 q3 e3 q4 e4 q5 e5 q9 e9 q12 e12 q13 e13 q14 e14 q16 e16 q17 e17 q18 e18 q19 e19 q20 e20 q21 e21 q22 e22 q23 e23 q24 e24 q25 e25 q26 e26 q27 e27 q28 e28 q99 e99 hs1
  simp only [Try.f3, Option.getD_some, regOf] at hc
  injection hc with hc
  subst hc
  have HE := hide hE
  have HS := hide hS
  obtain ⟨⟨c0, c1, c2, c3⟩, _⟩ := box4 hS
  unfold set4 at HQ
  clear hE hS
  go_wp2_with (go_at_call 20; refine HE.out.mono ?_; rintro e w1 ⟨rfl, b1⟩; have hR2 := Below.at b1 HS.out; obtain ⟨⟨d0, d1, d2, d3⟩, f0, f1, f2, f3⟩ := box4 hR2; have B1 := hide b1; clear b1 hR2 c0 c1 c2 c3)
  exact HQ.out _ _ ⟨rfl, rfl, rfl, rfl, rfl, rfl, rfl, rfl, rfl, rfl, rfl, rfl, rfl, rfl, rfl, rfl, rfl, rfl, rfl, rfl, rfl, rfl, rfl, rfl, rfl, rfl⟩ B1.out
set_option maxHeartbeats 8000000 in
set_option maxRecDepth 100000 in
theorem py_r44 {K : Act → World → Prop} {c : Code} (hc : regOf (Try.f3.body.getD .skip) 44 = some c) (a : Act) {v : Vpy} {wq : World} {sb : Nat} {xn xt yn yt : ByteArray} {xc xx yc yx cd : Int} {tb db : Nat} {m : Int} (hF : Fpy a v) (h20v : v.v20 = .pointer (some ⟨sb, 0, none⟩)) (h16v : v.v16 = .pointer (some ⟨tb, 0, none⟩)) (h23v : v.v23 = .pointer (some ⟨db, 0, none⟩)) (hD : wq.cell? ⟨db, 1, none⟩ = some (.int .i64 m)) (hS : wq.heap[sb]? = some (.cells #[.string xn, .string xt, .int .i64 xc, .int .i64 xx] 37 (0, 0))) (hE : Calls Try.prog 21 #[.agg #[.string xn, .string xt, .int .i64 xc, .int .i64 xx], .pointer (some ⟨tb, 0, none⟩), .int .i64 m] wq fun e w' => e = .returned (.tuple #[.agg #[.string yn, .string yt, .int .i64 yc, .int .i64 yx], .int .i64 cd]) ∧ Below wq.heap.size wq w')
    (hQ : ∀ a' w1, Fpy a' { v with v25 := .int .i64 cd } → Below wq.heap.size wq w1 → K a' (set4 w1 sb (.string yn) (.string yt) (.int .i64 yc) (.int .i64 yx))) :
    Code.wp Try.prog c (Exit.then K fun _ _ _ => False) a wq := by
  have HQ := hide hQ
  clear hQ
  obtain ⟨t', d'⟩ := a
  obtain ⟨v0, v1, v2, v3, v4, v5, v9, v12, v13, v14, v16, v17, v18, v19, v20, v21, v22, v23, v24, v25, v26, v27, v28, v99⟩ := v
  simp only at h20v h16v h23v HQ
  subst h20v h16v h23v
  obtain ⟨hs1, hd1, q0, q1, q2, q3, q4, q5, q9, q12, q13, q14, q16, q17, q18, q19, q20, q21, q22, q23, q24, q25, q26, q27, q28, q99⟩ := hF
  obtain ⟨u, hu⟩ := frame_py t' hs1
  simp only at hd1 q0 q1 q2 q3 q4 q5 q9 q12 q13 q14 q16 q17 q18 q19 q20 q21 q22 q23 q24 q25 q26 q27 q28 q99
  subst hu hd1
  have e0 : u 0 = v0 := q0
  have e1 : u 1 = v1 := q1
  have e2 : u 2 = v2 := q2
  have e3 : u 3 = v3 := q3
  have e4 : u 4 = v4 := q4
  have e5 : u 5 = v5 := q5
  have e9 : u 9 = v9 := q9
  have e12 : u 12 = v12 := q12
  have e13 : u 13 = v13 := q13
  have e14 : u 14 = v14 := q14
  have e16 : u 16 = .pointer (some ⟨tb, 0, none⟩) := q16
  have e17 : u 17 = v17 := q17
  have e18 : u 18 = v18 := q18
  have e19 : u 19 = v19 := q19
  have e20 : u 20 = .pointer (some ⟨sb, 0, none⟩) := q20
  have e21 : u 21 = v21 := q21
  have e22 : u 22 = v22 := q22
  have e23 : u 23 = .pointer (some ⟨db, 0, none⟩) := q23
  have e24 : u 24 = v24 := q24
  have e25 : u 25 = v25 := q25
  have e26 : u 26 = v26 := q26
  have e27 : u 27 = v27 := q27
  have e28 : u 28 = v28 := q28
  have e99 : u 99 = v99 := q99
  rw [e0, e1, e2, e3, e4, e5, e9, e12, e13, e14, e16, e17, e18, e19, e20, e21, e22, e23, e24, e25, e26, e27, e28, e99]
  clear q0 e0 q1 e1 q2 e2 q3 e3 q4 e4 q5 e5 q9 e9 q12 e12 q13 e13 q14 e14 q16 e16 q17 e17 q18 e18 q19 e19 q20 e20 q21 e21 q22 e22 q23 e23 q24 e24 q25 e25 q26 e26 q27 e27 q28 e28 q99 e99 hs1
  simp only [Try.f3, Option.getD_some, regOf] at hc
  injection hc with hc
  subst hc
  have HE := hide hE
  have HS := hide hS
  obtain ⟨⟨c0, c1, c2, c3⟩, _⟩ := box4 hS
  unfold set4 at HQ
  clear hE hS
  go_wp2_with (go_at_call 21; refine HE.out.mono ?_; rintro e w1 ⟨rfl, b1⟩; have hR2 := Below.at b1 HS.out; obtain ⟨⟨d0, d1, d2, d3⟩, f0, f1, f2, f3⟩ := box4 hR2; have B1 := hide b1; clear b1 hR2 c0 c1 c2 c3)
  exact HQ.out _ _ ⟨rfl, rfl, rfl, rfl, rfl, rfl, rfl, rfl, rfl, rfl, rfl, rfl, rfl, rfl, rfl, rfl, rfl, rfl, rfl, rfl, rfl, rfl, rfl, rfl, rfl, rfl⟩ B1.out
set_option maxHeartbeats 8000000 in
set_option maxRecDepth 100000 in
theorem py_r27 {K : Act → World → Prop} {c : Code} (hc : regOf (Try.f3.body.getD .skip) 27 = some c) (a : Act) {v : Vpy} {wq : World} {tb db : Nat} {m cd : Int} {R : World → Prop} (hF : Fpy a v) (h14v : v.v14 = .pointer (some ⟨tb, 0, none⟩)) (h23v : v.v23 = .pointer (some ⟨db, 0, none⟩)) (hD : wq.cell? ⟨db, 1, none⟩ = some (.int .i64 m)) (hE : Calls Try.prog 22 #[.pointer (some ⟨tb, 0, none⟩), .int .i64 m] wq fun e w' => e = .returned (.int .i64 cd) ∧ R w')
    (hQ : ∀ a' w', Fpy a' { v with v24 := .int .i64 cd } → R w' → K a' w') :
    Code.wp Try.prog c (Exit.then K fun _ _ _ => False) a wq := by
  have HQ := hide hQ
  clear hQ
  obtain ⟨t', d'⟩ := a
  obtain ⟨v0, v1, v2, v3, v4, v5, v9, v12, v13, v14, v16, v17, v18, v19, v20, v21, v22, v23, v24, v25, v26, v27, v28, v99⟩ := v
  simp only at h14v h23v HQ
  subst h14v h23v
  obtain ⟨hs1, hd1, q0, q1, q2, q3, q4, q5, q9, q12, q13, q14, q16, q17, q18, q19, q20, q21, q22, q23, q24, q25, q26, q27, q28, q99⟩ := hF
  obtain ⟨u, hu⟩ := frame_py t' hs1
  simp only at hd1 q0 q1 q2 q3 q4 q5 q9 q12 q13 q14 q16 q17 q18 q19 q20 q21 q22 q23 q24 q25 q26 q27 q28 q99
  subst hu hd1
  have e0 : u 0 = v0 := q0
  have e1 : u 1 = v1 := q1
  have e2 : u 2 = v2 := q2
  have e3 : u 3 = v3 := q3
  have e4 : u 4 = v4 := q4
  have e5 : u 5 = v5 := q5
  have e9 : u 9 = v9 := q9
  have e12 : u 12 = v12 := q12
  have e13 : u 13 = v13 := q13
  have e14 : u 14 = .pointer (some ⟨tb, 0, none⟩) := q14
  have e16 : u 16 = v16 := q16
  have e17 : u 17 = v17 := q17
  have e18 : u 18 = v18 := q18
  have e19 : u 19 = v19 := q19
  have e20 : u 20 = v20 := q20
  have e21 : u 21 = v21 := q21
  have e22 : u 22 = v22 := q22
  have e23 : u 23 = .pointer (some ⟨db, 0, none⟩) := q23
  have e24 : u 24 = v24 := q24
  have e25 : u 25 = v25 := q25
  have e26 : u 26 = v26 := q26
  have e27 : u 27 = v27 := q27
  have e28 : u 28 = v28 := q28
  have e99 : u 99 = v99 := q99
  rw [e0, e1, e2, e3, e4, e5, e9, e12, e13, e14, e16, e17, e18, e19, e20, e21, e22, e23, e24, e25, e26, e27, e28, e99]
  clear q0 e0 q1 e1 q2 e2 q3 e3 q4 e4 q5 e5 q9 e9 q12 e12 q13 e13 q14 e14 q16 e16 q17 e17 q18 e18 q19 e19 q20 e20 q21 e21 q22 e22 q23 e23 q24 e24 q25 e25 q26 e26 q27 e27 q28 e28 q99 e99 hs1
  simp only [Try.f3, Option.getD_some, regOf] at hc
  injection hc with hc
  subst hc
  have HE := hide hE
  clear hE
  go_wp2_with (go_at_call 22; refine HE.out.mono ?_; rintro e w1 ⟨rfl, r1⟩; have R1 := hide r1; clear r1)
  exact HQ.out _ _ ⟨rfl, rfl, rfl, rfl, rfl, rfl, rfl, rfl, rfl, rfl, rfl, rfl, rfl, rfl, rfl, rfl, rfl, rfl, rfl, rfl, rfl, rfl, rfl, rfl, rfl, rfl⟩ R1.out
set_option maxHeartbeats 8000000 in
set_option maxRecDepth 100000 in
theorem py_r28 {K : Act → World → Prop} {c : Code} (hc : regOf (Try.f3.body.getD .skip) 28 = some c) (a : Act) {v : Vpy} {wq : World} {tb db : Nat} {m cd : Int} {R : World → Prop} (hF : Fpy a v) (h16v : v.v16 = .pointer (some ⟨tb, 0, none⟩)) (h23v : v.v23 = .pointer (some ⟨db, 0, none⟩)) (hD : wq.cell? ⟨db, 1, none⟩ = some (.int .i64 m)) (hE : Calls Try.prog 23 #[.pointer (some ⟨tb, 0, none⟩), .int .i64 m] wq fun e w' => e = .returned (.int .i64 cd) ∧ R w')
    (hQ : ∀ a' w', Fpy a' { v with v25 := .int .i64 cd } → R w' → K a' w') :
    Code.wp Try.prog c (Exit.then K fun _ _ _ => False) a wq := by
  have HQ := hide hQ
  clear hQ
  obtain ⟨t', d'⟩ := a
  obtain ⟨v0, v1, v2, v3, v4, v5, v9, v12, v13, v14, v16, v17, v18, v19, v20, v21, v22, v23, v24, v25, v26, v27, v28, v99⟩ := v
  simp only at h16v h23v HQ
  subst h16v h23v
  obtain ⟨hs1, hd1, q0, q1, q2, q3, q4, q5, q9, q12, q13, q14, q16, q17, q18, q19, q20, q21, q22, q23, q24, q25, q26, q27, q28, q99⟩ := hF
  obtain ⟨u, hu⟩ := frame_py t' hs1
  simp only at hd1 q0 q1 q2 q3 q4 q5 q9 q12 q13 q14 q16 q17 q18 q19 q20 q21 q22 q23 q24 q25 q26 q27 q28 q99
  subst hu hd1
  have e0 : u 0 = v0 := q0
  have e1 : u 1 = v1 := q1
  have e2 : u 2 = v2 := q2
  have e3 : u 3 = v3 := q3
  have e4 : u 4 = v4 := q4
  have e5 : u 5 = v5 := q5
  have e9 : u 9 = v9 := q9
  have e12 : u 12 = v12 := q12
  have e13 : u 13 = v13 := q13
  have e14 : u 14 = v14 := q14
  have e16 : u 16 = .pointer (some ⟨tb, 0, none⟩) := q16
  have e17 : u 17 = v17 := q17
  have e18 : u 18 = v18 := q18
  have e19 : u 19 = v19 := q19
  have e20 : u 20 = v20 := q20
  have e21 : u 21 = v21 := q21
  have e22 : u 22 = v22 := q22
  have e23 : u 23 = .pointer (some ⟨db, 0, none⟩) := q23
  have e24 : u 24 = v24 := q24
  have e25 : u 25 = v25 := q25
  have e26 : u 26 = v26 := q26
  have e27 : u 27 = v27 := q27
  have e28 : u 28 = v28 := q28
  have e99 : u 99 = v99 := q99
  rw [e0, e1, e2, e3, e4, e5, e9, e12, e13, e14, e16, e17, e18, e19, e20, e21, e22, e23, e24, e25, e26, e27, e28, e99]
  clear q0 e0 q1 e1 q2 e2 q3 e3 q4 e4 q5 e5 q9 e9 q12 e12 q13 e13 q14 e14 q16 e16 q17 e17 q18 e18 q19 e19 q20 e20 q21 e21 q22 e22 q23 e23 q24 e24 q25 e25 q26 e26 q27 e27 q28 e28 q99 e99 hs1
  simp only [Try.f3, Option.getD_some, regOf] at hc
  injection hc with hc
  subst hc
  have HE := hide hE
  clear hE
  go_wp2_with (go_at_call 23; refine HE.out.mono ?_; rintro e w1 ⟨rfl, r1⟩; have R1 := hide r1; clear r1)
  exact HQ.out _ _ ⟨rfl, rfl, rfl, rfl, rfl, rfl, rfl, rfl, rfl, rfl, rfl, rfl, rfl, rfl, rfl, rfl, rfl, rfl, rfl, rfl, rfl, rfl, rfl, rfl, rfl, rfl⟩ R1.out
set_option maxHeartbeats 8000000 in
set_option maxRecDepth 100000 in
theorem py_r45 {K : Act → World → Prop} {c : Code} (hc : regOf (Try.f3.body.getD .skip) 45 = some c) (a : Act) {v : Vpy} {wq : World} {o1 o2 : Option Addr} {l1 l2 c1 c2 : Nat} (hF : Fpy a v) (h26v : v.v26 = .slice o1 l1 c1) (h27v : v.v27 = .slice o2 l2 c2) (hE : Calls Try.prog 24 #[.slice o1 l1 c1, .slice o2 l2 c2] wq fun e w' => e = .returned (.bool true) ∧ Below wq.heap.size wq w')
    (hQ : ∀ a' w' , Fpy a' { v with v28 := .bool true } → Below wq.heap.size wq w' → K a' w') :
    Code.wp Try.prog c (Exit.then K fun _ _ _ => False) a wq := by
  have HQ := hide hQ
  clear hQ
  obtain ⟨t', d'⟩ := a
  obtain ⟨v0, v1, v2, v3, v4, v5, v9, v12, v13, v14, v16, v17, v18, v19, v20, v21, v22, v23, v24, v25, v26, v27, v28, v99⟩ := v
  simp only at h26v h27v HQ
  subst h26v h27v
  obtain ⟨hs1, hd1, q0, q1, q2, q3, q4, q5, q9, q12, q13, q14, q16, q17, q18, q19, q20, q21, q22, q23, q24, q25, q26, q27, q28, q99⟩ := hF
  obtain ⟨u, hu⟩ := frame_py t' hs1
  simp only at hd1 q0 q1 q2 q3 q4 q5 q9 q12 q13 q14 q16 q17 q18 q19 q20 q21 q22 q23 q24 q25 q26 q27 q28 q99
  subst hu hd1
  have e0 : u 0 = v0 := q0
  have e1 : u 1 = v1 := q1
  have e2 : u 2 = v2 := q2
  have e3 : u 3 = v3 := q3
  have e4 : u 4 = v4 := q4
  have e5 : u 5 = v5 := q5
  have e9 : u 9 = v9 := q9
  have e12 : u 12 = v12 := q12
  have e13 : u 13 = v13 := q13
  have e14 : u 14 = v14 := q14
  have e16 : u 16 = v16 := q16
  have e17 : u 17 = v17 := q17
  have e18 : u 18 = v18 := q18
  have e19 : u 19 = v19 := q19
  have e20 : u 20 = v20 := q20
  have e21 : u 21 = v21 := q21
  have e22 : u 22 = v22 := q22
  have e23 : u 23 = v23 := q23
  have e24 : u 24 = v24 := q24
  have e25 : u 25 = v25 := q25
  have e26 : u 26 = .slice o1 l1 c1 := q26
  have e27 : u 27 = .slice o2 l2 c2 := q27
  have e28 : u 28 = v28 := q28
  have e99 : u 99 = v99 := q99
  rw [e0, e1, e2, e3, e4, e5, e9, e12, e13, e14, e16, e17, e18, e19, e20, e21, e22, e23, e24, e25, e26, e27, e28, e99]
  clear q0 e0 q1 e1 q2 e2 q3 e3 q4 e4 q5 e5 q9 e9 q12 e12 q13 e13 q14 e14 q16 e16 q17 e17 q18 e18 q19 e19 q20 e20 q21 e21 q22 e22 q23 e23 q24 e24 q25 e25 q26 e26 q27 e27 q28 e28 q99 e99 hs1
  simp only [Try.f3, Option.getD_some, regOf] at hc
  injection hc with hc
  subst hc
  have HE := hide hE
  clear hE
  go_wp2_with (go_at_call 24; refine HE.out.mono ?_; rintro e w1 ⟨rfl, r1⟩; have R1 := hide r1; clear r1)
  exact HQ.out _ _ ⟨rfl, rfl, rfl, rfl, rfl, rfl, rfl, rfl, rfl, rfl, rfl, rfl, rfl, rfl, rfl, rfl, rfl, rfl, rfl, rfl, rfl, rfl, rfl, rfl, rfl, rfl⟩ R1.out
set_option maxHeartbeats 8000000 in
set_option maxRecDepth 100000 in
theorem py_r46 {K : Act → World → Prop} {c : Code} (hc : regOf (Try.f3.body.getD .skip) 46 = some c) (a : Act) {v : Vpy} {wq : World} {sb zb : Nat} {cd : Int} {rr : Bool} {xn xt : ByteArray} {xc xx : Int} (hF : Fpy a v) (h18v : v.v18 = .pointer (some ⟨sb, 0, none⟩)) (h20v : v.v20 = .pointer (some ⟨zb, 0, none⟩)) (h24v : v.v24 = .int .i64 cd) (h25v : v.v25 = .int .i64 cd) (h28v : v.v28 = .bool true) (hS : wq.heap[sb]? = some (.cells #[.string xn, .string xt, .int .i64 xc, .int .i64 xx] 23 (0, 0))) (hZ : wq.heap[zb]? = some (.cells #[.string xn, .string xt, .int .i64 xc, .int .i64 xx] 37 (0, 0))) (hE : ∀ W, Calls Try.prog 13 #[.agg #[.string xn, .string xt, .int .i64 xc, .int .i64 xx], .agg #[.string xn, .string xt, .int .i64 xc, .int .i64 xx]] W fun e w' => e = .returned (.bool true) ∧ Below W.heap.size W w') (hR1 : ∀ W, Calls Try.prog 25 #[.agg #[.string xn, .string xt, .int .i64 xc, .int .i64 xx]] W fun e w' => e = .returned (.bool rr) ∧ Below W.heap.size W w') (hR2 : ∀ W, Calls Try.prog 26 #[.agg #[.string xn, .string xt, .int .i64 xc, .int .i64 xx]] W fun e w' => e = .returned (.bool rr) ∧ Below W.heap.size W w')
    (hQ : ∀ a' w', Fpy a' v → a'.tmps.getD 200 undef = .bool false → Below wq.heap.size wq w' → K a' w') :
    Code.wp Try.prog c (Exit.then K fun _ _ _ => False) a wq := by
  have HQ := hide hQ
  clear hQ
  obtain ⟨t', d'⟩ := a
  obtain ⟨v0, v1, v2, v3, v4, v5, v9, v12, v13, v14, v16, v17, v18, v19, v20, v21, v22, v23, v24, v25, v26, v27, v28, v99⟩ := v
  simp only at h18v h20v h24v h25v h28v HQ
  subst h18v h20v h24v h25v h28v
  obtain ⟨hs1, hd1, q0, q1, q2, q3, q4, q5, q9, q12, q13, q14, q16, q17, q18, q19, q20, q21, q22, q23, q24, q25, q26, q27, q28, q99⟩ := hF
  obtain ⟨u, hu⟩ := frame_py t' hs1
  simp only at hd1 q0 q1 q2 q3 q4 q5 q9 q12 q13 q14 q16 q17 q18 q19 q20 q21 q22 q23 q24 q25 q26 q27 q28 q99
  subst hu hd1
  have e0 : u 0 = v0 := q0
  have e1 : u 1 = v1 := q1
  have e2 : u 2 = v2 := q2
  have e3 : u 3 = v3 := q3
  have e4 : u 4 = v4 := q4
  have e5 : u 5 = v5 := q5
  have e9 : u 9 = v9 := q9
  have e12 : u 12 = v12 := q12
  have e13 : u 13 = v13 := q13
  have e14 : u 14 = v14 := q14
  have e16 : u 16 = v16 := q16
  have e17 : u 17 = v17 := q17
  have e18 : u 18 = .pointer (some ⟨sb, 0, none⟩) := q18
  have e19 : u 19 = v19 := q19
  have e20 : u 20 = .pointer (some ⟨zb, 0, none⟩) := q20
  have e21 : u 21 = v21 := q21
  have e22 : u 22 = v22 := q22
  have e23 : u 23 = v23 := q23
  have e24 : u 24 = .int .i64 cd := q24
  have e25 : u 25 = .int .i64 cd := q25
  have e26 : u 26 = v26 := q26
  have e27 : u 27 = v27 := q27
  have e28 : u 28 = .bool true := q28
  have e99 : u 99 = v99 := q99
  rw [e0, e1, e2, e3, e4, e5, e9, e12, e13, e14, e16, e17, e18, e19, e20, e21, e22, e23, e24, e25, e26, e27, e28, e99]
  clear q0 e0 q1 e1 q2 e2 q3 e3 q4 e4 q5 e5 q9 e9 q12 e12 q13 e13 q14 e14 q16 e16 q17 e17 q18 e18 q19 e19 q20 e20 q21 e21 q22 e22 q23 e23 q24 e24 q25 e25 q26 e26 q27 e27 q28 e28 q99 e99 hs1
  simp only [Try.f3, Option.getD_some, regOf] at hc
  injection hc with hc
  subst hc
  have HE := hide hE
  have HS := hide hS
  have HZZ := hide hZ
  have HR1 := hide hR1
  have HR2 := hide hR2
  clear hE hS hZ hR1 hR2
  refine wp_region_phi (by kernel_rfl) (ns := 202) (uses := (fun i => match i with | 0 => [181] | 1 => [182] | 2 => [183] | 3 => [184] | 4 => [185] | 5 => [186] | 6 => [187] | 7 => [188] | 8 => [189] | 9 => [190] | 10 => [191] | 11 => [192] | 12 => [193] | 13 => [194] | 14 => [195] | 15 => [196] | 16 => [197] | 17 => [198] | 18 => [199] | 19 => [200] | _ => [])) (by kernel_rfl) (by kernel_rfl) (fun _ w w' => Below w.heap.size w w') (fun w => Below wq.heap.size wq w) (fun _ _ _ h r => h.trans (r.mono h.size)) ((Below.refl _ _).drew) (fun i => match i with | 0 => fun s w => s 181 = .int .i64 cd | 1 => fun s w => s 182 = .int .i64 cd | 2 => fun s w => s 183 = .bool false | 3 => fun s w => s 184 = .bool false | 4 => fun s w => s 185 = .bool true | 5 => fun s w => s 186 = .bool false | 6 => fun s w => s 187 = .bool false | 7 => fun s w => s 188 = .bool false | 8 => fun s w => s 189 = .agg #[.string xn, .string xt, .int .i64 xc, .int .i64 xx] | 9 => fun s w => s 190 = .agg #[.string xn, .string xt, .int .i64 xc, .int .i64 xx] | 10 => fun s w => s 191 = .bool true | 11 => fun s w => s 192 = .bool false | 12 => fun s w => s 193 = .bool false | 13 => fun s w => s 194 = .bool false | 14 => fun s w => s 195 = .agg #[.string xn, .string xt, .int .i64 xc, .int .i64 xx] | 15 => fun s w => s 196 = .bool rr | 16 => fun s w => s 197 = .agg #[.string xn, .string xt, .int .i64 xc, .int .i64 xx] | 17 => fun s w => s 198 = .bool rr | 18 => fun s w => s 199 = .bool false | 19 => fun s w => s 200 = .bool false | _ => fun _ _ => True) ?phc ?phh ?pstep ?pdone
  case phc =>
    intro i s s' w hx h
    match i, hx, h with
    | 0, hx, h => exact (hx 181 (by simp)).symm.trans h
    | 1, hx, h => exact (hx 182 (by simp)).symm.trans h
    | 2, hx, h => exact (hx 183 (by simp)).symm.trans h
    | 3, hx, h => exact (hx 184 (by simp)).symm.trans h
    | 4, hx, h => exact (hx 185 (by simp)).symm.trans h
    | 5, hx, h => exact (hx 186 (by simp)).symm.trans h
    | 6, hx, h => exact (hx 187 (by simp)).symm.trans h
    | 7, hx, h => exact (hx 188 (by simp)).symm.trans h
    | 8, hx, h => exact (hx 189 (by simp)).symm.trans h
    | 9, hx, h => exact (hx 190 (by simp)).symm.trans h
    | 10, hx, h => exact (hx 191 (by simp)).symm.trans h
    | 11, hx, h => exact (hx 192 (by simp)).symm.trans h
    | 12, hx, h => exact (hx 193 (by simp)).symm.trans h
    | 13, hx, h => exact (hx 194 (by simp)).symm.trans h
    | 14, hx, h => exact (hx 195 (by simp)).symm.trans h
    | 15, hx, h => exact (hx 196 (by simp)).symm.trans h
    | 16, hx, h => exact (hx 197 (by simp)).symm.trans h
    | 17, hx, h => exact (hx 198 (by simp)).symm.trans h
    | 18, hx, h => exact (hx 199 (by simp)).symm.trans h
    | 19, hx, h => exact (hx 200 (by simp)).symm.trans h
    | (n + 20), _, h => exact h
  case phh =>
    intro i j s w w' hij h hb r
    match i, hij, h with
    | 0, hij, h =>
      exact h
    | 1, hij, h =>
      exact h
    | 2, hij, h =>
      exact h
    | 3, hij, h =>
      exact h
    | 4, hij, h =>
      exact h
    | 5, hij, h =>
      exact h
    | 6, hij, h =>
      exact h
    | 7, hij, h =>
      exact h
    | 8, hij, h =>
      exact h
    | 9, hij, h =>
      exact h
    | 10, hij, h =>
      exact h
    | 11, hij, h =>
      exact h
    | 12, hij, h =>
      exact h
    | 13, hij, h =>
      exact h
    | 14, hij, h =>
      exact h
    | 15, hij, h =>
      exact h
    | 16, hij, h =>
      exact h
    | 17, hij, h =>
      exact h
    | 18, hij, h =>
      exact h
    | 19, hij, h =>
      exact h
    | (n + 20), _, h => exact h
  case pstep =>
    intro i o ho a' w' hsa hb hd
    match i, ho with
    | 0, ho =>
      obtain rfl := Option.some.inj ho
      try dsimp only at hd
      have g24 : a'.tmps.getD 24 undef = .int .i64 cd := hsa.rest 24 (by rfl)
      refine wpOp_of rfl rfl ?_
      refine op_run (v := .int .i64 cd) (w' := w') ?_ ⟨_, rfl, ?_, ?_⟩
      · simp only [execOp, Act.eval, g24]; first | (go_simp; done) | rfl
      · try dsimp only
        exact (slots_put (ns := 202) (hsa.size.trans rfl) (by decide))
      · exact Below.refl _ _
    | 1, ho =>
      obtain rfl := Option.some.inj ho
      try dsimp only at hd
      have g25 : a'.tmps.getD 25 undef = .int .i64 cd := hsa.rest 25 (by rfl)
      refine wpOp_of rfl rfl ?_
      refine op_run (v := .int .i64 cd) (w' := w') ?_ ⟨_, rfl, ?_, ?_⟩
      · simp only [execOp, Act.eval, g25]; first | (go_simp; done) | rfl
      · try dsimp only
        exact (slots_put (ns := 202) (hsa.size.trans rfl) (by decide))
      · exact Below.refl _ _
    | 2, ho =>
      obtain rfl := Option.some.inj ho
      try dsimp only at hd
      have d0 : a'.tmps.getD 181 undef = .int .i64 cd := hd 0 (by rfl)
      have d1 : a'.tmps.getD 182 undef = .int .i64 cd := hd 1 (by rfl)
      refine wpOp_of rfl rfl ?_
      refine op_run (v := .bool false) (w' := w') ?_ ⟨_, rfl, ?_, ?_⟩
      · simp only [execOp, Act.eval, d0, d1]; first | (go_simp; done) | rfl
      · try dsimp only
        exact (slots_put (ns := 202) (hsa.size.trans rfl) (by decide))
      · exact Below.refl _ _
    | 3, ho =>
      obtain rfl := Option.some.inj ho
      try dsimp only at hd
      have d2 : a'.tmps.getD 183 undef = .bool false := hd 2 (by rfl)
      refine wpOp_of rfl rfl ?_
      refine op_run (v := .bool false) (w' := w') ?_ ⟨_, rfl, ?_, ?_⟩
      · simp only [execOp, Act.eval, d2]; first | (go_simp; done) | rfl
      · try dsimp only
        exact (slots_put (ns := 202) (hsa.size.trans rfl) (by decide))
      · exact Below.refl _ _
    | 4, ho =>
      obtain rfl := Option.some.inj ho
      try dsimp only at hd
      have d3 : a'.tmps.getD 184 undef = .bool false := hd 3 (by rfl)
      have g28 : a'.tmps.getD 28 undef = .bool true := hsa.rest 28 (by rfl)
      refine wpOp_on (j := 3) (dj := 184) rfl rfl rfl d3 ?_
      refine op_run (v := .bool true) (w' := w') ?_ ⟨_, rfl, ?_, ?_⟩
      · simp only [execOp, Act.eval, d3, g28]; first | (go_simp; done) | rfl
      · try dsimp only
        exact (slots_put (ns := 202) (hsa.size.trans rfl) (by decide))
      · exact Below.refl _ _
    | 5, ho =>
      obtain rfl := Option.some.inj ho
      try dsimp only at hd
      have d3 : a'.tmps.getD 184 undef = .bool false := hd 3 (by rfl)
      have d4 : a'.tmps.getD 185 undef = .bool true := hd 4 (by rfl)
      refine wpOp_on (j := 3) (dj := 184) rfl rfl rfl d3 ?_
      refine op_run (v := .bool false) (w' := w') ?_ ⟨_, rfl, ?_, ?_⟩
      · simp only [execOp, Act.eval, d3, d4]; first | (go_simp; done) | rfl
      · try dsimp only
        exact (slots_put (ns := 202) (hsa.size.trans rfl) (by decide))
      · exact Below.refl _ _
    | 6, ho =>
      obtain rfl := Option.some.inj ho
      try dsimp only at hd
      have d3 : a'.tmps.getD 184 undef = .bool false := hd 3 (by rfl)
      have d5 : a'.tmps.getD 186 undef = .bool false := hd 5 (by rfl)
      refine wpOp_of rfl rfl ?_
      refine op_run (v := .bool false) (w' := w') ?_ ⟨_, rfl, ?_, ?_⟩
      · simp only [execOp, Act.eval, d3, d5]; first | (go_simp; done) | rfl
      · try dsimp only
        exact (slots_put (ns := 202) (hsa.size.trans rfl) (by decide))
      · exact Below.refl _ _
    | 7, ho =>
      obtain rfl := Option.some.inj ho
      try dsimp only at hd
      have d6 : a'.tmps.getD 187 undef = .bool false := hd 6 (by rfl)
      refine wpOp_of rfl rfl ?_
      refine op_run (v := .bool false) (w' := w') ?_ ⟨_, rfl, ?_, ?_⟩
      · simp only [execOp, Act.eval, d6]; first | (go_simp; done) | rfl
      · try dsimp only
        exact (slots_put (ns := 202) (hsa.size.trans rfl) (by decide))
      · exact Below.refl _ _
    | 8, ho =>
      obtain rfl := Option.some.inj ho
      try dsimp only at hd
      have d7 : a'.tmps.getD 188 undef = .bool false := hd 7 (by rfl)
      have g18 : a'.tmps.getD 18 undef = .pointer (some ⟨sb, 0, none⟩) := hsa.rest 18 (by rfl)
      obtain ⟨⟨z0, z1, z2, z3⟩, _⟩ := box4 (Below.at hb HS.out)
      refine wpOp_on (j := 7) (dj := 188) rfl rfl rfl d7 ?_
      refine op_run (v := .agg #[.string xn, .string xt, .int .i64 xc, .int .i64 xx]) (w' := w') ?_ ⟨_, rfl, ?_, ?_⟩
      · simp only [execOp, Act.eval, d7, g18, z0, z1, z2, z3]; first | (go_simp; done) | rfl
      · try dsimp only
        exact (slots_put (ns := 202) (hsa.size.trans rfl) (by decide))
      · exact Below.refl _ _
    | 9, ho =>
      obtain rfl := Option.some.inj ho
      try dsimp only at hd
      have d7 : a'.tmps.getD 188 undef = .bool false := hd 7 (by rfl)
      have g20 : a'.tmps.getD 20 undef = .pointer (some ⟨zb, 0, none⟩) := hsa.rest 20 (by rfl)
      obtain ⟨⟨z0, z1, z2, z3⟩, _⟩ := box4 (Below.at hb HZZ.out)
      refine wpOp_on (j := 7) (dj := 188) rfl rfl rfl d7 ?_
      refine op_run (v := .agg #[.string xn, .string xt, .int .i64 xc, .int .i64 xx]) (w' := w') ?_ ⟨_, rfl, ?_, ?_⟩
      · simp only [execOp, Act.eval, d7, g20, z0, z1, z2, z3]; first | (go_simp; done) | rfl
      · try dsimp only
        exact (slots_put (ns := 202) (hsa.size.trans rfl) (by decide))
      · exact Below.refl _ _
    | 10, ho =>
      obtain rfl := Option.some.inj ho
      try dsimp only at hd
      have d7 : a'.tmps.getD 188 undef = .bool false := hd 7 (by rfl)
      have d8 : a'.tmps.getD 189 undef = .agg #[.string xn, .string xt, .int .i64 xc, .int .i64 xx] := hd 8 (by rfl)
      have d9 : a'.tmps.getD 190 undef = .agg #[.string xn, .string xt, .int .i64 xc, .int .i64 xx] := hd 9 (by rfl)
      refine wpOp_on (j := 7) (dj := 188) rfl rfl rfl d7 ?_
      refine op_call 13 _ _ rfl (enters_of Try.func13 (by kernel_rfl) rfl) [.agg #[.string xn, .string xt, .int .i64 xc, .int .i64 xx], .agg #[.string xn, .string xt, .int .i64 xc, .int .i64 xx]] (by simp only [List.map, Act.eval, d7, d8, d9]) (HE.out w') ?_
      rintro e w'' ⟨rfl, b2⟩
      refine ⟨_, rfl, _, rfl, ?_, ?_⟩
      · try dsimp only
        exact (slots_put (ns := 202) (hsa.size.trans rfl) (by decide))
      · exact b2
    | 11, ho =>
      obtain rfl := Option.some.inj ho
      try dsimp only at hd
      have d7 : a'.tmps.getD 188 undef = .bool false := hd 7 (by rfl)
      have d10 : a'.tmps.getD 191 undef = .bool true := hd 10 (by rfl)
      refine wpOp_on (j := 7) (dj := 188) rfl rfl rfl d7 ?_
      refine op_run (v := .bool false) (w' := w') ?_ ⟨_, rfl, ?_, ?_⟩
      · simp only [execOp, Act.eval, d7, d10]; first | (go_simp; done) | rfl
      · try dsimp only
        exact (slots_put (ns := 202) (hsa.size.trans rfl) (by decide))
      · exact Below.refl _ _
    | 12, ho =>
      obtain rfl := Option.some.inj ho
      try dsimp only at hd
      have d7 : a'.tmps.getD 188 undef = .bool false := hd 7 (by rfl)
      have d11 : a'.tmps.getD 192 undef = .bool false := hd 11 (by rfl)
      refine wpOp_of rfl rfl ?_
      refine op_run (v := .bool false) (w' := w') ?_ ⟨_, rfl, ?_, ?_⟩
      · simp only [execOp, Act.eval, d7, d11]; first | (go_simp; done) | rfl
      · try dsimp only
        exact (slots_put (ns := 202) (hsa.size.trans rfl) (by decide))
      · exact Below.refl _ _
    | 13, ho =>
      obtain rfl := Option.some.inj ho
      try dsimp only at hd
      have d12 : a'.tmps.getD 193 undef = .bool false := hd 12 (by rfl)
      refine wpOp_of rfl rfl ?_
      refine op_run (v := .bool false) (w' := w') ?_ ⟨_, rfl, ?_, ?_⟩
      · simp only [execOp, Act.eval, d12]; first | (go_simp; done) | rfl
      · try dsimp only
        exact (slots_put (ns := 202) (hsa.size.trans rfl) (by decide))
      · exact Below.refl _ _
    | 14, ho =>
      obtain rfl := Option.some.inj ho
      try dsimp only at hd
      have d13 : a'.tmps.getD 194 undef = .bool false := hd 13 (by rfl)
      have g18 : a'.tmps.getD 18 undef = .pointer (some ⟨sb, 0, none⟩) := hsa.rest 18 (by rfl)
      obtain ⟨⟨z0, z1, z2, z3⟩, _⟩ := box4 (Below.at hb HS.out)
      refine wpOp_on (j := 13) (dj := 194) rfl rfl rfl d13 ?_
      refine op_run (v := .agg #[.string xn, .string xt, .int .i64 xc, .int .i64 xx]) (w' := w') ?_ ⟨_, rfl, ?_, ?_⟩
      · simp only [execOp, Act.eval, d13, g18, z0, z1, z2, z3]; first | (go_simp; done) | rfl
      · try dsimp only
        exact (slots_put (ns := 202) (hsa.size.trans rfl) (by decide))
      · exact Below.refl _ _
    | 15, ho =>
      obtain rfl := Option.some.inj ho
      try dsimp only at hd
      have d13 : a'.tmps.getD 194 undef = .bool false := hd 13 (by rfl)
      have d14 : a'.tmps.getD 195 undef = .agg #[.string xn, .string xt, .int .i64 xc, .int .i64 xx] := hd 14 (by rfl)
      refine wpOp_on (j := 13) (dj := 194) rfl rfl rfl d13 ?_
      refine op_call 25 _ _ rfl (enters_of Try.func25 (by kernel_rfl) rfl) [.agg #[.string xn, .string xt, .int .i64 xc, .int .i64 xx]] (by simp only [List.map, Act.eval, d13, d14]) (HR1.out w') ?_
      rintro e w'' ⟨rfl, b2⟩
      refine ⟨_, rfl, _, rfl, ?_, ?_⟩
      · try dsimp only
        exact (slots_put (ns := 202) (hsa.size.trans rfl) (by decide))
      · exact b2
    | 16, ho =>
      obtain rfl := Option.some.inj ho
      try dsimp only at hd
      have d13 : a'.tmps.getD 194 undef = .bool false := hd 13 (by rfl)
      have g20 : a'.tmps.getD 20 undef = .pointer (some ⟨zb, 0, none⟩) := hsa.rest 20 (by rfl)
      obtain ⟨⟨z0, z1, z2, z3⟩, _⟩ := box4 (Below.at hb HZZ.out)
      refine wpOp_on (j := 13) (dj := 194) rfl rfl rfl d13 ?_
      refine op_run (v := .agg #[.string xn, .string xt, .int .i64 xc, .int .i64 xx]) (w' := w') ?_ ⟨_, rfl, ?_, ?_⟩
      · simp only [execOp, Act.eval, d13, g20, z0, z1, z2, z3]; first | (go_simp; done) | rfl
      · try dsimp only
        exact (slots_put (ns := 202) (hsa.size.trans rfl) (by decide))
      · exact Below.refl _ _
    | 17, ho =>
      obtain rfl := Option.some.inj ho
      try dsimp only at hd
      have d13 : a'.tmps.getD 194 undef = .bool false := hd 13 (by rfl)
      have d16 : a'.tmps.getD 197 undef = .agg #[.string xn, .string xt, .int .i64 xc, .int .i64 xx] := hd 16 (by rfl)
      refine wpOp_on (j := 13) (dj := 194) rfl rfl rfl d13 ?_
      refine op_call 26 _ _ rfl (enters_of Try.func26 (by kernel_rfl) rfl) [.agg #[.string xn, .string xt, .int .i64 xc, .int .i64 xx]] (by simp only [List.map, Act.eval, d13, d16]) (HR2.out w') ?_
      rintro e w'' ⟨rfl, b2⟩
      refine ⟨_, rfl, _, rfl, ?_, ?_⟩
      · try dsimp only
        exact (slots_put (ns := 202) (hsa.size.trans rfl) (by decide))
      · exact b2
    | 18, ho =>
      obtain rfl := Option.some.inj ho
      try dsimp only at hd
      have d13 : a'.tmps.getD 194 undef = .bool false := hd 13 (by rfl)
      have d15 : a'.tmps.getD 196 undef = .bool rr := hd 15 (by rfl)
      have d17 : a'.tmps.getD 198 undef = .bool rr := hd 17 (by rfl)
      refine wpOp_on (j := 13) (dj := 194) rfl rfl rfl d13 ?_
      refine op_run (v := .bool false) (w' := w') ?_ ⟨_, rfl, ?_, ?_⟩
      · simp only [execOp, Act.eval, d13, d15, d17]; first | (go_simp; done) | rfl
      · try dsimp only
        exact (slots_put (ns := 202) (hsa.size.trans rfl) (by decide))
      · exact Below.refl _ _
    | 19, ho =>
      obtain rfl := Option.some.inj ho
      try dsimp only at hd
      have d13 : a'.tmps.getD 194 undef = .bool false := hd 13 (by rfl)
      have d18 : a'.tmps.getD 199 undef = .bool false := hd 18 (by rfl)
      refine wpOp_of rfl rfl ?_
      refine op_run (v := .bool false) (w' := w') ?_ ⟨_, rfl, ?_, ?_⟩
      · simp only [execOp, Act.eval, d13, d18]; first | (go_simp; done) | rfl
      · try dsimp only
        exact (slots_put (ns := 202) (hsa.size.trans rfl) (by decide))
      · exact Below.refl _ _
    | (n + 20), ho => exact absurd ho (by simp)
  case pdone =>
    intro a' w' hsa hb hd
    have d0 : a'.tmps.getD 181 undef = .int .i64 cd := hd 0 (by decide)
    have d1 : a'.tmps.getD 182 undef = .int .i64 cd := hd 1 (by decide)
    have d2 : a'.tmps.getD 183 undef = .bool false := hd 2 (by decide)
    have d3 : a'.tmps.getD 184 undef = .bool false := hd 3 (by decide)
    have d4 : a'.tmps.getD 185 undef = .bool true := hd 4 (by decide)
    have d5 : a'.tmps.getD 186 undef = .bool false := hd 5 (by decide)
    have d6 : a'.tmps.getD 187 undef = .bool false := hd 6 (by decide)
    have d7 : a'.tmps.getD 188 undef = .bool false := hd 7 (by decide)
    have d8 : a'.tmps.getD 189 undef = .agg #[.string xn, .string xt, .int .i64 xc, .int .i64 xx] := hd 8 (by decide)
    have d9 : a'.tmps.getD 190 undef = .agg #[.string xn, .string xt, .int .i64 xc, .int .i64 xx] := hd 9 (by decide)
    have d10 : a'.tmps.getD 191 undef = .bool true := hd 10 (by decide)
    have d11 : a'.tmps.getD 192 undef = .bool false := hd 11 (by decide)
    have d12 : a'.tmps.getD 193 undef = .bool false := hd 12 (by decide)
    have d13 : a'.tmps.getD 194 undef = .bool false := hd 13 (by decide)
    have d14 : a'.tmps.getD 195 undef = .agg #[.string xn, .string xt, .int .i64 xc, .int .i64 xx] := hd 14 (by decide)
    have d15 : a'.tmps.getD 196 undef = .bool rr := hd 15 (by decide)
    have d16 : a'.tmps.getD 197 undef = .agg #[.string xn, .string xt, .int .i64 xc, .int .i64 xx] := hd 16 (by decide)
    have d17 : a'.tmps.getD 198 undef = .bool rr := hd 17 (by decide)
    have d18 : a'.tmps.getD 199 undef = .bool false := hd 18 (by decide)
    have d19 : a'.tmps.getD 200 undef = .bool false := hd 19 (by decide)
    exact HQ.out _ _ ⟨hsa.size.trans rfl, hsa.defers.trans rfl, hsa.rest 0 (by rfl), hsa.rest 1 (by rfl), hsa.rest 2 (by rfl), hsa.rest 3 (by rfl), hsa.rest 4 (by rfl), hsa.rest 5 (by rfl), hsa.rest 9 (by rfl), hsa.rest 12 (by rfl), hsa.rest 13 (by rfl), hsa.rest 14 (by rfl), hsa.rest 16 (by rfl), hsa.rest 17 (by rfl), hsa.rest 18 (by rfl), hsa.rest 19 (by rfl), hsa.rest 20 (by rfl), hsa.rest 21 (by rfl), hsa.rest 22 (by rfl), hsa.rest 23 (by rfl), hsa.rest 24 (by rfl), hsa.rest 25 (by rfl), hsa.rest 26 (by rfl), hsa.rest 27 (by rfl), hsa.rest 28 (by rfl), hsa.rest 99 (by rfl)⟩ d19 hb
set_option maxHeartbeats 8000000 in
set_option maxRecDepth 100000 in
theorem py_r48 {K : Act → World → Prop} {c : Code} (hc : regOf (Try.f3.body.getD .skip) 48 = some c) (a : Act) {v : Vpy} {wq : World} {b : Bool} (hF : Fpy a v) (h13v : v.v13 = .bool b) (hQ : ∀ a', Fpy a' { v with v12 := .bool b } → K a' wq) :
    Code.wp Try.prog c (Exit.then K fun _ _ _ => False) a wq := by
  have HQ := hide hQ
  clear hQ
  obtain ⟨t', d'⟩ := a
  obtain ⟨v0, v1, v2, v3, v4, v5, v9, v12, v13, v14, v16, v17, v18, v19, v20, v21, v22, v23, v24, v25, v26, v27, v28, v99⟩ := v
  simp only at h13v HQ
  subst h13v
  obtain ⟨hs1, hd1, q0, q1, q2, q3, q4, q5, q9, q12, q13, q14, q16, q17, q18, q19, q20, q21, q22, q23, q24, q25, q26, q27, q28, q99⟩ := hF
  obtain ⟨u, hu⟩ := frame_py t' hs1
  simp only at hd1 q0 q1 q2 q3 q4 q5 q9 q12 q13 q14 q16 q17 q18 q19 q20 q21 q22 q23 q24 q25 q26 q27 q28 q99
  subst hu hd1
  have e0 : u 0 = v0 := q0
  have e1 : u 1 = v1 := q1
  have e2 : u 2 = v2 := q2
  have e3 : u 3 = v3 := q3
  have e4 : u 4 = v4 := q4
  have e5 : u 5 = v5 := q5
  have e9 : u 9 = v9 := q9
  have e12 : u 12 = v12 := q12
  have e13 : u 13 = .bool b := q13
  have e14 : u 14 = v14 := q14
  have e16 : u 16 = v16 := q16
  have e17 : u 17 = v17 := q17
  have e18 : u 18 = v18 := q18
  have e19 : u 19 = v19 := q19
  have e20 : u 20 = v20 := q20
  have e21 : u 21 = v21 := q21
  have e22 : u 22 = v22 := q22
  have e23 : u 23 = v23 := q23
  have e24 : u 24 = v24 := q24
  have e25 : u 25 = v25 := q25
  have e26 : u 26 = v26 := q26
  have e27 : u 27 = v27 := q27
  have e28 : u 28 = v28 := q28
  have e99 : u 99 = v99 := q99
  rw [e0, e1, e2, e3, e4, e5, e9, e12, e13, e14, e16, e17, e18, e19, e20, e21, e22, e23, e24, e25, e26, e27, e28, e99]
  clear q0 e0 q1 e1 q2 e2 q3 e3 q4 e4 q5 e5 q9 e9 q12 e12 q13 e13 q14 e14 q16 e16 q17 e17 q18 e18 q19 e19 q20 e20 q21 e21 q22 e22 q23 e23 q24 e24 q25 e25 q26 e26 q27 e27 q28 e28 q99 e99 hs1
  simp only [Try.f3, Option.getD_some, regOf] at hc
  injection hc with hc
  subst hc
  go_wp2
  exact HQ.out _ ⟨rfl, rfl, rfl, rfl, rfl, rfl, rfl, rfl, rfl, rfl, rfl, rfl, rfl, rfl, rfl, rfl, rfl, rfl, rfl, rfl, rfl, rfl, rfl, rfl, rfl, rfl⟩
end Go.Proofs.Ytominplelmbecaa.Y
