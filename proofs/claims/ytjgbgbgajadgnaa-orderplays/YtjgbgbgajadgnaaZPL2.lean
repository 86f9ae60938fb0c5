/-
  OrderPlays' regions, the deeds (mkpl.py).
-/
import Derived.Test.YtjgbgbgajadgnaaZPL1
namespace Go.Proofs.Ytjgbgbgajadgnaa
open Go.RowKit

attribute [local go_sem ↓] Go.wp_at_zero Go.wp_at_succ
set_option linter.unusedSimpArgs false
set_option linter.unusedVariables false
set_option maxHeartbeats 8000000 in
set_option maxRecDepth 100000 in
theorem pl_r18 {K : Act → World → Prop} {c : Code} (hc : regOf (Try.f3.body.getD .skip) 18 = some c) (a : Act) {v : Vpl} {wq : World}  (hF : Fpl a v) (hQ : ∀ a', Fpl a' { v with v17 := .int .i64 ((0 : Nat) : Int) } → K a' wq) :
    Code.wp Try.prog c (Exit.then K fun _ _ _ => False) a wq := by
  have HQ := hide hQ
  clear hQ
  obtain ⟨t', d'⟩ := a
  obtain ⟨v0, v1, v2, v3, v8, v9, v10, v11, v12, v13, v14, v15, v16, v17, v18, v19, v20, v21, v22, v23, v24, v25, v26, v27, v28, v29, v30, v31, v106⟩ := v
  obtain ⟨hs1, hd1, q0, q1, q2, q3, q8, q9, q10, q11, q12, q13, q14, q15, q16, q17, q18, q19, q20, q21, q22, q23, q24, q25, q26, q27, q28, q29, q30, q31, q106⟩ := hF
  obtain ⟨u, hu⟩ := frame_pl t' hs1
  simp only at hd1 q0 q1 q2 q3 q8 q9 q10 q11 q12 q13 q14 q15 q16 q17 q18 q19 q20 q21 q22 q23 q24 q25 q26 q27 q28 q29 q30 q31 q106
  subst hu hd1
  have e0 : u 0 = v0 := q0
  have e1 : u 1 = v1 := q1
  have e2 : u 2 = v2 := q2
  have e3 : u 3 = v3 := q3
  have e8 : u 8 = v8 := q8
  have e9 : u 9 = v9 := q9
  have e10 : u 10 = v10 := q10
  have e11 : u 11 = v11 := q11
  have e12 : u 12 = v12 := q12
  have e13 : u 13 = v13 := q13
  have e14 : u 14 = v14 := q14
  have e15 : u 15 = v15 := q15
  have e16 : u 16 = v16 := q16
  have e17 : u 17 = v17 := q17
  have e18 : u 18 = v18 := q18
  have e19 : u 19 = v19 := q19
  have e20 : u 20 = v20 := q20
  have e21 : u 21 = v21 := q21
  have e22 : u 22 = v22 := q22
  have e23 : u 23 = v23 := q23
  have e24 : u 24 = v24 := q24
  have e25 : u 25 = v25 := q25
  have e26 : u 26 = v26 := q26
  have e27 : u 27 = v27 := q27
  have e28 : u 28 = v28 := q28
  have e29 : u 29 = v29 := q29
  have e30 : u 30 = v30 := q30
  have e31 : u 31 = v31 := q31
  have e106 : u 106 = v106 := q106
  rw [e0, e1, e2, e3, e8, e9, e10, e11, e12, e13, e14, e15, e16, e17, e18, e19, e20, e21, e22, e23, e24, e25, e26, e27, e28, e29, e30, e31, e106]
  clear q0 e0 q1 e1 q2 e2 q3 e3 q8 e8 q9 e9 q10 e10 q11 e11 q12 e12 q13 e13 q14 e14 q15 e15 q16 e16 q17 e17 q18 e18 q19 e19 q20 e20 q21 e21 q22 e22 q23 e23 q24 e24 q25 e25 q26 e26 q27 e27 q28 e28 q29 e29 q30 e30 q31 e31 q106 e106 hs1
  simp only [Try.f3, Option.getD_some, regOf] at hc
  injection hc with hc
  subst hc
  go_wp2
  exact HQ.out _ ⟨rfl, rfl, rfl, rfl, rfl, rfl, rfl, rfl, rfl, rfl, rfl, rfl, rfl, rfl, rfl, rfl, rfl, rfl, rfl, rfl, rfl, rfl, rfl, rfl, rfl, rfl, rfl, rfl, rfl, rfl, rfl⟩
set_option maxHeartbeats 8000000 in
set_option maxRecDepth 100000 in
theorem pl_r19n {K : Act → World → Prop} {c : Code} (hc : regOf (Try.f3.body.getD .skip) 19 = some c) (a : Act) {v : Vpl} {wq : World} {ao : Option Addr} {n cp k : Nat} (hF : Fpl a v) (h3v : v.v3 = .slice ao n cp) (h17v : v.v17 = .int .i64 (k : Int)) (hk : ¬ (k : Int) < (n : Int)) (hQ : ∀ a', Fpl a' v → a'.tmps.getD 97 undef = .bool false → K a' wq) :
    Code.wp Try.prog c (Exit.then K fun _ _ _ => False) a wq := by
  have HQ := hide hQ
  clear hQ
  obtain ⟨t', d'⟩ := a
  obtain ⟨v0, v1, v2, v3, v8, v9, v10, v11, v12, v13, v14, v15, v16, v17, v18, v19, v20, v21, v22, v23, v24, v25, v26, v27, v28, v29, v30, v31, v106⟩ := v
  simp only at h3v h17v HQ
  subst h3v h17v
  obtain ⟨hs1, hd1, q0, q1, q2, q3, q8, q9, q10, q11, q12, q13, q14, q15, q16, q17, q18, q19, q20, q21, q22, q23, q24, q25, q26, q27, q28, q29, q30, q31, q106⟩ := hF
  obtain ⟨u, hu⟩ := frame_pl t' hs1
  simp only at hd1 q0 q1 q2 q3 q8 q9 q10 q11 q12 q13 q14 q15 q16 q17 q18 q19 q20 q21 q22 q23 q24 q25 q26 q27 q28 q29 q30 q31 q106
  subst hu hd1
  have e0 : u 0 = v0 := q0
  have e1 : u 1 = v1 := q1
  have e2 : u 2 = v2 := q2
  have e3 : u 3 = .slice ao n cp := q3
  have e8 : u 8 = v8 := q8
  have e9 : u 9 = v9 := q9
  have e10 : u 10 = v10 := q10
  have e11 : u 11 = v11 := q11
  have e12 : u 12 = v12 := q12
  have e13 : u 13 = v13 := q13
  have e14 : u 14 = v14 := q14
  have e15 : u 15 = v15 := q15
  have e16 : u 16 = v16 := q16
  have e17 : u 17 = .int .i64 (k : Int) := q17
  have e18 : u 18 = v18 := q18
  have e19 : u 19 = v19 := q19
  have e20 : u 20 = v20 := q20
  have e21 : u 21 = v21 := q21
  have e22 : u 22 = v22 := q22
  have e23 : u 23 = v23 := q23
  have e24 : u 24 = v24 := q24
  have e25 : u 25 = v25 := q25
  have e26 : u 26 = v26 := q26
  have e27 : u 27 = v27 := q27
  have e28 : u 28 = v28 := q28
  have e29 : u 29 = v29 := q29
  have e30 : u 30 = v30 := q30
  have e31 : u 31 = v31 := q31
  have e106 : u 106 = v106 := q106
  rw [e0, e1, e2, e3, e8, e9, e10, e11, e12, e13, e14, e15, e16, e17, e18, e19, e20, e21, e22, e23, e24, e25, e26, e27, e28, e29, e30, e31, e106]
  clear q0 e0 q1 e1 q2 e2 q3 e3 q8 e8 q9 e9 q10 e10 q11 e11 q12 e12 q13 e13 q14 e14 q15 e15 q16 e16 q17 e17 q18 e18 q19 e19 q20 e20 q21 e21 q22 e22 q23 e23 q24 e24 q25 e25 q26 e26 q27 e27 q28 e28 q29 e29 q30 e30 q31 e31 q106 e106 hs1
  simp only [Try.f3, Option.getD_some, regOf] at hc
  injection hc with hc
  subst hc
  have hd : decide ((k : Int) < (n : Int)) = false := decide_eq_false hk
  go_wp2
  exact HQ.out _ ⟨rfl, rfl, rfl, rfl, rfl, rfl, rfl, rfl, rfl, rfl, rfl, rfl, rfl, rfl, rfl, rfl, rfl, rfl, rfl, rfl, rfl, rfl, rfl, rfl, rfl, rfl, rfl, rfl, rfl, rfl, rfl⟩ (by first | rfl | (simp; done))
set_option maxHeartbeats 8000000 in
set_option maxRecDepth 100000 in
theorem pl_r19y {K : Act → World → Prop} {c : Code} (hc : regOf (Try.f3.body.getD .skip) 19 = some c) (a : Act) {v : Vpl} {wq : World} {ao : Option Addr} {n cp k : Nat} (hF : Fpl a v) (h3v : v.v3 = .slice ao n cp) (h17v : v.v17 = .int .i64 (k : Int)) (hk : (k : Int) < (n : Int)) (hQ : ∀ a', Fpl a' v → a'.tmps.getD 97 undef = .bool (decide ((k : Int) < 100)) → K a' wq) :
    Code.wp Try.prog c (Exit.then K fun _ _ _ => False) a wq := by
  have HQ := hide hQ
  clear hQ
  obtain ⟨t', d'⟩ := a
  obtain ⟨v0, v1, v2, v3, v8, v9, v10, v11, v12, v13, v14, v15, v16, v17, v18, v19, v20, v21, v22, v23, v24, v25, v26, v27, v28, v29, v30, v31, v106⟩ := v
  simp only at h3v h17v HQ
  subst h3v h17v
  obtain ⟨hs1, hd1, q0, q1, q2, q3, q8, q9, q10, q11, q12, q13, q14, q15, q16, q17, q18, q19, q20, q21, q22, q23, q24, q25, q26, q27, q28, q29, q30, q31, q106⟩ := hF
  obtain ⟨u, hu⟩ := frame_pl t' hs1
  simp only at hd1 q0 q1 q2 q3 q8 q9 q10 q11 q12 q13 q14 q15 q16 q17 q18 q19 q20 q21 q22 q23 q24 q25 q26 q27 q28 q29 q30 q31 q106
  subst hu hd1
  have e0 : u 0 = v0 := q0
  have e1 : u 1 = v1 := q1
  have e2 : u 2 = v2 := q2
  have e3 : u 3 = .slice ao n cp := q3
  have e8 : u 8 = v8 := q8
  have e9 : u 9 = v9 := q9
  have e10 : u 10 = v10 := q10
  have e11 : u 11 = v11 := q11
  have e12 : u 12 = v12 := q12
  have e13 : u 13 = v13 := q13
  have e14 : u 14 = v14 := q14
  have e15 : u 15 = v15 := q15
  have e16 : u 16 = v16 := q16
  have e17 : u 17 = .int .i64 (k : Int) := q17
  have e18 : u 18 = v18 := q18
  have e19 : u 19 = v19 := q19
  have e20 : u 20 = v20 := q20
  have e21 : u 21 = v21 := q21
  have e22 : u 22 = v22 := q22
  have e23 : u 23 = v23 := q23
  have e24 : u 24 = v24 := q24
  have e25 : u 25 = v25 := q25
  have e26 : u 26 = v26 := q26
  have e27 : u 27 = v27 := q27
  have e28 : u 28 = v28 := q28
  have e29 : u 29 = v29 := q29
  have e30 : u 30 = v30 := q30
  have e31 : u 31 = v31 := q31
  have e106 : u 106 = v106 := q106
  rw [e0, e1, e2, e3, e8, e9, e10, e11, e12, e13, e14, e15, e16, e17, e18, e19, e20, e21, e22, e23, e24, e25, e26, e27, e28, e29, e30, e31, e106]
  clear q0 e0 q1 e1 q2 e2 q3 e3 q8 e8 q9 e9 q10 e10 q11 e11 q12 e12 q13 e13 q14 e14 q15 e15 q16 e16 q17 e17 q18 e18 q19 e19 q20 e20 q21 e21 q22 e22 q23 e23 q24 e24 q25 e25 q26 e26 q27 e27 q28 e28 q29 e29 q30 e30 q31 e31 q106 e106 hs1
  simp only [Try.f3, Option.getD_some, regOf] at hc
  injection hc with hc
  subst hc
  have hd : decide ((k : Int) < (n : Int)) = true := decide_eq_true hk
  go_wp2
  exact HQ.out _ ⟨rfl, rfl, rfl, rfl, rfl, rfl, rfl, rfl, rfl, rfl, rfl, rfl, rfl, rfl, rfl, rfl, rfl, rfl, rfl, rfl, rfl, rfl, rfl, rfl, rfl, rfl, rfl, rfl, rfl, rfl, rfl⟩ (by first | rfl | (simp; done))
set_option maxHeartbeats 8000000 in
set_option maxRecDepth 100000 in
theorem pl_r21 {K : Act → World → Prop} {c : Code} (hc : regOf (Try.f3.body.getD .skip) 21 = some c) (a : Act) {v : Vpl} {wq : World} {db df n cp k : Nat} {d : DE} (hF : Fpl a v) (h3v : v.v3 = .slice (some ⟨db, df, none⟩) n cp) (h17v : v.v17 = .int .i64 (k : Int)) (hk : k < n) (hD : DEAt wq db (df + k * 4) d)
    (hQ : ∀ a', Fpl a' { v with v18 := .pointer (some ⟨wq.heap.size, 0, none⟩) } → K a' (wq.alloc (.cells #[.int .i64 d.kind, .string d.s, .int .i64 d.node, .int .i64 d.n] 33))) :
    Code.wp Try.prog c (Exit.then K fun _ _ _ => False) a wq := by
  have HQ := hide hQ
  clear hQ
  obtain ⟨t', d'⟩ := a
  obtain ⟨v0, v1, v2, v3, v8, v9, v10, v11, v12, v13, v14, v15, v16, v17, v18, v19, v20, v21, v22, v23, v24, v25, v26, v27, v28, v29, v30, v31, v106⟩ := v
  simp only at h3v h17v HQ
  subst h3v h17v
  obtain ⟨hs1, hd1, q0, q1, q2, q3, q8, q9, q10, q11, q12, q13, q14, q15, q16, q17, q18, q19, q20, q21, q22, q23, q24, q25, q26, q27, q28, q29, q30, q31, q106⟩ := hF
  obtain ⟨u, hu⟩ := frame_pl t' hs1
  simp only at hd1 q0 q1 q2 q3 q8 q9 q10 q11 q12 q13 q14 q15 q16 q17 q18 q19 q20 q21 q22 q23 q24 q25 q26 q27 q28 q29 q30 q31 q106
  subst hu hd1
  have e0 : u 0 = v0 := q0
  have e1 : u 1 = v1 := q1
  have e2 : u 2 = v2 := q2
  have e3 : u 3 = .slice (some ⟨db, df, none⟩) n cp := q3
  have e8 : u 8 = v8 := q8
  have e9 : u 9 = v9 := q9
  have e10 : u 10 = v10 := q10
  have e11 : u 11 = v11 := q11
  have e12 : u 12 = v12 := q12
  have e13 : u 13 = v13 := q13
  have e14 : u 14 = v14 := q14
  have e15 : u 15 = v15 := q15
  have e16 : u 16 = v16 := q16
  have e17 : u 17 = .int .i64 (k : Int) := q17
  have e18 : u 18 = v18 := q18
  have e19 : u 19 = v19 := q19
  have e20 : u 20 = v20 := q20
  have e21 : u 21 = v21 := q21
  have e22 : u 22 = v22 := q22
  have e23 : u 23 = v23 := q23
  have e24 : u 24 = v24 := q24
  have e25 : u 25 = v25 := q25
  have e26 : u 26 = v26 := q26
  have e27 : u 27 = v27 := q27
  have e28 : u 28 = v28 := q28
  have e29 : u 29 = v29 := q29
  have e30 : u 30 = v30 := q30
  have e31 : u 31 = v31 := q31
  have e106 : u 106 = v106 := q106
  rw [e0, e1, e2, e3, e8, e9, e10, e11, e12, e13, e14, e15, e16, e17, e18, e19, e20, e21, e22, e23, e24, e25, e26, e27, e28, e29, e30, e31, e106]
  clear q0 e0 q1 e1 q2 e2 q3 e3 q8 e8 q9 e9 q10 e10 q11 e11 q12 e12 q13 e13 q14 e14 q15 e15 q16 e16 q17 e17 q18 e18 q19 e19 q20 e20 q21 e21 q22 e22 q23 e23 q24 e24 q25 e25 q26 e26 q27 e27 q28 e28 q29 e29 q30 e30 q31 e31 q106 e106 hs1
  simp only [Try.f3, Option.getD_some, regOf] at hc
  injection hc with hc
  subst hc
  obtain ⟨c0, c1, c2, c3⟩ := hD
  have i0 : (0 : Int) ≤ (k : Int) := by omega
  have i1 : (k : Int) < (n : Int) := by omega
  go_wp2
  exact HQ.out _ ⟨rfl, rfl, rfl, rfl, rfl, rfl, rfl, rfl, rfl, rfl, rfl, rfl, rfl, rfl, rfl, rfl, rfl, rfl, rfl, rfl, rfl, rfl, rfl, rfl, rfl, rfl, rfl, rfl, rfl, rfl, rfl⟩
set_option maxHeartbeats 8000000 in
set_option maxRecDepth 100000 in
theorem pl_r22 {K : Act → World → Prop} {c : Code} (hc : regOf (Try.f3.body.getD .skip) 22 = some c) (a : Act) {v : Vpl} {wq : World}  (hF : Fpl a v) (hQ : ∀ a', Fpl a' { v with v19 := .bool true } → K a' wq) :
    Code.wp Try.prog c (Exit.then K fun _ _ _ => False) a wq := by
  have HQ := hide hQ
  clear hQ
  obtain ⟨t', d'⟩ := a
  obtain ⟨v0, v1, v2, v3, v8, v9, v10, v11, v12, v13, v14, v15, v16, v17, v18, v19, v20, v21, v22, v23, v24, v25, v26, v27, v28, v29, v30, v31, v106⟩ := v
  obtain ⟨hs1, hd1, q0, q1, q2, q3, q8, q9, q10, q11, q12, q13, q14, q15, q16, q17, q18, q19, q20, q21, q22, q23, q24, q25, q26, q27, q28, q29, q30, q31, q106⟩ := hF
  obtain ⟨u, hu⟩ := frame_pl t' hs1
  simp only at hd1 q0 q1 q2 q3 q8 q9 q10 q11 q12 q13 q14 q15 q16 q17 q18 q19 q20 q21 q22 q23 q24 q25 q26 q27 q28 q29 q30 q31 q106
  subst hu hd1
  have e0 : u 0 = v0 := q0
  have e1 : u 1 = v1 := q1
  have e2 : u 2 = v2 := q2
  have e3 : u 3 = v3 := q3
  have e8 : u 8 = v8 := q8
  have e9 : u 9 = v9 := q9
  have e10 : u 10 = v10 := q10
  have e11 : u 11 = v11 := q11
  have e12 : u 12 = v12 := q12
  have e13 : u 13 = v13 := q13
  have e14 : u 14 = v14 := q14
  have e15 : u 15 = v15 := q15
  have e16 : u 16 = v16 := q16
  have e17 : u 17 = v17 := q17
  have e18 : u 18 = v18 := q18
  have e19 : u 19 = v19 := q19
  have e20 : u 20 = v20 := q20
  have e21 : u 21 = v21 := q21
  have e22 : u 22 = v22 := q22
  have e23 : u 23 = v23 := q23
  have e24 : u 24 = v24 := q24
  have e25 : u 25 = v25 := q25
  have e26 : u 26 = v26 := q26
  have e27 : u 27 = v27 := q27
  have e28 : u 28 = v28 := q28
  have e29 : u 29 = v29 := q29
  have e30 : u 30 = v30 := q30
  have e31 : u 31 = v31 := q31
  have e106 : u 106 = v106 := q106
  rw [e0, e1, e2, e3, e8, e9, e10, e11, e12, e13, e14, e15, e16, e17, e18, e19, e20, e21, e22, e23, e24, e25, e26, e27, e28, e29, e30, e31, e106]
  clear q0 e0 q1 e1 q2 e2 q3 e3 q8 e8 q9 e9 q10 e10 q11 e11 q12 e12 q13 e13 q14 e14 q15 e15 q16 e16 q17 e17 q18 e18 q19 e19 q20 e20 q21 e21 q22 e22 q23 e23 q24 e24 q25 e25 q26 e26 q27 e27 q28 e28 q29 e29 q30 e30 q31 e31 q106 e106 hs1
  simp only [Try.f3, Option.getD_some, regOf] at hc
  injection hc with hc
  subst hc
  go_wp2
  exact HQ.out _ ⟨rfl, rfl, rfl, rfl, rfl, rfl, rfl, rfl, rfl, rfl, rfl, rfl, rfl, rfl, rfl, rfl, rfl, rfl, rfl, rfl, rfl, rfl, rfl, rfl, rfl, rfl, rfl, rfl, rfl, rfl, rfl⟩
set_option maxHeartbeats 8000000 in
set_option maxRecDepth 100000 in
theorem pl_r23 {K : Act → World → Prop} {c : Code} (hc : regOf (Try.f3.body.getD .skip) 23 = some c) (a : Act) {v : Vpl} {wq : World} {R : World → Prop} {cb x : Nat} {d : DE} (hF : Fpl a v) (h18v : v.v18 = .pointer (some ⟨cb, 0, none⟩)) (hC : wq.heap[cb]? = some (.cells #[.int .i64 d.kind, .string d.s, .int .i64 d.node, .int .i64 d.n] 33 (0, 0))) (hE : Calls Try.prog 12 #[.int .i64 d.kind, .int .i64 5] wq fun e w' => e = .returned (.int .i64 (x : Int)) ∧ R w')
    (hQ : ∀ a' w1, Fpl a' { v with v106 := .int .i64 (x : Int) } → R w1 → K a' w1) :
    Code.wp Try.prog c (Exit.then K fun _ _ _ => False) a wq := by
  have HQ := hide hQ
  clear hQ
  obtain ⟨t', d'⟩ := a
  obtain ⟨v0, v1, v2, v3, v8, v9, v10, v11, v12, v13, v14, v15, v16, v17, v18, v19, v20, v21, v22, v23, v24, v25, v26, v27, v28, v29, v30, v31, v106⟩ := v
  simp only at h18v HQ
  subst h18v
  obtain ⟨hs1, hd1, q0, q1, q2, q3, q8, q9, q10, q11, q12, q13, q14, q15, q16, q17, q18, q19, q20, q21, q22, q23, q24, q25, q26, q27, q28, q29, q30, q31, q106⟩ := hF
  obtain ⟨u, hu⟩ := frame_pl t' hs1
  simp only at hd1 q0 q1 q2 q3 q8 q9 q10 q11 q12 q13 q14 q15 q16 q17 q18 q19 q20 q21 q22 q23 q24 q25 q26 q27 q28 q29 q30 q31 q106
  subst hu hd1
  have e0 : u 0 = v0 := q0
  have e1 : u 1 = v1 := q1
  have e2 : u 2 = v2 := q2
  have e3 : u 3 = v3 := q3
  have e8 : u 8 = v8 := q8
  have e9 : u 9 = v9 := q9
  have e10 : u 10 = v10 := q10
  have e11 : u 11 = v11 := q11
  have e12 : u 12 = v12 := q12
  have e13 : u 13 = v13 := q13
  have e14 : u 14 = v14 := q14
  have e15 : u 15 = v15 := q15
  have e16 : u 16 = v16 := q16
  have e17 : u 17 = v17 := q17
  have e18 : u 18 = .pointer (some ⟨cb, 0, none⟩) := q18
  have e19 : u 19 = v19 := q19
  have e20 : u 20 = v20 := q20
  have e21 : u 21 = v21 := q21
  have e22 : u 22 = v22 := q22
  have e23 : u 23 = v23 := q23
  have e24 : u 24 = v24 := q24
  have e25 : u 25 = v25 := q25
  have e26 : u 26 = v26 := q26
  have e27 : u 27 = v27 := q27
  have e28 : u 28 = v28 := q28
  have e29 : u 29 = v29 := q29
  have e30 : u 30 = v30 := q30
  have e31 : u 31 = v31 := q31
  have e106 : u 106 = v106 := q106
  rw [e0, e1, e2, e3, e8, e9, e10, e11, e12, e13, e14, e15, e16, e17, e18, e19, e20, e21, e22, e23, e24, e25, e26, e27, e28, e29, e30, e31, e106]
  clear q0 e0 q1 e1 q2 e2 q3 e3 q8 e8 q9 e9 q10 e10 q11 e11 q12 e12 q13 e13 q14 e14 q15 e15 q16 e16 q17 e17 q18 e18 q19 e19 q20 e20 q21 e21 q22 e22 q23 e23 q24 e24 q25 e25 q26 e26 q27 e27 q28 e28 q29 e29 q30 e30 q31 e31 q106 e106 hs1
  simp only [Try.f3, Option.getD_some, regOf] at hc
  injection hc with hc
  subst hc
  have HE := hide hE
  clear hE
  have z0 := box_cell hC 0 rfl
  clear hC
  go_wp2_with (go_at_call 12; refine HE.out.mono ?_; rintro e w1 ⟨rfl, r1⟩; have R1 := hide r1; clear r1)
  exact HQ.out _ _ ⟨rfl, rfl, rfl, rfl, rfl, rfl, rfl, rfl, rfl, rfl, rfl, rfl, rfl, rfl, rfl, rfl, rfl, rfl, rfl, rfl, rfl, rfl, rfl, rfl, rfl, rfl, rfl, rfl, rfl, rfl, rfl⟩ R1.out
set_option maxHeartbeats 8000000 in
set_option maxRecDepth 100000 in
theorem pl_r31 {K : Act → World → Prop} {c : Code} (hc : regOf (Try.f3.body.getD .skip) 31 = some c) (a : Act) {v : Vpl} {wq : World} {x : Nat} (hF : Fpl a v) (h106v : v.v106 = .int .i64 (x : Int)) (hQ : ∀ a', Fpl a' v → a'.tmps.getD 142 undef = .bool (decide (x = 0)) → K a' wq) :
    Code.wp Try.prog c (Exit.then K fun _ _ _ => False) a wq := by
  have HQ := hide hQ
  clear hQ
  obtain ⟨t', d'⟩ := a
  obtain ⟨v0, v1, v2, v3, v8, v9, v10, v11, v12, v13, v14, v15, v16, v17, v18, v19, v20, v21, v22, v23, v24, v25, v26, v27, v28, v29, v30, v31, v106⟩ := v
  simp only at h106v HQ
  subst h106v
  obtain ⟨hs1, hd1, q0, q1, q2, q3, q8, q9, q10, q11, q12, q13, q14, q15, q16, q17, q18, q19, q20, q21, q22, q23, q24, q25, q26, q27, q28, q29, q30, q31, q106⟩ := hF
  obtain ⟨u, hu⟩ := frame_pl t' hs1
  simp only at hd1 q0 q1 q2 q3 q8 q9 q10 q11 q12 q13 q14 q15 q16 q17 q18 q19 q20 q21 q22 q23 q24 q25 q26 q27 q28 q29 q30 q31 q106
  subst hu hd1
  have e0 : u 0 = v0 := q0
  have e1 : u 1 = v1 := q1
  have e2 : u 2 = v2 := q2
  have e3 : u 3 = v3 := q3
  have e8 : u 8 = v8 := q8
  have e9 : u 9 = v9 := q9
  have e10 : u 10 = v10 := q10
  have e11 : u 11 = v11 := q11
  have e12 : u 12 = v12 := q12
  have e13 : u 13 = v13 := q13
  have e14 : u 14 = v14 := q14
  have e15 : u 15 = v15 := q15
  have e16 : u 16 = v16 := q16
  have e17 : u 17 = v17 := q17
  have e18 : u 18 = v18 := q18
  have e19 : u 19 = v19 := q19
  have e20 : u 20 = v20 := q20
  have e21 : u 21 = v21 := q21
  have e22 : u 22 = v22 := q22
  have e23 : u 23 = v23 := q23
  have e24 : u 24 = v24 := q24
  have e25 : u 25 = v25 := q25
  have e26 : u 26 = v26 := q26
  have e27 : u 27 = v27 := q27
  have e28 : u 28 = v28 := q28
  have e29 : u 29 = v29 := q29
  have e30 : u 30 = v30 := q30
  have e31 : u 31 = v31 := q31
  have e106 : u 106 = .int .i64 (x : Int) := q106
  rw [e0, e1, e2, e3, e8, e9, e10, e11, e12, e13, e14, e15, e16, e17, e18, e19, e20, e21, e22, e23, e24, e25, e26, e27, e28, e29, e30, e31, e106]
  clear q0 e0 q1 e1 q2 e2 q3 e3 q8 e8 q9 e9 q10 e10 q11 e11 q12 e12 q13 e13 q14 e14 q15 e15 q16 e16 q17 e17 q18 e18 q19 e19 q20 e20 q21 e21 q22 e22 q23 e23 q24 e24 q25 e25 q26 e26 q27 e27 q28 e28 q29 e29 q30 e30 q31 e31 q106 e106 hs1
  simp only [Try.f3, Option.getD_some, regOf] at hc
  injection hc with hc
  subst hc
  have hd : ((x : Int) == 0) = decide (x = 0) := by by_cases e : x = 0 <;> simp [e]
  go_wp2
  exact HQ.out _ ⟨rfl, rfl, rfl, rfl, rfl, rfl, rfl, rfl, rfl, rfl, rfl, rfl, rfl, rfl, rfl, rfl, rfl, rfl, rfl, rfl, rfl, rfl, rfl, rfl, rfl, rfl, rfl, rfl, rfl, rfl, rfl⟩ (by first | rfl | (simp; done))
set_option maxHeartbeats 8000000 in
set_option maxRecDepth 100000 in
theorem pl_r35 {K : Act → World → Prop} {c : Code} (hc : regOf (Try.f3.body.getD .skip) 35 = some c) (a : Act) {v : Vpl} {wq : World} {x : Nat} (hF : Fpl a v) (h106v : v.v106 = .int .i64 (x : Int)) (hQ : ∀ a', Fpl a' v → a'.tmps.getD 166 undef = .bool (decide (x = 1)) → K a' wq) :
    Code.wp Try.prog c (Exit.then K fun _ _ _ => False) a wq := by
  have HQ := hide hQ
  clear hQ
  obtain ⟨t', d'⟩ := a
  obtain ⟨v0, v1, v2, v3, v8, v9, v10, v11, v12, v13, v14, v15, v16, v17, v18, v19, v20, v21, v22, v23, v24, v25, v26, v27, v28, v29, v30, v31, v106⟩ := v
  simp only at h106v HQ
  subst h106v
  obtain ⟨hs1, hd1, q0, q1, q2, q3, q8, q9, q10, q11, q12, q13, q14, q15, q16, q17, q18, q19, q20, q21, q22, q23, q24, q25, q26, q27, q28, q29, q30, q31, q106⟩ := hF
  obtain ⟨u, hu⟩ := frame_pl t' hs1
  simp only at hd1 q0 q1 q2 q3 q8 q9 q10 q11 q12 q13 q14 q15 q16 q17 q18 q19 q20 q21 q22 q23 q24 q25 q26 q27 q28 q29 q30 q31 q106
  subst hu hd1
  have e0 : u 0 = v0 := q0
  have e1 : u 1 = v1 := q1
  have e2 : u 2 = v2 := q2
  have e3 : u 3 = v3 := q3
  have e8 : u 8 = v8 := q8
  have e9 : u 9 = v9 := q9
  have e10 : u 10 = v10 := q10
  have e11 : u 11 = v11 := q11
  have e12 : u 12 = v12 := q12
  have e13 : u 13 = v13 := q13
  have e14 : u 14 = v14 := q14
  have e15 : u 15 = v15 := q15
  have e16 : u 16 = v16 := q16
  have e17 : u 17 = v17 := q17
  have e18 : u 18 = v18 := q18
  have e19 : u 19 = v19 := q19
  have e20 : u 20 = v20 := q20
  have e21 : u 21 = v21 := q21
  have e22 : u 22 = v22 := q22
  have e23 : u 23 = v23 := q23
  have e24 : u 24 = v24 := q24
  have e25 : u 25 = v25 := q25
  have e26 : u 26 = v26 := q26
  have e27 : u 27 = v27 := q27
  have e28 : u 28 = v28 := q28
  have e29 : u 29 = v29 := q29
  have e30 : u 30 = v30 := q30
  have e31 : u 31 = v31 := q31
  have e106 : u 106 = .int .i64 (x : Int) := q106
  rw [e0, e1, e2, e3, e8, e9, e10, e11, e12, e13, e14, e15, e16, e17, e18, e19, e20, e21, e22, e23, e24, e25, e26, e27, e28, e29, e30, e31, e106]
  clear q0 e0 q1 e1 q2 e2 q3 e3 q8 e8 q9 e9 q10 e10 q11 e11 q12 e12 q13 e13 q14 e14 q15 e15 q16 e16 q17 e17 q18 e18 q19 e19 q20 e20 q21 e21 q22 e22 q23 e23 q24 e24 q25 e25 q26 e26 q27 e27 q28 e28 q29 e29 q30 e30 q31 e31 q106 e106 hs1
  simp only [Try.f3, Option.getD_some, regOf] at hc
  injection hc with hc
  subst hc
  have hd : ((x : Int) == 1) = decide (x = 1) := by by_cases e : x = 1 <;> simp [e]; omega
  go_wp2
  exact HQ.out _ ⟨rfl, rfl, rfl, rfl, rfl, rfl, rfl, rfl, rfl, rfl, rfl, rfl, rfl, rfl, rfl, rfl, rfl, rfl, rfl, rfl, rfl, rfl, rfl, rfl, rfl, rfl, rfl, rfl, rfl, rfl, rfl⟩ (by first | rfl | (simp; done))
set_option maxHeartbeats 8000000 in
set_option maxRecDepth 100000 in
theorem pl_r37 {K : Act → World → Prop} {c : Code} (hc : regOf (Try.f3.body.getD .skip) 37 = some c) (a : Act) {v : Vpl} {wq : World} {x : Nat} (hF : Fpl a v) (h106v : v.v106 = .int .i64 (x : Int)) (hQ : ∀ a', Fpl a' v → a'.tmps.getD 181 undef = .bool (decide (x = 2)) → K a' wq) :
    Code.wp Try.prog c (Exit.then K fun _ _ _ => False) a wq := by
  have HQ := hide hQ
  clear hQ
  obtain ⟨t', d'⟩ := a
  obtain ⟨v0, v1, v2, v3, v8, v9, v10, v11, v12, v13, v14, v15, v16, v17, v18, v19, v20, v21, v22, v23, v24, v25, v26, v27, v28, v29, v30, v31, v106⟩ := v
  simp only at h106v HQ
  subst h106v
  obtain ⟨hs1, hd1, q0, q1, q2, q3, q8, q9, q10, q11, q12, q13, q14, q15, q16, q17, q18, q19, q20, q21, q22, q23, q24, q25, q26, q27, q28, q29, q30, q31, q106⟩ := hF
  obtain ⟨u, hu⟩ := frame_pl t' hs1
  simp only at hd1 q0 q1 q2 q3 q8 q9 q10 q11 q12 q13 q14 q15 q16 q17 q18 q19 q20 q21 q22 q23 q24 q25 q26 q27 q28 q29 q30 q31 q106
  subst hu hd1
  have e0 : u 0 = v0 := q0
  have e1 : u 1 = v1 := q1
  have e2 : u 2 = v2 := q2
  have e3 : u 3 = v3 := q3
  have e8 : u 8 = v8 := q8
  have e9 : u 9 = v9 := q9
  have e10 : u 10 = v10 := q10
  have e11 : u 11 = v11 := q11
  have e12 : u 12 = v12 := q12
  have e13 : u 13 = v13 := q13
  have e14 : u 14 = v14 := q14
  have e15 : u 15 = v15 := q15
  have e16 : u 16 = v16 := q16
  have e17 : u 17 = v17 := q17
  have e18 : u 18 = v18 := q18
  have e19 : u 19 = v19 := q19
  have e20 : u 20 = v20 := q20
  have e21 : u 21 = v21 := q21
  have e22 : u 22 = v22 := q22
  have e23 : u 23 = v23 := q23
  have e24 : u 24 = v24 := q24
  have e25 : u 25 = v25 := q25
  have e26 : u 26 = v26 := q26
  have e27 : u 27 = v27 := q27
  have e28 : u 28 = v28 := q28
  have e29 : u 29 = v29 := q29
  have e30 : u 30 = v30 := q30
  have e31 : u 31 = v31 := q31
  have e106 : u 106 = .int .i64 (x : Int) := q106
  rw [e0, e1, e2, e3, e8, e9, e10, e11, e12, e13, e14, e15, e16, e17, e18, e19, e20, e21, e22, e23, e24, e25, e26, e27, e28, e29, e30, e31, e106]
  clear q0 e0 q1 e1 q2 e2 q3 e3 q8 e8 q9 e9 q10 e10 q11 e11 q12 e12 q13 e13 q14 e14 q15 e15 q16 e16 q17 e17 q18 e18 q19 e19 q20 e20 q21 e21 q22 e22 q23 e23 q24 e24 q25 e25 q26 e26 q27 e27 q28 e28 q29 e29 q30 e30 q31 e31 q106 e106 hs1
  simp only [Try.f3, Option.getD_some, regOf] at hc
  injection hc with hc
  subst hc
  have hd : ((x : Int) == 2) = decide (x = 2) := by by_cases e : x = 2 <;> simp [e]; omega
  go_wp2
  exact HQ.out _ ⟨rfl, rfl, rfl, rfl, rfl, rfl, rfl, rfl, rfl, rfl, rfl, rfl, rfl, rfl, rfl, rfl, rfl, rfl, rfl, rfl, rfl, rfl, rfl, rfl, rfl, rfl, rfl, rfl, rfl, rfl, rfl⟩ (by first | rfl | (simp; done))
set_option maxHeartbeats 8000000 in
set_option maxRecDepth 100000 in
theorem pl_r39 {K : Act → World → Prop} {c : Code} (hc : regOf (Try.f3.body.getD .skip) 39 = some c) (a : Act) {v : Vpl} {wq : World} {x : Nat} (hF : Fpl a v) (h106v : v.v106 = .int .i64 (x : Int)) (hQ : ∀ a', Fpl a' v → a'.tmps.getD 196 undef = .bool (decide (x = 3)) → K a' wq) :
    Code.wp Try.prog c (Exit.then K fun _ _ _ => False) a wq := by
  have HQ := hide hQ
  clear hQ
  obtain ⟨t', d'⟩ := a
  obtain ⟨v0, v1, v2, v3, v8, v9, v10, v11, v12, v13, v14, v15, v16, v17, v18, v19, v20, v21, v22, v23, v24, v25, v26, v27, v28, v29, v30, v31, v106⟩ := v
  simp only at h106v HQ
  subst h106v
  obtain ⟨hs1, hd1, q0, q1, q2, q3, q8, q9, q10, q11, q12, q13, q14, q15, q16, q17, q18, q19, q20, q21, q22, q23, q24, q25, q26, q27, q28, q29, q30, q31, q106⟩ := hF
  obtain ⟨u, hu⟩ := frame_pl t' hs1
  simp only at hd1 q0 q1 q2 q3 q8 q9 q10 q11 q12 q13 q14 q15 q16 q17 q18 q19 q20 q21 q22 q23 q24 q25 q26 q27 q28 q29 q30 q31 q106
  subst hu hd1
  have e0 : u 0 = v0 := q0
  have e1 : u 1 = v1 := q1
  have e2 : u 2 = v2 := q2
  have e3 : u 3 = v3 := q3
  have e8 : u 8 = v8 := q8
  have e9 : u 9 = v9 := q9
  have e10 : u 10 = v10 := q10
  have e11 : u 11 = v11 := q11
  have e12 : u 12 = v12 := q12
  have e13 : u 13 = v13 := q13
  have e14 : u 14 = v14 := q14
  have e15 : u 15 = v15 := q15
  have e16 : u 16 = v16 := q16
  have e17 : u 17 = v17 := q17
  have e18 : u 18 = v18 := q18
  have e19 : u 19 = v19 := q19
  have e20 : u 20 = v20 := q20
  have e21 : u 21 = v21 := q21
  have e22 : u 22 = v22 := q22
  have e23 : u 23 = v23 := q23
  have e24 : u 24 = v24 := q24
  have e25 : u 25 = v25 := q25
  have e26 : u 26 = v26 := q26
  have e27 : u 27 = v27 := q27
  have e28 : u 28 = v28 := q28
  have e29 : u 29 = v29 := q29
  have e30 : u 30 = v30 := q30
  have e31 : u 31 = v31 := q31
  have e106 : u 106 = .int .i64 (x : Int) := q106
  rw [e0, e1, e2, e3, e8, e9, e10, e11, e12, e13, e14, e15, e16, e17, e18, e19, e20, e21, e22, e23, e24, e25, e26, e27, e28, e29, e30, e31, e106]
  clear q0 e0 q1 e1 q2 e2 q3 e3 q8 e8 q9 e9 q10 e10 q11 e11 q12 e12 q13 e13 q14 e14 q15 e15 q16 e16 q17 e17 q18 e18 q19 e19 q20 e20 q21 e21 q22 e22 q23 e23 q24 e24 q25 e25 q26 e26 q27 e27 q28 e28 q29 e29 q30 e30 q31 e31 q106 e106 hs1
  simp only [Try.f3, Option.getD_some, regOf] at hc
  injection hc with hc
  subst hc
  have hd : ((x : Int) == 3) = decide (x = 3) := by by_cases e : x = 3 <;> simp [e]; omega
  go_wp2
  exact HQ.out _ ⟨rfl, rfl, rfl, rfl, rfl, rfl, rfl, rfl, rfl, rfl, rfl, rfl, rfl, rfl, rfl, rfl, rfl, rfl, rfl, rfl, rfl, rfl, rfl, rfl, rfl, rfl, rfl, rfl, rfl, rfl, rfl⟩ (by first | rfl | (simp; done))
set_option maxHeartbeats 8000000 in
set_option maxRecDepth 100000 in
theorem pl_r32 {K : Act → World → Prop} {c : Code} (hc : regOf (Try.f3.body.getD .skip) 32 = some c) (a : Act) {v : Vpl} {wq : World} {R : World → Prop} {cb : Nat} {d : DE} {ad : Addr} {x y : Int} (hF : Fpl a v) (h12v : v.v12 = .pointer (some ad)) (h18v : v.v18 = .pointer (some ⟨cb, 0, none⟩)) (hC : wq.heap[cb]? = some (.cells #[.int .i64 d.kind, .string d.s, .int .i64 d.node, .int .i64 d.n] 33 (0, 0))) (hE : Calls Try.prog 13 #[.pointer (some ad), .string d.s] wq fun e w' => e = .returned (.tuple #[.int .i64 x, .int .i64 y]) ∧ R w')
    (hQ : ∀ a' w1, Fpl a' { v with v20 := .int .i64 x, v21 := .int .i64 y } → R w1 → K a' w1) :
    Code.wp Try.prog c (Exit.then K fun _ _ _ => False) a wq := by
  have HQ := hide hQ
  clear hQ
  obtain ⟨t', d'⟩ := a
  obtain ⟨v0, v1, v2, v3, v8, v9, v10, v11, v12, v13, v14, v15, v16, v17, v18, v19, v20, v21, v22, v23, v24, v25, v26, v27, v28, v29, v30, v31, v106⟩ := v
  simp only at h12v h18v HQ
  subst h12v h18v
  obtain ⟨hs1, hd1, q0, q1, q2, q3, q8, q9, q10, q11, q12, q13, q14, q15, q16, q17, q18, q19, q20, q21, q22, q23, q24, q25, q26, q27, q28, q29, q30, q31, q106⟩ := hF
  obtain ⟨u, hu⟩ := frame_pl t' hs1
  simp only at hd1 q0 q1 q2 q3 q8 q9 q10 q11 q12 q13 q14 q15 q16 q17 q18 q19 q20 q21 q22 q23 q24 q25 q26 q27 q28 q29 q30 q31 q106
  subst hu hd1
  have e0 : u 0 = v0 := q0
  have e1 : u 1 = v1 := q1
  have e2 : u 2 = v2 := q2
  have e3 : u 3 = v3 := q3
  have e8 : u 8 = v8 := q8
  have e9 : u 9 = v9 := q9
  have e10 : u 10 = v10 := q10
  have e11 : u 11 = v11 := q11
  have e12 : u 12 = .pointer (some ad) := q12
  have e13 : u 13 = v13 := q13
  have e14 : u 14 = v14 := q14
  have e15 : u 15 = v15 := q15
  have e16 : u 16 = v16 := q16
  have e17 : u 17 = v17 := q17
  have e18 : u 18 = .pointer (some ⟨cb, 0, none⟩) := q18
  have e19 : u 19 = v19 := q19
  have e20 : u 20 = v20 := q20
  have e21 : u 21 = v21 := q21
  have e22 : u 22 = v22 := q22
  have e23 : u 23 = v23 := q23
  have e24 : u 24 = v24 := q24
  have e25 : u 25 = v25 := q25
  have e26 : u 26 = v26 := q26
  have e27 : u 27 = v27 := q27
  have e28 : u 28 = v28 := q28
  have e29 : u 29 = v29 := q29
  have e30 : u 30 = v30 := q30
  have e31 : u 31 = v31 := q31
  have e106 : u 106 = v106 := q106
  rw [e0, e1, e2, e3, e8, e9, e10, e11, e12, e13, e14, e15, e16, e17, e18, e19, e20, e21, e22, e23, e24, e25, e26, e27, e28, e29, e30, e31, e106]
  clear q0 e0 q1 e1 q2 e2 q3 e3 q8 e8 q9 e9 q10 e10 q11 e11 q12 e12 q13 e13 q14 e14 q15 e15 q16 e16 q17 e17 q18 e18 q19 e19 q20 e20 q21 e21 q22 e22 q23 e23 q24 e24 q25 e25 q26 e26 q27 e27 q28 e28 q29 e29 q30 e30 q31 e31 q106 e106 hs1
  simp only [Try.f3, Option.getD_some, regOf] at hc
  injection hc with hc
  subst hc
  have HE := hide hE
  clear hE
  have z1 := box_cell hC 1 rfl
  clear hC
  go_wp2_with (go_at_call 13; refine HE.out.mono ?_; rintro e w1 ⟨rfl, r1⟩; have R1 := hide r1; clear r1)
  exact HQ.out _ _ ⟨rfl, rfl, rfl, rfl, rfl, rfl, rfl, rfl, rfl, rfl, rfl, rfl, rfl, rfl, rfl, rfl, rfl, rfl, rfl, rfl, rfl, rfl, rfl, rfl, rfl, rfl, rfl, rfl, rfl, rfl, rfl⟩ R1.out
set_option maxHeartbeats 8000000 in
set_option maxRecDepth 100000 in
theorem pl_r33 {K : Act → World → Prop} {c : Code} (hc : regOf (Try.f3.body.getD .skip) 33 = some c) (a : Act) {v : Vpl} {wq : World} {R : World → Prop} {cb : Nat} {d : DE} {rd : Addr} {x y : Int} (hF : Fpl a v) (h14v : v.v14 = .pointer (some rd)) (h18v : v.v18 = .pointer (some ⟨cb, 0, none⟩)) (hC : wq.heap[cb]? = some (.cells #[.int .i64 d.kind, .string d.s, .int .i64 d.node, .int .i64 d.n] 33 (0, 0))) (hE : Calls Try.prog 14 #[.pointer (some rd), .string d.s] wq fun e w' => e = .returned (.tuple #[.int .i64 x, .int .i64 y]) ∧ R w')
    (hQ : ∀ a' w1, Fpl a' { v with v22 := .int .i64 x, v23 := .int .i64 y } → R w1 → K a' w1) :
    Code.wp Try.prog c (Exit.then K fun _ _ _ => False) a wq := by
  have HQ := hide hQ
  clear hQ
  obtain ⟨t', d'⟩ := a
  obtain ⟨v0, v1, v2, v3, v8, v9, v10, v11, v12, v13, v14, v15, v16, v17, v18, v19, v20, v21, v22, v23, v24, v25, v26, v27, v28, v29, v30, v31, v106⟩ := v
  simp only at h14v h18v HQ
  subst h14v h18v
  obtain ⟨hs1, hd1, q0, q1, q2, q3, q8, q9, q10, q11, q12, q13, q14, q15, q16, q17, q18, q19, q20, q21, q22, q23, q24, q25, q26, q27, q28, q29, q30, q31, q106⟩ := hF
  obtain ⟨u, hu⟩ := frame_pl t' hs1
  simp only at hd1 q0 q1 q2 q3 q8 q9 q10 q11 q12 q13 q14 q15 q16 q17 q18 q19 q20 q21 q22 q23 q24 q25 q26 q27 q28 q29 q30 q31 q106
  subst hu hd1
  have e0 : u 0 = v0 := q0
  have e1 : u 1 = v1 := q1
  have e2 : u 2 = v2 := q2
  have e3 : u 3 = v3 := q3
  have e8 : u 8 = v8 := q8
  have e9 : u 9 = v9 := q9
  have e10 : u 10 = v10 := q10
  have e11 : u 11 = v11 := q11
  have e12 : u 12 = v12 := q12
  have e13 : u 13 = v13 := q13
  have e14 : u 14 = .pointer (some rd) := q14
  have e15 : u 15 = v15 := q15
  have e16 : u 16 = v16 := q16
  have e17 : u 17 = v17 := q17
  have e18 : u 18 = .pointer (some ⟨cb, 0, none⟩) := q18
  have e19 : u 19 = v19 := q19
  have e20 : u 20 = v20 := q20
  have e21 : u 21 = v21 := q21
  have e22 : u 22 = v22 := q22
  have e23 : u 23 = v23 := q23
  have e24 : u 24 = v24 := q24
  have e25 : u 25 = v25 := q25
  have e26 : u 26 = v26 := q26
  have e27 : u 27 = v27 := q27
  have e28 : u 28 = v28 := q28
  have e29 : u 29 = v29 := q29
  have e30 : u 30 = v30 := q30
  have e31 : u 31 = v31 := q31
  have e106 : u 106 = v106 := q106
  rw [e0, e1, e2, e3, e8, e9, e10, e11, e12, e13, e14, e15, e16, e17, e18, e19, e20, e21, e22, e23, e24, e25, e26, e27, e28, e29, e30, e31, e106]
  clear q0 e0 q1 e1 q2 e2 q3 e3 q8 e8 q9 e9 q10 e10 q11 e11 q12 e12 q13 e13 q14 e14 q15 e15 q16 e16 q17 e17 q18 e18 q19 e19 q20 e20 q21 e21 q22 e22 q23 e23 q24 e24 q25 e25 q26 e26 q27 e27 q28 e28 q29 e29 q30 e30 q31 e31 q106 e106 hs1
  simp only [Try.f3, Option.getD_some, regOf] at hc
  injection hc with hc
  subst hc
  have HE := hide hE
  clear hE
  have z1 := box_cell hC 1 rfl
  clear hC
  go_wp2_with (go_at_call 14; refine HE.out.mono ?_; rintro e w1 ⟨rfl, r1⟩; have R1 := hide r1; clear r1)
  exact HQ.out _ _ ⟨rfl, rfl, rfl, rfl, rfl, rfl, rfl, rfl, rfl, rfl, rfl, rfl, rfl, rfl, rfl, rfl, rfl, rfl, rfl, rfl, rfl, rfl, rfl, rfl, rfl, rfl, rfl, rfl, rfl, rfl, rfl⟩ R1.out
set_option maxHeartbeats 8000000 in
set_option maxRecDepth 100000 in
theorem pl_r34 {K : Act → World → Prop} {c : Code} (hc : regOf (Try.f3.body.getD .skip) 34 = some c) (a : Act) {v : Vpl} {wq : World} {x y : Int} (hF : Fpl a v) (h20v : v.v20 = .int .i64 x) (h21v : v.v21 = .int .i64 y) (h22v : v.v22 = .int .i64 x) (h23v : v.v23 = .int .i64 y) (hQ : ∀ a', Fpl a' { v with v19 := .bool true } → K a' wq) :
    Code.wp Try.prog c (Exit.then K fun _ _ _ => False) a wq := by
  have HQ := hide hQ
  clear hQ
  obtain ⟨t', d'⟩ := a
  obtain ⟨v0, v1, v2, v3, v8, v9, v10, v11, v12, v13, v14, v15, v16, v17, v18, v19, v20, v21, v22, v23, v24, v25, v26, v27, v28, v29, v30, v31, v106⟩ := v
  simp only at h20v h21v h22v h23v HQ
  subst h20v h21v h22v h23v
  obtain ⟨hs1, hd1, q0, q1, q2, q3, q8, q9, q10, q11, q12, q13, q14, q15, q16, q17, q18, q19, q20, q21, q22, q23, q24, q25, q26, q27, q28, q29, q30, q31, q106⟩ := hF
  obtain ⟨u, hu⟩ := frame_pl t' hs1
  simp only at hd1 q0 q1 q2 q3 q8 q9 q10 q11 q12 q13 q14 q15 q16 q17 q18 q19 q20 q21 q22 q23 q24 q25 q26 q27 q28 q29 q30 q31 q106
  subst hu hd1
  have e0 : u 0 = v0 := q0
  have e1 : u 1 = v1 := q1
  have e2 : u 2 = v2 := q2
  have e3 : u 3 = v3 := q3
  have e8 : u 8 = v8 := q8
  have e9 : u 9 = v9 := q9
  have e10 : u 10 = v10 := q10
  have e11 : u 11 = v11 := q11
  have e12 : u 12 = v12 := q12
  have e13 : u 13 = v13 := q13
  have e14 : u 14 = v14 := q14
  have e15 : u 15 = v15 := q15
  have e16 : u 16 = v16 := q16
  have e17 : u 17 = v17 := q17
  have e18 : u 18 = v18 := q18
  have e19 : u 19 = v19 := q19
  have e20 : u 20 = .int .i64 x := q20
  have e21 : u 21 = .int .i64 y := q21
  have e22 : u 22 = .int .i64 x := q22
  have e23 : u 23 = .int .i64 y := q23
  have e24 : u 24 = v24 := q24
  have e25 : u 25 = v25 := q25
  have e26 : u 26 = v26 := q26
  have e27 : u 27 = v27 := q27
  have e28 : u 28 = v28 := q28
  have e29 : u 29 = v29 := q29
  have e30 : u 30 = v30 := q30
  have e31 : u 31 = v31 := q31
  have e106 : u 106 = v106 := q106
  rw [e0, e1, e2, e3, e8, e9, e10, e11, e12, e13, e14, e15, e16, e17, e18, e19, e20, e21, e22, e23, e24, e25, e26, e27, e28, e29, e30, e31, e106]
  clear q0 e0 q1 e1 q2 e2 q3 e3 q8 e8 q9 e9 q10 e10 q11 e11 q12 e12 q13 e13 q14 e14 q15 e15 q16 e16 q17 e17 q18 e18 q19 e19 q20 e20 q21 e21 q22 e22 q23 e23 q24 e24 q25 e25 q26 e26 q27 e27 q28 e28 q29 e29 q30 e30 q31 e31 q106 e106 hs1
  simp only [Try.f3, Option.getD_some, regOf] at hc
  injection hc with hc
  subst hc
  go_wp2
  exact HQ.out _ ⟨rfl, rfl, rfl, rfl, rfl, rfl, rfl, rfl, rfl, rfl, rfl, rfl, rfl, rfl, rfl, rfl, rfl, rfl, rfl, rfl, rfl, rfl, rfl, rfl, rfl, rfl, rfl, rfl, rfl, rfl, rfl⟩
set_option maxHeartbeats 8000000 in
set_option maxRecDepth 100000 in
theorem pl_r24 {K : Act → World → Prop} {c : Code} (hc : regOf (Try.f3.body.getD .skip) 24 = some c) (a : Act) {v : Vpl} {wq : World} {R : Option Addr → Nat → World → Prop} {cb : Nat} {d : DE} {ad : Addr} {x : Int} {n : Nat} (hF : Fpl a v) (h12v : v.v12 = .pointer (some ad)) (h18v : v.v18 = .pointer (some ⟨cb, 0, none⟩)) (hC : wq.heap[cb]? = some (.cells #[.int .i64 d.kind, .string d.s, .int .i64 d.node, .int .i64 d.n] 33 (0, 0))) (hE : Calls Try.prog 21 #[.pointer (some ad), .int .i64 d.node, .int .i64 d.n] wq fun e w' => ∃ (ao : Option Addr) (cp : Nat), e = .returned (.tuple #[.int .i64 x, .slice ao n cp]) ∧ R ao cp w')
    (hQ : ∀ a' w1 ao cp, Fpl a' { v with v24 := .int .i64 x, v25 := .slice ao n cp } → R ao cp w1 → K a' w1) :
    Code.wp Try.prog c (Exit.then K fun _ _ _ => False) a wq := by
  have HQ := hide hQ
  clear hQ
  obtain ⟨t', d'⟩ := a
  obtain ⟨v0, v1, v2, v3, v8, v9, v10, v11, v12, v13, v14, v15, v16, v17, v18, v19, v20, v21, v22, v23, v24, v25, v26, v27, v28, v29, v30, v31, v106⟩ := v
  simp only at h12v h18v HQ
  subst h12v h18v
  obtain ⟨hs1, hd1, q0, q1, q2, q3, q8, q9, q10, q11, q12, q13, q14, q15, q16, q17, q18, q19, q20, q21, q22, q23, q24, q25, q26, q27, q28, q29, q30, q31, q106⟩ := hF
  obtain ⟨u, hu⟩ := frame_pl t' hs1
  simp only at hd1 q0 q1 q2 q3 q8 q9 q10 q11 q12 q13 q14 q15 q16 q17 q18 q19 q20 q21 q22 q23 q24 q25 q26 q27 q28 q29 q30 q31 q106
  subst hu hd1
  have e0 : u 0 = v0 := q0
  have e1 : u 1 = v1 := q1
  have e2 : u 2 = v2 := q2
  have e3 : u 3 = v3 := q3
  have e8 : u 8 = v8 := q8
  have e9 : u 9 = v9 := q9
  have e10 : u 10 = v10 := q10
  have e11 : u 11 = v11 := q11
  have e12 : u 12 = .pointer (some ad) := q12
  have e13 : u 13 = v13 := q13
  have e14 : u 14 = v14 := q14
  have e15 : u 15 = v15 := q15
  have e16 : u 16 = v16 := q16
  have e17 : u 17 = v17 := q17
  have e18 : u 18 = .pointer (some ⟨cb, 0, none⟩) := q18
  have e19 : u 19 = v19 := q19
  have e20 : u 20 = v20 := q20
  have e21 : u 21 = v21 := q21
  have e22 : u 22 = v22 := q22
  have e23 : u 23 = v23 := q23
  have e24 : u 24 = v24 := q24
  have e25 : u 25 = v25 := q25
  have e26 : u 26 = v26 := q26
  have e27 : u 27 = v27 := q27
  have e28 : u 28 = v28 := q28
  have e29 : u 29 = v29 := q29
  have e30 : u 30 = v30 := q30
  have e31 : u 31 = v31 := q31
  have e106 : u 106 = v106 := q106
  rw [e0, e1, e2, e3, e8, e9, e10, e11, e12, e13, e14, e15, e16, e17, e18, e19, e20, e21, e22, e23, e24, e25, e26, e27, e28, e29, e30, e31, e106]
  clear q0 e0 q1 e1 q2 e2 q3 e3 q8 e8 q9 e9 q10 e10 q11 e11 q12 e12 q13 e13 q14 e14 q15 e15 q16 e16 q17 e17 q18 e18 q19 e19 q20 e20 q21 e21 q22 e22 q23 e23 q24 e24 q25 e25 q26 e26 q27 e27 q28 e28 q29 e29 q30 e30 q31 e31 q106 e106 hs1
  simp only [Try.f3, Option.getD_some, regOf] at hc
  injection hc with hc
  subst hc
  have HE := hide hE
  clear hE
  have z2 := box_cell hC 2 rfl
  have z3 := box_cell hC 3 rfl
  clear hC
  go_wp2_with (go_at_call 21; refine HE.out.mono ?_; rintro e w1 ⟨ao, cp, rfl, r1⟩; have R1 := hide r1; clear r1)
  exact HQ.out _ _ _ _ ⟨rfl, rfl, rfl, rfl, rfl, rfl, rfl, rfl, rfl, rfl, rfl, rfl, rfl, rfl, rfl, rfl, rfl, rfl, rfl, rfl, rfl, rfl, rfl, rfl, rfl, rfl, rfl, rfl, rfl, rfl, rfl⟩ R1.out
set_option maxHeartbeats 8000000 in
set_option maxRecDepth 100000 in
theorem pl_r25 {K : Act → World → Prop} {c : Code} (hc : regOf (Try.f3.body.getD .skip) 25 = some c) (a : Act) {v : Vpl} {wq : World} {R : Option Addr → Nat → World → Prop} {cb : Nat} {d : DE} {rd : Addr} {x : Int} {n : Nat} (hF : Fpl a v) (h14v : v.v14 = .pointer (some rd)) (h18v : v.v18 = .pointer (some ⟨cb, 0, none⟩)) (hC : wq.heap[cb]? = some (.cells #[.int .i64 d.kind, .string d.s, .int .i64 d.node, .int .i64 d.n] 33 (0, 0))) (hE : Calls Try.prog 22 #[.pointer (some rd), .int .i64 d.node, .int .i64 d.n] wq fun e w' => ∃ (ao : Option Addr) (cp : Nat), e = .returned (.tuple #[.int .i64 x, .slice ao n cp]) ∧ R ao cp w')
    (hQ : ∀ a' w1 ao cp, Fpl a' { v with v26 := .int .i64 x, v27 := .slice ao n cp } → R ao cp w1 → K a' w1) :
    Code.wp Try.prog c (Exit.then K fun _ _ _ => False) a wq := by
  have HQ := hide hQ
  clear hQ
  obtain ⟨t', d'⟩ := a
  obtain ⟨v0, v1, v2, v3, v8, v9, v10, v11, v12, v13, v14, v15, v16, v17, v18, v19, v20, v21, v22, v23, v24, v25, v26, v27, v28, v29, v30, v31, v106⟩ := v
  simp only at h14v h18v HQ
  subst h14v h18v
  obtain ⟨hs1, hd1, q0, q1, q2, q3, q8, q9, q10, q11, q12, q13, q14, q15, q16, q17, q18, q19, q20, q21, q22, q23, q24, q25, q26, q27, q28, q29, q30, q31, q106⟩ := hF
  obtain ⟨u, hu⟩ := frame_pl t' hs1
  simp only at hd1 q0 q1 q2 q3 q8 q9 q10 q11 q12 q13 q14 q15 q16 q17 q18 q19 q20 q21 q22 q23 q24 q25 q26 q27 q28 q29 q30 q31 q106
  subst hu hd1
  have e0 : u 0 = v0 := q0
  have e1 : u 1 = v1 := q1
  have e2 : u 2 = v2 := q2
  have e3 : u 3 = v3 := q3
  have e8 : u 8 = v8 := q8
  have e9 : u 9 = v9 := q9
  have e10 : u 10 = v10 := q10
  have e11 : u 11 = v11 := q11
  have e12 : u 12 = v12 := q12
  have e13 : u 13 = v13 := q13
  have e14 : u 14 = .pointer (some rd) := q14
  have e15 : u 15 = v15 := q15
  have e16 : u 16 = v16 := q16
  have e17 : u 17 = v17 := q17
  have e18 : u 18 = .pointer (some ⟨cb, 0, none⟩) := q18
  have e19 : u 19 = v19 := q19
  have e20 : u 20 = v20 := q20
  have e21 : u 21 = v21 := q21
  have e22 : u 22 = v22 := q22
  have e23 : u 23 = v23 := q23
  have e24 : u 24 = v24 := q24
  have e25 : u 25 = v25 := q25
  have e26 : u 26 = v26 := q26
  have e27 : u 27 = v27 := q27
  have e28 : u 28 = v28 := q28
  have e29 : u 29 = v29 := q29
  have e30 : u 30 = v30 := q30
  have e31 : u 31 = v31 := q31
  have e106 : u 106 = v106 := q106
  rw [e0, e1, e2, e3, e8, e9, e10, e11, e12, e13, e14, e15, e16, e17, e18, e19, e20, e21, e22, e23, e24, e25, e26, e27, e28, e29, e30, e31, e106]
  clear q0 e0 q1 e1 q2 e2 q3 e3 q8 e8 q9 e9 q10 e10 q11 e11 q12 e12 q13 e13 q14 e14 q15 e15 q16 e16 q17 e17 q18 e18 q19 e19 q20 e20 q21 e21 q22 e22 q23 e23 q24 e24 q25 e25 q26 e26 q27 e27 q28 e28 q29 e29 q30 e30 q31 e31 q106 e106 hs1
  simp only [Try.f3, Option.getD_some, regOf] at hc
  injection hc with hc
  subst hc
  have HE := hide hE
  clear hE
  have z2 := box_cell hC 2 rfl
  have z3 := box_cell hC 3 rfl
  clear hC
  go_wp2_with (go_at_call 22; refine HE.out.mono ?_; rintro e w1 ⟨ao, cp, rfl, r1⟩; have R1 := hide r1; clear r1)
  exact HQ.out _ _ _ _ ⟨rfl, rfl, rfl, rfl, rfl, rfl, rfl, rfl, rfl, rfl, rfl, rfl, rfl, rfl, rfl, rfl, rfl, rfl, rfl, rfl, rfl, rfl, rfl, rfl, rfl, rfl, rfl, rfl, rfl, rfl, rfl⟩ R1.out
set_option maxHeartbeats 8000000 in
set_option maxRecDepth 100000 in
theorem pl_r26 {K : Act → World → Prop} {c : Code} (hc : regOf (Try.f3.body.getD .skip) 26 = some c) (a : Act) {v : Vpl} {wq : World} {R : World → Prop} {x : Int} {ao bo : Option Addr} {n cp cq : Nat} (hF : Fpl a v) (h24v : v.v24 = .int .i64 x) (h25v : v.v25 = .slice ao n cp) (h26v : v.v26 = .int .i64 x) (h27v : v.v27 = .slice bo n cq) (hE : Calls Try.prog 23 #[.slice ao n cp, .slice bo n cq] wq fun e w' => e = .returned (.bool true) ∧ R w')
    (hQ : ∀ a' w1, Fpl a' { v with v19 := .bool true } → R w1 → K a' w1) :
    Code.wp Try.prog c (Exit.then K fun _ _ _ => False) a wq := by
  have HQ := hide hQ
  clear hQ
  obtain ⟨t', d'⟩ := a
  obtain ⟨v0, v1, v2, v3, v8, v9, v10, v11, v12, v13, v14, v15, v16, v17, v18, v19, v20, v21, v22, v23, v24, v25, v26, v27, v28, v29, v30, v31, v106⟩ := v
  simp only at h24v h25v h26v h27v HQ
  subst h24v h25v h26v h27v
  obtain ⟨hs1, hd1, q0, q1, q2, q3, q8, q9, q10, q11, q12, q13, q14, q15, q16, q17, q18, q19, q20, q21, q22, q23, q24, q25, q26, q27, q28, q29, q30, q31, q106⟩ := hF
  obtain ⟨u, hu⟩ := frame_pl t' hs1
  simp only at hd1 q0 q1 q2 q3 q8 q9 q10 q11 q12 q13 q14 q15 q16 q17 q18 q19 q20 q21 q22 q23 q24 q25 q26 q27 q28 q29 q30 q31 q106
  subst hu hd1
  have e0 : u 0 = v0 := q0
  have e1 : u 1 = v1 := q1
  have e2 : u 2 = v2 := q2
  have e3 : u 3 = v3 := q3
  have e8 : u 8 = v8 := q8
  have e9 : u 9 = v9 := q9
  have e10 : u 10 = v10 := q10
  have e11 : u 11 = v11 := q11
  have e12 : u 12 = v12 := q12
  have e13 : u 13 = v13 := q13
  have e14 : u 14 = v14 := q14
  have e15 : u 15 = v15 := q15
  have e16 : u 16 = v16 := q16
  have e17 : u 17 = v17 := q17
  have e18 : u 18 = v18 := q18
  have e19 : u 19 = v19 := q19
  have e20 : u 20 = v20 := q20
  have e21 : u 21 = v21 := q21
  have e22 : u 22 = v22 := q22
  have e23 : u 23 = v23 := q23
  have e24 : u 24 = .int .i64 x := q24
  have e25 : u 25 = .slice ao n cp := q25
  have e26 : u 26 = .int .i64 x := q26
  have e27 : u 27 = .slice bo n cq := q27
  have e28 : u 28 = v28 := q28
  have e29 : u 29 = v29 := q29
  have e30 : u 30 = v30 := q30
  have e31 : u 31 = v31 := q31
  have e106 : u 106 = v106 := q106
  rw [e0, e1, e2, e3, e8, e9, e10, e11, e12, e13, e14, e15, e16, e17, e18, e19, e20, e21, e22, e23, e24, e25, e26, e27, e28, e29, e30, e31, e106]
  clear q0 e0 q1 e1 q2 e2 q3 e3 q8 e8 q9 e9 q10 e10 q11 e11 q12 e12 q13 e13 q14 e14 q15 e15 q16 e16 q17 e17 q18 e18 q19 e19 q20 e20 q21 e21 q22 e22 q23 e23 q24 e24 q25 e25 q26 e26 q27 e27 q28 e28 q29 e29 q30 e30 q31 e31 q106 e106 hs1
  simp only [Try.f3, Option.getD_some, regOf] at hc
  injection hc with hc
  subst hc
  have HE := hide hE
  clear hE
  go_wp2_with (go_at_call 23; refine HE.out.mono ?_; rintro e w1 ⟨rfl, r1⟩; have R1 := hide r1; clear r1)
  exact HQ.out _ _ ⟨rfl, rfl, rfl, rfl, rfl, rfl, rfl, rfl, rfl, rfl, rfl, rfl, rfl, rfl, rfl, rfl, rfl, rfl, rfl, rfl, rfl, rfl, rfl, rfl, rfl, rfl, rfl, rfl, rfl, rfl, rfl⟩ R1.out
set_option maxHeartbeats 8000000 in
set_option maxRecDepth 100000 in
theorem pl_r27 {K : Act → World → Prop} {c : Code} (hc : regOf (Try.f3.body.getD .skip) 27 = some c) (a : Act) {v : Vpl} {wq : World}  (hF : Fpl a v) (hQ : ∀ a', Fpl a' { v with v28 := .int .i64 ((0 : Nat) : Int) } → K a' wq) :
    Code.wp Try.prog c (Exit.then K fun _ _ _ => False) a wq := by
  have HQ := hide hQ
  clear hQ
  obtain ⟨t', d'⟩ := a
  obtain ⟨v0, v1, v2, v3, v8, v9, v10, v11, v12, v13, v14, v15, v16, v17, v18, v19, v20, v21, v22, v23, v24, v25, v26, v27, v28, v29, v30, v31, v106⟩ := v
  obtain ⟨hs1, hd1, q0, q1, q2, q3, q8, q9, q10, q11, q12, q13, q14, q15, q16, q17, q18, q19, q20, q21, q22, q23, q24, q25, q26, q27, q28, q29, q30, q31, q106⟩ := hF
  obtain ⟨u, hu⟩ := frame_pl t' hs1
  simp only at hd1 q0 q1 q2 q3 q8 q9 q10 q11 q12 q13 q14 q15 q16 q17 q18 q19 q20 q21 q22 q23 q24 q25 q26 q27 q28 q29 q30 q31 q106
  subst hu hd1
  have e0 : u 0 = v0 := q0
  have e1 : u 1 = v1 := q1
  have e2 : u 2 = v2 := q2
  have e3 : u 3 = v3 := q3
  have e8 : u 8 = v8 := q8
  have e9 : u 9 = v9 := q9
  have e10 : u 10 = v10 := q10
  have e11 : u 11 = v11 := q11
  have e12 : u 12 = v12 := q12
  have e13 : u 13 = v13 := q13
  have e14 : u 14 = v14 := q14
  have e15 : u 15 = v15 := q15
  have e16 : u 16 = v16 := q16
  have e17 : u 17 = v17 := q17
  have e18 : u 18 = v18 := q18
  have e19 : u 19 = v19 := q19
  have e20 : u 20 = v20 := q20
  have e21 : u 21 = v21 := q21
  have e22 : u 22 = v22 := q22
  have e23 : u 23 = v23 := q23
  have e24 : u 24 = v24 := q24
  have e25 : u 25 = v25 := q25
  have e26 : u 26 = v26 := q26
  have e27 : u 27 = v27 := q27
  have e28 : u 28 = v28 := q28
  have e29 : u 29 = v29 := q29
  have e30 : u 30 = v30 := q30
  have e31 : u 31 = v31 := q31
  have e106 : u 106 = v106 := q106
  rw [e0, e1, e2, e3, e8, e9, e10, e11, e12, e13, e14, e15, e16, e17, e18, e19, e20, e21, e22, e23, e24, e25, e26, e27, e28, e29, e30, e31, e106]
  clear q0 e0 q1 e1 q2 e2 q3 e3 q8 e8 q9 e9 q10 e10 q11 e11 q12 e12 q13 e13 q14 e14 q15 e15 q16 e16 q17 e17 q18 e18 q19 e19 q20 e20 q21 e21 q22 e22 q23 e23 q24 e24 q25 e25 q26 e26 q27 e27 q28 e28 q29 e29 q30 e30 q31 e31 q106 e106 hs1
  simp only [Try.f3, Option.getD_some, regOf] at hc
  injection hc with hc
  subst hc
  go_wp2
  exact HQ.out _ ⟨rfl, rfl, rfl, rfl, rfl, rfl, rfl, rfl, rfl, rfl, rfl, rfl, rfl, rfl, rfl, rfl, rfl, rfl, rfl, rfl, rfl, rfl, rfl, rfl, rfl, rfl, rfl, rfl, rfl, rfl, rfl⟩
set_option maxHeartbeats 8000000 in
set_option maxRecDepth 100000 in
theorem pl_r28n {K : Act → World → Prop} {c : Code} (hc : regOf (Try.f3.body.getD .skip) 28 = some c) (a : Act) {v : Vpl} {wq : World} {ao : Option Addr} {n cp k : Nat} (hF : Fpl a v) (h25v : v.v25 = .slice ao n cp) (h28v : v.v28 = .int .i64 (k : Int)) (hk : ¬ (k : Int) < (n : Int)) (hQ : ∀ a', Fpl a' v → a'.tmps.getD 136 undef = .bool false → K a' wq) :
    Code.wp Try.prog c (Exit.then K fun _ _ _ => False) a wq := by
  have HQ := hide hQ
  clear hQ
  obtain ⟨t', d'⟩ := a
  obtain ⟨v0, v1, v2, v3, v8, v9, v10, v11, v12, v13, v14, v15, v16, v17, v18, v19, v20, v21, v22, v23, v24, v25, v26, v27, v28, v29, v30, v31, v106⟩ := v
  simp only at h25v h28v HQ
  subst h25v h28v
  obtain ⟨hs1, hd1, q0, q1, q2, q3, q8, q9, q10, q11, q12, q13, q14, q15, q16, q17, q18, q19, q20, q21, q22, q23, q24, q25, q26, q27, q28, q29, q30, q31, q106⟩ := hF
  obtain ⟨u, hu⟩ := frame_pl t' hs1
  simp only at hd1 q0 q1 q2 q3 q8 q9 q10 q11 q12 q13 q14 q15 q16 q17 q18 q19 q20 q21 q22 q23 q24 q25 q26 q27 q28 q29 q30 q31 q106
  subst hu hd1
  have e0 : u 0 = v0 := q0
  have e1 : u 1 = v1 := q1
  have e2 : u 2 = v2 := q2
  have e3 : u 3 = v3 := q3
  have e8 : u 8 = v8 := q8
  have e9 : u 9 = v9 := q9
  have e10 : u 10 = v10 := q10
  have e11 : u 11 = v11 := q11
  have e12 : u 12 = v12 := q12
  have e13 : u 13 = v13 := q13
  have e14 : u 14 = v14 := q14
  have e15 : u 15 = v15 := q15
  have e16 : u 16 = v16 := q16
  have e17 : u 17 = v17 := q17
  have e18 : u 18 = v18 := q18
  have e19 : u 19 = v19 := q19
  have e20 : u 20 = v20 := q20
  have e21 : u 21 = v21 := q21
  have e22 : u 22 = v22 := q22
  have e23 : u 23 = v23 := q23
  have e24 : u 24 = v24 := q24
  have e25 : u 25 = .slice ao n cp := q25
  have e26 : u 26 = v26 := q26
  have e27 : u 27 = v27 := q27
  have e28 : u 28 = .int .i64 (k : Int) := q28
  have e29 : u 29 = v29 := q29
  have e30 : u 30 = v30 := q30
  have e31 : u 31 = v31 := q31
  have e106 : u 106 = v106 := q106
  rw [e0, e1, e2, e3, e8, e9, e10, e11, e12, e13, e14, e15, e16, e17, e18, e19, e20, e21, e22, e23, e24, e25, e26, e27, e28, e29, e30, e31, e106]
  clear q0 e0 q1 e1 q2 e2 q3 e3 q8 e8 q9 e9 q10 e10 q11 e11 q12 e12 q13 e13 q14 e14 q15 e15 q16 e16 q17 e17 q18 e18 q19 e19 q20 e20 q21 e21 q22 e22 q23 e23 q24 e24 q25 e25 q26 e26 q27 e27 q28 e28 q29 e29 q30 e30 q31 e31 q106 e106 hs1
  simp only [Try.f3, Option.getD_some, regOf] at hc
  injection hc with hc
  subst hc
  have hd : decide ((k : Int) < (n : Int)) = false := decide_eq_false hk
  go_wp2
  exact HQ.out _ ⟨rfl, rfl, rfl, rfl, rfl, rfl, rfl, rfl, rfl, rfl, rfl, rfl, rfl, rfl, rfl, rfl, rfl, rfl, rfl, rfl, rfl, rfl, rfl, rfl, rfl, rfl, rfl, rfl, rfl, rfl, rfl⟩ (by first | rfl | (simp; done))
set_option maxHeartbeats 8000000 in
set_option maxRecDepth 100000 in
theorem pl_r28y {K : Act → World → Prop} {c : Code} (hc : regOf (Try.f3.body.getD .skip) 28 = some c) (a : Act) {v : Vpl} {wq : World} {ao : Option Addr} {n cp k : Nat} (hF : Fpl a v) (h25v : v.v25 = .slice ao n cp) (h28v : v.v28 = .int .i64 (k : Int)) (hk : (k : Int) < (n : Int)) (hQ : ∀ a', Fpl a' v → a'.tmps.getD 136 undef = .bool true → K a' wq) :
    Code.wp Try.prog c (Exit.then K fun _ _ _ => False) a wq := by
  have HQ := hide hQ
  clear hQ
  obtain ⟨t', d'⟩ := a
  obtain ⟨v0, v1, v2, v3, v8, v9, v10, v11, v12, v13, v14, v15, v16, v17, v18, v19, v20, v21, v22, v23, v24, v25, v26, v27, v28, v29, v30, v31, v106⟩ := v
  simp only at h25v h28v HQ
  subst h25v h28v
  obtain ⟨hs1, hd1, q0, q1, q2, q3, q8, q9, q10, q11, q12, q13, q14, q15, q16, q17, q18, q19, q20, q21, q22, q23, q24, q25, q26, q27, q28, q29, q30, q31, q106⟩ := hF
  obtain ⟨u, hu⟩ := frame_pl t' hs1
  simp only at hd1 q0 q1 q2 q3 q8 q9 q10 q11 q12 q13 q14 q15 q16 q17 q18 q19 q20 q21 q22 q23 q24 q25 q26 q27 q28 q29 q30 q31 q106
  subst hu hd1
  have e0 : u 0 = v0 := q0
  have e1 : u 1 = v1 := q1
  have e2 : u 2 = v2 := q2
  have e3 : u 3 = v3 := q3
  have e8 : u 8 = v8 := q8
  have e9 : u 9 = v9 := q9
  have e10 : u 10 = v10 := q10
  have e11 : u 11 = v11 := q11
  have e12 : u 12 = v12 := q12
  have e13 : u 13 = v13 := q13
  have e14 : u 14 = v14 := q14
  have e15 : u 15 = v15 := q15
  have e16 : u 16 = v16 := q16
  have e17 : u 17 = v17 := q17
  have e18 : u 18 = v18 := q18
  have e19 : u 19 = v19 := q19
  have e20 : u 20 = v20 := q20
  have e21 : u 21 = v21 := q21
  have e22 : u 22 = v22 := q22
  have e23 : u 23 = v23 := q23
  have e24 : u 24 = v24 := q24
  have e25 : u 25 = .slice ao n cp := q25
  have e26 : u 26 = v26 := q26
  have e27 : u 27 = v27 := q27
  have e28 : u 28 = .int .i64 (k : Int) := q28
  have e29 : u 29 = v29 := q29
  have e30 : u 30 = v30 := q30
  have e31 : u 31 = v31 := q31
  have e106 : u 106 = v106 := q106
  rw [e0, e1, e2, e3, e8, e9, e10, e11, e12, e13, e14, e15, e16, e17, e18, e19, e20, e21, e22, e23, e24, e25, e26, e27, e28, e29, e30, e31, e106]
  clear q0 e0 q1 e1 q2 e2 q3 e3 q8 e8 q9 e9 q10 e10 q11 e11 q12 e12 q13 e13 q14 e14 q15 e15 q16 e16 q17 e17 q18 e18 q19 e19 q20 e20 q21 e21 q22 e22 q23 e23 q24 e24 q25 e25 q26 e26 q27 e27 q28 e28 q29 e29 q30 e30 q31 e31 q106 e106 hs1
  simp only [Try.f3, Option.getD_some, regOf] at hc
  injection hc with hc
  subst hc
  have hd : decide ((k : Int) < (n : Int)) = true := decide_eq_true hk
  go_wp2
  exact HQ.out _ ⟨rfl, rfl, rfl, rfl, rfl, rfl, rfl, rfl, rfl, rfl, rfl, rfl, rfl, rfl, rfl, rfl, rfl, rfl, rfl, rfl, rfl, rfl, rfl, rfl, rfl, rfl, rfl, rfl, rfl, rfl, rfl⟩ (by first | rfl | (simp; done))
set_option maxHeartbeats 8000000 in
set_option maxRecDepth 100000 in
theorem pl_r30 {K : Act → World → Prop} {c : Code} (hc : regOf (Try.f3.body.getD .skip) 30 = some c) (a : Act) {v : Vpl} {wq : World} {g n cp k : Nat} {x : Value} (hF : Fpl a v) (h25v : v.v25 = .slice (some ⟨g, 0, none⟩) n cp) (h28v : v.v28 = .int .i64 (k : Int)) (hk : k < n) (hcl : wq.cell? ⟨g, k, none⟩ = some x) (hfr : wq.frozen? ⟨g, k, none⟩ = false)
    (hQ : ∀ a', Fpl a' v → K a' (wq.setCell ⟨g, k, none⟩ (.string ⟨#[63]⟩))) :
    Code.wp Try.prog c (Exit.then K fun _ _ _ => False) a wq := by
  have HQ := hide hQ
  clear hQ
  obtain ⟨t', d'⟩ := a
  obtain ⟨v0, v1, v2, v3, v8, v9, v10, v11, v12, v13, v14, v15, v16, v17, v18, v19, v20, v21, v22, v23, v24, v25, v26, v27, v28, v29, v30, v31, v106⟩ := v
  simp only at h25v h28v HQ
  subst h25v h28v
  obtain ⟨hs1, hd1, q0, q1, q2, q3, q8, q9, q10, q11, q12, q13, q14, q15, q16, q17, q18, q19, q20, q21, q22, q23, q24, q25, q26, q27, q28, q29, q30, q31, q106⟩ := hF
  obtain ⟨u, hu⟩ := frame_pl t' hs1
  simp only at hd1 q0 q1 q2 q3 q8 q9 q10 q11 q12 q13 q14 q15 q16 q17 q18 q19 q20 q21 q22 q23 q24 q25 q26 q27 q28 q29 q30 q31 q106
  subst hu hd1
  have e0 : u 0 = v0 := q0
  have e1 : u 1 = v1 := q1
  have e2 : u 2 = v2 := q2
  have e3 : u 3 = v3 := q3
  have e8 : u 8 = v8 := q8
  have e9 : u 9 = v9 := q9
  have e10 : u 10 = v10 := q10
  have e11 : u 11 = v11 := q11
  have e12 : u 12 = v12 := q12
  have e13 : u 13 = v13 := q13
  have e14 : u 14 = v14 := q14
  have e15 : u 15 = v15 := q15
  have e16 : u 16 = v16 := q16
  have e17 : u 17 = v17 := q17
  have e18 : u 18 = v18 := q18
  have e19 : u 19 = v19 := q19
  have e20 : u 20 = v20 := q20
  have e21 : u 21 = v21 := q21
  have e22 : u 22 = v22 := q22
  have e23 : u 23 = v23 := q23
  have e24 : u 24 = v24 := q24
  have e25 : u 25 = .slice (some ⟨g, 0, none⟩) n cp := q25
  have e26 : u 26 = v26 := q26
  have e27 : u 27 = v27 := q27
  have e28 : u 28 = .int .i64 (k : Int) := q28
  have e29 : u 29 = v29 := q29
  have e30 : u 30 = v30 := q30
  have e31 : u 31 = v31 := q31
  have e106 : u 106 = v106 := q106
  rw [e0, e1, e2, e3, e8, e9, e10, e11, e12, e13, e14, e15, e16, e17, e18, e19, e20, e21, e22, e23, e24, e25, e26, e27, e28, e29, e30, e31, e106]
  clear q0 e0 q1 e1 q2 e2 q3 e3 q8 e8 q9 e9 q10 e10 q11 e11 q12 e12 q13 e13 q14 e14 q15 e15 q16 e16 q17 e17 q18 e18 q19 e19 q20 e20 q21 e21 q22 e22 q23 e23 q24 e24 q25 e25 q26 e26 q27 e27 q28 e28 q29 e29 q30 e30 q31 e31 q106 e106 hs1
  simp only [Try.f3, Option.getD_some, regOf] at hc
  injection hc with hc
  subst hc
  have i0 : (0 : Int) ≤ (k : Int) := by omega
  have i1 : (k : Int) < (n : Int) := by omega
  clear hk
  go_wp2
  exact HQ.out _ ⟨rfl, rfl, rfl, rfl, rfl, rfl, rfl, rfl, rfl, rfl, rfl, rfl, rfl, rfl, rfl, rfl, rfl, rfl, rfl, rfl, rfl, rfl, rfl, rfl, rfl, rfl, rfl, rfl, rfl, rfl, rfl⟩
set_option maxHeartbeats 8000000 in
set_option maxRecDepth 100000 in
theorem pl_r29 {K : Act → World → Prop} {c : Code} (hc : regOf (Try.f3.body.getD .skip) 29 = some c) (a : Act) {v : Vpl} {wq : World} {k : Nat} (hF : Fpl a v) (h28v : v.v28 = .int .i64 (k : Int)) (hk : k ≤ 17592186044416) (hQ : ∀ a', Fpl a' { v with v28 := .int .i64 ((k + 1 : Nat) : Int) } → K a' wq) :
    Code.wp Try.prog c (Exit.then K fun _ _ _ => False) a wq := by
  have HQ := hide hQ
  clear hQ
  obtain ⟨t', d'⟩ := a
  obtain ⟨v0, v1, v2, v3, v8, v9, v10, v11, v12, v13, v14, v15, v16, v17, v18, v19, v20, v21, v22, v23, v24, v25, v26, v27, v28, v29, v30, v31, v106⟩ := v
  simp only at h28v HQ
  subst h28v
  obtain ⟨hs1, hd1, q0, q1, q2, q3, q8, q9, q10, q11, q12, q13, q14, q15, q16, q17, q18, q19, q20, q21, q22, q23, q24, q25, q26, q27, q28, q29, q30, q31, q106⟩ := hF
  obtain ⟨u, hu⟩ := frame_pl t' hs1
  simp only at hd1 q0 q1 q2 q3 q8 q9 q10 q11 q12 q13 q14 q15 q16 q17 q18 q19 q20 q21 q22 q23 q24 q25 q26 q27 q28 q29 q30 q31 q106
  subst hu hd1
  have e0 : u 0 = v0 := q0
  have e1 : u 1 = v1 := q1
  have e2 : u 2 = v2 := q2
  have e3 : u 3 = v3 := q3
  have e8 : u 8 = v8 := q8
  have e9 : u 9 = v9 := q9
  have e10 : u 10 = v10 := q10
  have e11 : u 11 = v11 := q11
  have e12 : u 12 = v12 := q12
  have e13 : u 13 = v13 := q13
  have e14 : u 14 = v14 := q14
  have e15 : u 15 = v15 := q15
  have e16 : u 16 = v16 := q16
  have e17 : u 17 = v17 := q17
  have e18 : u 18 = v18 := q18
  have e19 : u 19 = v19 := q19
  have e20 : u 20 = v20 := q20
  have e21 : u 21 = v21 := q21
  have e22 : u 22 = v22 := q22
  have e23 : u 23 = v23 := q23
  have e24 : u 24 = v24 := q24
  have e25 : u 25 = v25 := q25
  have e26 : u 26 = v26 := q26
  have e27 : u 27 = v27 := q27
  have e28 : u 28 = .int .i64 (k : Int) := q28
  have e29 : u 29 = v29 := q29
  have e30 : u 30 = v30 := q30
  have e31 : u 31 = v31 := q31
  have e106 : u 106 = v106 := q106
  rw [e0, e1, e2, e3, e8, e9, e10, e11, e12, e13, e14, e15, e16, e17, e18, e19, e20, e21, e22, e23, e24, e25, e26, e27, e28, e29, e30, e31, e106]
  clear q0 e0 q1 e1 q2 e2 q3 e3 q8 e8 q9 e9 q10 e10 q11 e11 q12 e12 q13 e13 q14 e14 q15 e15 q16 e16 q17 e17 q18 e18 q19 e19 q20 e20 q21 e21 q22 e22 q23 e23 q24 e24 q25 e25 q26 e26 q27 e27 q28 e28 q29 e29 q30 e30 q31 e31 q106 e106 hs1
  simp only [Try.f3, Option.getD_some, regOf] at hc
  injection hc with hc
  subst hc
  have hc : ((k + 1 : Nat) : Int) = (k : Int) + 1 := by omega
  rw [hc] at HQ
  go_wp2
  exact HQ.out _ ⟨rfl, rfl, rfl, rfl, rfl, rfl, rfl, rfl, rfl, rfl, rfl, rfl, rfl, rfl, rfl, rfl, rfl, rfl, rfl, rfl, rfl, rfl, rfl, rfl, rfl, rfl, rfl, rfl, rfl, rfl, rfl⟩
set_option maxHeartbeats 8000000 in
set_option maxRecDepth 100000 in
theorem pl_r36 {K : Act → World → Prop} {c : Code} (hc : regOf (Try.f3.body.getD .skip) 36 = some c) (a : Act) {v : Vpl} {wq : World} {R : Bool → Bool → World → Prop} {cb : Nat} {d : DE} {ad rd : Addr} {r : Bool} (hF : Fpl a v) (h12v : v.v12 = .pointer (some ad)) (h14v : v.v14 = .pointer (some rd)) (h18v : v.v18 = .pointer (some ⟨cb, 0, none⟩)) (hbx : ∀ x y W, R x y W → W.heap[cb]? = some (.cells #[.int .i64 d.kind, .string d.s, .int .i64 d.node, .int .i64 d.n] 33 (0, 0))) (h0 : R false false wq.drew)
    (hE1 : ∀ y W, R false y W → Calls Try.prog 15 #[.pointer (some ad), .int .i64 d.n, .string d.s] W fun e w' => e = .returned (.bool r) ∧ R true y w') (hE2 : ∀ x W, R x false W → Calls Try.prog 16 #[.pointer (some rd), .int .i64 d.n, .string d.s] W fun e w' => e = .returned (.bool r) ∧ R x true w')
    (hQ : ∀ a' w1, Fpl a' { v with v19 := .bool true } → R true true w1 → K a' w1) :
    Code.wp Try.prog c (Exit.then K fun _ _ _ => False) a wq := by
  have HQ := hide hQ
  clear hQ
  obtain ⟨t', d'⟩ := a
  obtain ⟨v0, v1, v2, v3, v8, v9, v10, v11, v12, v13, v14, v15, v16, v17, v18, v19, v20, v21, v22, v23, v24, v25, v26, v27, v28, v29, v30, v31, v106⟩ := v
  simp only at h12v h14v h18v HQ
  subst h12v h14v h18v
  obtain ⟨hs1, hd1, q0, q1, q2, q3, q8, q9, q10, q11, q12, q13, q14, q15, q16, q17, q18, q19, q20, q21, q22, q23, q24, q25, q26, q27, q28, q29, q30, q31, q106⟩ := hF
  obtain ⟨u, hu⟩ := frame_pl t' hs1
  simp only at hd1 q0 q1 q2 q3 q8 q9 q10 q11 q12 q13 q14 q15 q16 q17 q18 q19 q20 q21 q22 q23 q24 q25 q26 q27 q28 q29 q30 q31 q106
  subst hu hd1
  have e0 : u 0 = v0 := q0
  have e1 : u 1 = v1 := q1
  have e2 : u 2 = v2 := q2
  have e3 : u 3 = v3 := q3
  have e8 : u 8 = v8 := q8
  have e9 : u 9 = v9 := q9
  have e10 : u 10 = v10 := q10
  have e11 : u 11 = v11 := q11
  have e12 : u 12 = .pointer (some ad) := q12
  have e13 : u 13 = v13 := q13
  have e14 : u 14 = .pointer (some rd) := q14
  have e15 : u 15 = v15 := q15
  have e16 : u 16 = v16 := q16
  have e17 : u 17 = v17 := q17
  have e18 : u 18 = .pointer (some ⟨cb, 0, none⟩) := q18
  have e19 : u 19 = v19 := q19
  have e20 : u 20 = v20 := q20
  have e21 : u 21 = v21 := q21
  have e22 : u 22 = v22 := q22
  have e23 : u 23 = v23 := q23
  have e24 : u 24 = v24 := q24
  have e25 : u 25 = v25 := q25
  have e26 : u 26 = v26 := q26
  have e27 : u 27 = v27 := q27
  have e28 : u 28 = v28 := q28
  have e29 : u 29 = v29 := q29
  have e30 : u 30 = v30 := q30
  have e31 : u 31 = v31 := q31
  have e106 : u 106 = v106 := q106
  rw [e0, e1, e2, e3, e8, e9, e10, e11, e12, e13, e14, e15, e16, e17, e18, e19, e20, e21, e22, e23, e24, e25, e26, e27, e28, e29, e30, e31, e106]
  clear q0 e0 q1 e1 q2 e2 q3 e3 q8 e8 q9 e9 q10 e10 q11 e11 q12 e12 q13 e13 q14 e14 q15 e15 q16 e16 q17 e17 q18 e18 q19 e19 q20 e20 q21 e21 q22 e22 q23 e23 q24 e24 q25 e25 q26 e26 q27 e27 q28 e28 q29 e29 q30 e30 q31 e31 q106 e106 hs1
  simp only [Try.f3, Option.getD_some, regOf] at hc
  injection hc with hc
  subst hc
  have HBX := hide hbx
  have H0 := hide h0
  have HE1 := hide hE1
  have HE2 := hide hE2
  clear hbx h0 hE1 hE2
  refine wp_region_any rfl ?_
  refine wpAny_staged (ns := 257) (uses := (fun i => match i with | 0 => [168] | 1 => [169] | 2 => [170] | 3 => [171] | 4 => [172] | 5 => [173] | 6 => [174] | 7 => [175] | 8 => [176] | 9 => [177] | 10 => [178] | 11 => [179] | 12 => [180] | 13 => [19] | _ => [])) (by kernel_rfl) (by kernel_rfl) (fun l a w => ((fun (x y : Bool) (w : World) => R x y w)) (l 5) (l 11) w) H0.out (fun i => match i with | 0 => fun σ => σ 168 = .pointer (some ad) | 1 => fun σ => σ 169 = .pointer (some ⟨cb, 3, none⟩) | 2 => fun σ => σ 170 = .int .i64 d.n | 3 => fun σ => σ 171 = .pointer (some ⟨cb, 1, none⟩) | 4 => fun σ => σ 172 = .string d.s | 5 => fun σ => σ 173 = .bool r | 6 => fun σ => σ 174 = .pointer (some rd) | 7 => fun σ => σ 175 = .pointer (some ⟨cb, 3, none⟩) | 8 => fun σ => σ 176 = .int .i64 d.n | 9 => fun σ => σ 177 = .pointer (some ⟨cb, 1, none⟩) | 10 => fun σ => σ 178 = .string d.s | 11 => fun σ => σ 179 = .bool r | 12 => fun σ => σ 180 = .bool (decide (r = r)) | 13 => fun σ => σ 19 = .bool (decide (r = r)) | _ => fun _ => True) ?phc ?pstep ?pdone
  case phc =>
    intro i s s' hx h
    rcases i with _ | i; · exact (hx _ (List.mem_singleton.2 rfl)).symm.trans h
    rcases i with _ | i; · exact (hx _ (List.mem_singleton.2 rfl)).symm.trans h
    rcases i with _ | i; · exact (hx _ (List.mem_singleton.2 rfl)).symm.trans h
    rcases i with _ | i; · exact (hx _ (List.mem_singleton.2 rfl)).symm.trans h
    rcases i with _ | i; · exact (hx _ (List.mem_singleton.2 rfl)).symm.trans h
    rcases i with _ | i; · exact (hx _ (List.mem_singleton.2 rfl)).symm.trans h
    rcases i with _ | i; · exact (hx _ (List.mem_singleton.2 rfl)).symm.trans h
    rcases i with _ | i; · exact (hx _ (List.mem_singleton.2 rfl)).symm.trans h
    rcases i with _ | i; · exact (hx _ (List.mem_singleton.2 rfl)).symm.trans h
    rcases i with _ | i; · exact (hx _ (List.mem_singleton.2 rfl)).symm.trans h
    rcases i with _ | i; · exact (hx _ (List.mem_singleton.2 rfl)).symm.trans h
    rcases i with _ | i; · exact (hx _ (List.mem_singleton.2 rfl)).symm.trans h
    rcases i with _ | i; · exact (hx _ (List.mem_singleton.2 rfl)).symm.trans h
    rcases i with _ | i; · exact (hx _ (List.mem_singleton.2 rfl)).symm.trans h
    exact h
  case pstep =>
    intro i o ho a' w' l hl hr hq hsa hS hd
    match i, ho, hl, hr, hq with
    | 0, ho, hl, hr, hq =>
      obtain rfl := Option.some.inj ho
      try dsimp only at hd
      have g12 : a'.tmps.getD 12 undef = .pointer (some ad) := hsa.rest 12 (by rfl)
      have hT : ((fun (x y : Bool) (w : World) => R x y w)) false (l 11) w' := by have h := hS; rw [hq 5 (by kernel_rfl)] at h; exact h
      refine wpOp_of rfl rfl ?_
      have HT9 := hide hT
      clear hT hS
      refine op_run (v := .pointer (some ad)) (w' := w') ?_ ⟨_, rfl, ?_, (by show ((fun (x y : Bool) (w : World) => R x y w)) _ _ _; rw [updL_other l (show 5 ≠ 0 by decide), updL_other l (show 11 ≠ 0 by decide)]; rw [hq 5 (by kernel_rfl)]; exact HT9.out)⟩
      · simp only [execOp, Act.eval, g12]; first | (go_simp; done) | rfl
      · try dsimp only
        exact (slots_put (ns := 257) (hsa.size.trans rfl) (by decide))
    | 1, ho, hl, hr, hq =>
      obtain rfl := Option.some.inj ho
      try dsimp only at hd
      have g18 : a'.tmps.getD 18 undef = .pointer (some ⟨cb, 0, none⟩) := hsa.rest 18 (by rfl)
      have hT : ((fun (x y : Bool) (w : World) => R x y w)) false (l 11) w' := by have h := hS; rw [hq 5 (by kernel_rfl)] at h; exact h
      refine wpOp_of rfl rfl ?_
      have HT9 := hide hT
      clear hT hS
      refine op_run (v := .pointer (some ⟨cb, 3, none⟩)) (w' := w') ?_ ⟨_, rfl, ?_, (by show ((fun (x y : Bool) (w : World) => R x y w)) _ _ _; rw [updL_other l (show 5 ≠ 1 by decide), updL_other l (show 11 ≠ 1 by decide)]; rw [hq 5 (by kernel_rfl)]; exact HT9.out)⟩
      · simp only [execOp, Act.eval, g18]; first | (go_simp; done) | rfl
      · try dsimp only
        exact (slots_put (ns := 257) (hsa.size.trans rfl) (by decide))
    | 2, ho, hl, hr, hq =>
      obtain rfl := Option.some.inj ho
      try dsimp only at hd
      have d1 : a'.tmps.getD 169 undef = .pointer (some ⟨cb, 3, none⟩) := hd 1 (by rfl)
      have hT : ((fun (x y : Bool) (w : World) => R x y w)) false (l 11) w' := by have h := hS; rw [hq 5 (by kernel_rfl)] at h; exact h
      refine wpOp_of rfl rfl ?_
      have z : w'.cell? ⟨cb, 3, none⟩ = some (.int .i64 d.n) := box_cell (HBX.out _ _ _ hT) 3 rfl
      have HT9 := hide hT
      clear hT hS
      refine op_run (v := .int .i64 d.n) (w' := w') ?_ ⟨_, rfl, ?_, (by show ((fun (x y : Bool) (w : World) => R x y w)) _ _ _; rw [updL_other l (show 5 ≠ 2 by decide), updL_other l (show 11 ≠ 2 by decide)]; rw [hq 5 (by kernel_rfl)]; exact HT9.out)⟩
      · simp only [execOp, Act.eval, d1, z]; first | (go_simp; done) | rfl
      · try dsimp only
        exact (slots_put (ns := 257) (hsa.size.trans rfl) (by decide))
    | 3, ho, hl, hr, hq =>
      obtain rfl := Option.some.inj ho
      try dsimp only at hd
      have g18 : a'.tmps.getD 18 undef = .pointer (some ⟨cb, 0, none⟩) := hsa.rest 18 (by rfl)
      have hT : ((fun (x y : Bool) (w : World) => R x y w)) false (l 11) w' := by have h := hS; rw [hq 5 (by kernel_rfl)] at h; exact h
      refine wpOp_of rfl rfl ?_
      have HT9 := hide hT
      clear hT hS
      refine op_run (v := .pointer (some ⟨cb, 1, none⟩)) (w' := w') ?_ ⟨_, rfl, ?_, (by show ((fun (x y : Bool) (w : World) => R x y w)) _ _ _; rw [updL_other l (show 5 ≠ 3 by decide), updL_other l (show 11 ≠ 3 by decide)]; rw [hq 5 (by kernel_rfl)]; exact HT9.out)⟩
      · simp only [execOp, Act.eval, g18]; first | (go_simp; done) | rfl
      · try dsimp only
        exact (slots_put (ns := 257) (hsa.size.trans rfl) (by decide))
    | 4, ho, hl, hr, hq =>
      obtain rfl := Option.some.inj ho
      try dsimp only at hd
      have d3 : a'.tmps.getD 171 undef = .pointer (some ⟨cb, 1, none⟩) := hd 3 (by rfl)
      have hT : ((fun (x y : Bool) (w : World) => R x y w)) false (l 11) w' := by have h := hS; rw [hq 5 (by kernel_rfl)] at h; exact h
      refine wpOp_of rfl rfl ?_
      have z : w'.cell? ⟨cb, 1, none⟩ = some (.string d.s) := box_cell (HBX.out _ _ _ hT) 1 rfl
      have HT9 := hide hT
      clear hT hS
      refine op_run (v := .string d.s) (w' := w') ?_ ⟨_, rfl, ?_, (by show ((fun (x y : Bool) (w : World) => R x y w)) _ _ _; rw [updL_other l (show 5 ≠ 4 by decide), updL_other l (show 11 ≠ 4 by decide)]; rw [hq 5 (by kernel_rfl)]; exact HT9.out)⟩
      · simp only [execOp, Act.eval, d3, z]; first | (go_simp; done) | rfl
      · try dsimp only
        exact (slots_put (ns := 257) (hsa.size.trans rfl) (by decide))
    | 5, ho, hl, hr, hq =>
      obtain rfl := Option.some.inj ho
      try dsimp only at hd
      have d0 : a'.tmps.getD 168 undef = .pointer (some ad) := hd 0 (by rfl)
      have d2 : a'.tmps.getD 170 undef = .int .i64 d.n := hd 2 (by rfl)
      have d4 : a'.tmps.getD 172 undef = .string d.s := hd 4 (by rfl)
      have hT : ((fun (x y : Bool) (w : World) => R x y w)) false (l 11) w' := by have h := hS; rw [hl] at h; exact h
      refine wpOp_of rfl rfl ?_
      have HT9 := hide hT
      clear hT hS
      refine op_call 15 _ _ rfl (enters_of Try.func15 (by kernel_rfl) rfl) [.pointer (some ad), .int .i64 d.n, .string d.s] (by simp only [List.map, Act.eval, d0, d2, d4]) (HE1.out _ _ HT9.out) ?_
      rintro e w'' ⟨rfl, r1⟩
      refine ⟨_, rfl, _, rfl, (slots_put (ns := 257) (hsa.size.trans rfl) (by decide)), (by show ((fun (x y : Bool) (w : World) => R x y w)) _ _ _; rw [updL_same, updL_other l (show 11 ≠ 5 by decide)]; exact r1)⟩
    | 6, ho, hl, hr, hq =>
      obtain rfl := Option.some.inj ho
      try dsimp only at hd
      have g14 : a'.tmps.getD 14 undef = .pointer (some rd) := hsa.rest 14 (by rfl)
      have hT : ((fun (x y : Bool) (w : World) => R x y w)) (l 5) false w' := by have h := hS; rw [hq 11 (by kernel_rfl)] at h; exact h
      refine wpOp_of rfl rfl ?_
      have HT9 := hide hT
      clear hT hS
      refine op_run (v := .pointer (some rd)) (w' := w') ?_ ⟨_, rfl, ?_, (by show ((fun (x y : Bool) (w : World) => R x y w)) _ _ _; rw [updL_other l (show 5 ≠ 6 by decide), updL_other l (show 11 ≠ 6 by decide)]; rw [hq 11 (by kernel_rfl)]; exact HT9.out)⟩
      · simp only [execOp, Act.eval, g14]; first | (go_simp; done) | rfl
      · try dsimp only
        exact (slots_put (ns := 257) (hsa.size.trans rfl) (by decide))
    | 7, ho, hl, hr, hq =>
      obtain rfl := Option.some.inj ho
      try dsimp only at hd
      have g18 : a'.tmps.getD 18 undef = .pointer (some ⟨cb, 0, none⟩) := hsa.rest 18 (by rfl)
      have hT : ((fun (x y : Bool) (w : World) => R x y w)) (l 5) false w' := by have h := hS; rw [hq 11 (by kernel_rfl)] at h; exact h
      refine wpOp_of rfl rfl ?_
      have HT9 := hide hT
      clear hT hS
      refine op_run (v := .pointer (some ⟨cb, 3, none⟩)) (w' := w') ?_ ⟨_, rfl, ?_, (by show ((fun (x y : Bool) (w : World) => R x y w)) _ _ _; rw [updL_other l (show 5 ≠ 7 by decide), updL_other l (show 11 ≠ 7 by decide)]; rw [hq 11 (by kernel_rfl)]; exact HT9.out)⟩
      · simp only [execOp, Act.eval, g18]; first | (go_simp; done) | rfl
      · try dsimp only
        exact (slots_put (ns := 257) (hsa.size.trans rfl) (by decide))
    | 8, ho, hl, hr, hq =>
      obtain rfl := Option.some.inj ho
      try dsimp only at hd
      have d7 : a'.tmps.getD 175 undef = .pointer (some ⟨cb, 3, none⟩) := hd 7 (by rfl)
      have hT : ((fun (x y : Bool) (w : World) => R x y w)) (l 5) false w' := by have h := hS; rw [hq 11 (by kernel_rfl)] at h; exact h
      refine wpOp_of rfl rfl ?_
      have z : w'.cell? ⟨cb, 3, none⟩ = some (.int .i64 d.n) := box_cell (HBX.out _ _ _ hT) 3 rfl
      have HT9 := hide hT
      clear hT hS
      refine op_run (v := .int .i64 d.n) (w' := w') ?_ ⟨_, rfl, ?_, (by show ((fun (x y : Bool) (w : World) => R x y w)) _ _ _; rw [updL_other l (show 5 ≠ 8 by decide), updL_other l (show 11 ≠ 8 by decide)]; rw [hq 11 (by kernel_rfl)]; exact HT9.out)⟩
      · simp only [execOp, Act.eval, d7, z]; first | (go_simp; done) | rfl
      · try dsimp only
        exact (slots_put (ns := 257) (hsa.size.trans rfl) (by decide))
    | 9, ho, hl, hr, hq =>
      obtain rfl := Option.some.inj ho
      try dsimp only at hd
      have g18 : a'.tmps.getD 18 undef = .pointer (some ⟨cb, 0, none⟩) := hsa.rest 18 (by rfl)
      have hT : ((fun (x y : Bool) (w : World) => R x y w)) (l 5) false w' := by have h := hS; rw [hq 11 (by kernel_rfl)] at h; exact h
      refine wpOp_of rfl rfl ?_
      have HT9 := hide hT
      clear hT hS
      refine op_run (v := .pointer (some ⟨cb, 1, none⟩)) (w' := w') ?_ ⟨_, rfl, ?_, (by show ((fun (x y : Bool) (w : World) => R x y w)) _ _ _; rw [updL_other l (show 5 ≠ 9 by decide), updL_other l (show 11 ≠ 9 by decide)]; rw [hq 11 (by kernel_rfl)]; exact HT9.out)⟩
      · simp only [execOp, Act.eval, g18]; first | (go_simp; done) | rfl
      · try dsimp only
        exact (slots_put (ns := 257) (hsa.size.trans rfl) (by decide))
    | 10, ho, hl, hr, hq =>
      obtain rfl := Option.some.inj ho
      try dsimp only at hd
      have d9 : a'.tmps.getD 177 undef = .pointer (some ⟨cb, 1, none⟩) := hd 9 (by rfl)
      have hT : ((fun (x y : Bool) (w : World) => R x y w)) (l 5) false w' := by have h := hS; rw [hq 11 (by kernel_rfl)] at h; exact h
      refine wpOp_of rfl rfl ?_
      have z : w'.cell? ⟨cb, 1, none⟩ = some (.string d.s) := box_cell (HBX.out _ _ _ hT) 1 rfl
      have HT9 := hide hT
      clear hT hS
      refine op_run (v := .string d.s) (w' := w') ?_ ⟨_, rfl, ?_, (by show ((fun (x y : Bool) (w : World) => R x y w)) _ _ _; rw [updL_other l (show 5 ≠ 10 by decide), updL_other l (show 11 ≠ 10 by decide)]; rw [hq 11 (by kernel_rfl)]; exact HT9.out)⟩
      · simp only [execOp, Act.eval, d9, z]; first | (go_simp; done) | rfl
      · try dsimp only
        exact (slots_put (ns := 257) (hsa.size.trans rfl) (by decide))
    | 11, ho, hl, hr, hq =>
      obtain rfl := Option.some.inj ho
      try dsimp only at hd
      have d6 : a'.tmps.getD 174 undef = .pointer (some rd) := hd 6 (by rfl)
      have d8 : a'.tmps.getD 176 undef = .int .i64 d.n := hd 8 (by rfl)
      have d10 : a'.tmps.getD 178 undef = .string d.s := hd 10 (by rfl)
      have hT : ((fun (x y : Bool) (w : World) => R x y w)) (l 5) false w' := by have h := hS; rw [hl] at h; exact h
      refine wpOp_of rfl rfl ?_
      have HT9 := hide hT
      clear hT hS
      refine op_call 16 _ _ rfl (enters_of Try.func16 (by kernel_rfl) rfl) [.pointer (some rd), .int .i64 d.n, .string d.s] (by simp only [List.map, Act.eval, d6, d8, d10]) (HE2.out _ _ HT9.out) ?_
      rintro e w'' ⟨rfl, r1⟩
      refine ⟨_, rfl, _, rfl, (slots_put (ns := 257) (hsa.size.trans rfl) (by decide)), (by show ((fun (x y : Bool) (w : World) => R x y w)) _ _ _; rw [updL_other l (show 5 ≠ 11 by decide), updL_same]; exact r1)⟩
    | 12, ho, hl, hr, hq =>
      obtain rfl := Option.some.inj ho
      try dsimp only at hd
      have d5 : a'.tmps.getD 173 undef = .bool r := hd 5 (by rfl)
      have d11 : a'.tmps.getD 179 undef = .bool r := hd 11 (by rfl)
      have hT : ((fun (x y : Bool) (w : World) => R x y w)) true true w' := by have h := hS; rw [hr 5 (by kernel_rfl), hr 11 (by kernel_rfl)] at h; exact h
      refine wpOp_of rfl rfl ?_
      have HT9 := hide hT
      clear hT hS
      refine op_run (v := .bool (decide (r = r))) (w' := w') ?_ ⟨_, rfl, ?_, (by show ((fun (x y : Bool) (w : World) => R x y w)) _ _ _; rw [updL_other l (show 5 ≠ 12 by decide), updL_other l (show 11 ≠ 12 by decide)]; rw [hr 5 (by kernel_rfl), hr 11 (by kernel_rfl)]; exact HT9.out)⟩
      · simp only [execOp, Act.eval, d5, d11]; first | (go_simp; done) | rfl
      · try dsimp only
        exact (slots_put (ns := 257) (hsa.size.trans rfl) (by decide))
    | 13, ho, hl, hr, hq =>
      obtain rfl := Option.some.inj ho
      try dsimp only at hd
      have d12 : a'.tmps.getD 180 undef = .bool (decide (r = r)) := hd 12 (by rfl)
      have hT : ((fun (x y : Bool) (w : World) => R x y w)) true true w' := by have h := hS; rw [hr 5 (by kernel_rfl), hr 11 (by kernel_rfl)] at h; exact h
      refine wpOp_of rfl rfl ?_
      have HT9 := hide hT
      clear hT hS
      refine op_run (v := .bool (decide (r = r))) (w' := w') ?_ ⟨_, rfl, ?_, (by show ((fun (x y : Bool) (w : World) => R x y w)) _ _ _; rw [updL_other l (show 5 ≠ 13 by decide), updL_other l (show 11 ≠ 13 by decide)]; rw [hr 5 (by kernel_rfl), hr 11 (by kernel_rfl)]; exact HT9.out)⟩
      · simp only [execOp, Act.eval, d12]; first | (go_simp; done) | rfl
      · try dsimp only
        exact (slots_put (ns := 257) (hsa.size.trans rfl) (by decide))
    | (n + 14), ho, _, _, _ => exact absurd ho (by simp)
  case pdone =>
    intro a' w' l hl hsa hS hd
    have hT : ((fun (x y : Bool) (w : World) => R x y w)) true true w' := by have h := hS; rw [hl 5 (by decide), hl 11 (by decide)] at h; exact h
    have d0 : a'.tmps.getD 168 undef = .pointer (some ad) := hd 0 (by decide)
    have d1 : a'.tmps.getD 169 undef = .pointer (some ⟨cb, 3, none⟩) := hd 1 (by decide)
    have d2 : a'.tmps.getD 170 undef = .int .i64 d.n := hd 2 (by decide)
    have d3 : a'.tmps.getD 171 undef = .pointer (some ⟨cb, 1, none⟩) := hd 3 (by decide)
    have d4 : a'.tmps.getD 172 undef = .string d.s := hd 4 (by decide)
    have d5 : a'.tmps.getD 173 undef = .bool r := hd 5 (by decide)
    have d6 : a'.tmps.getD 174 undef = .pointer (some rd) := hd 6 (by decide)
    have d7 : a'.tmps.getD 175 undef = .pointer (some ⟨cb, 3, none⟩) := hd 7 (by decide)
    have d8 : a'.tmps.getD 176 undef = .int .i64 d.n := hd 8 (by decide)
    have d9 : a'.tmps.getD 177 undef = .pointer (some ⟨cb, 1, none⟩) := hd 9 (by decide)
    have d10 : a'.tmps.getD 178 undef = .string d.s := hd 10 (by decide)
    have d11 : a'.tmps.getD 179 undef = .bool r := hd 11 (by decide)
    have d12 : a'.tmps.getD 180 undef = .bool (decide (r = r)) := hd 12 (by decide)
    have d13 : a'.tmps.getD 19 undef = .bool (decide (r = r)) := hd 13 (by decide)
    exact HQ.out a' w' ⟨hsa.size.trans rfl, hsa.defers.trans rfl, hsa.rest 0 (by rfl), hsa.rest 1 (by rfl), hsa.rest 2 (by rfl), hsa.rest 3 (by rfl), hsa.rest 8 (by rfl), hsa.rest 9 (by rfl), hsa.rest 10 (by rfl), hsa.rest 11 (by rfl), hsa.rest 12 (by rfl), hsa.rest 13 (by rfl), hsa.rest 14 (by rfl), hsa.rest 15 (by rfl), hsa.rest 16 (by rfl), hsa.rest 17 (by rfl), hsa.rest 18 (by rfl), (d13.trans (by simp)), hsa.rest 20 (by rfl), hsa.rest 21 (by rfl), hsa.rest 22 (by rfl), hsa.rest 23 (by rfl), hsa.rest 24 (by rfl), hsa.rest 25 (by rfl), hsa.rest 26 (by rfl), hsa.rest 27 (by rfl), hsa.rest 28 (by rfl), hsa.rest 29 (by rfl), hsa.rest 30 (by rfl), hsa.rest 31 (by rfl), hsa.rest 106 (by rfl)⟩ hT
set_option maxHeartbeats 8000000 in
set_option maxRecDepth 100000 in
theorem pl_r38 {K : Act → World → Prop} {c : Code} (hc : regOf (Try.f3.body.getD .skip) 38 = some c) (a : Act) {v : Vpl} {wq : World} {R : Bool → Bool → World → Prop} {cb : Nat} {d : DE} {ad rd : Addr} {r : Bool} (hF : Fpl a v) (h12v : v.v12 = .pointer (some ad)) (h14v : v.v14 = .pointer (some rd)) (h18v : v.v18 = .pointer (some ⟨cb, 0, none⟩)) (hbx : ∀ x y W, R x y W → W.heap[cb]? = some (.cells #[.int .i64 d.kind, .string d.s, .int .i64 d.node, .int .i64 d.n] 33 (0, 0))) (h0 : R false false wq.drew)
    (hE1 : ∀ y W, R false y W → Calls Try.prog 17 #[.pointer (some ad), .int .i64 d.node, .int .i64 d.n] W fun e w' => e = .returned (.bool r) ∧ R true y w') (hE2 : ∀ x W, R x false W → Calls Try.prog 18 #[.pointer (some rd), .int .i64 d.node, .int .i64 d.n] W fun e w' => e = .returned (.bool r) ∧ R x true w')
    (hQ : ∀ a' w1, Fpl a' { v with v19 := .bool true } → R true true w1 → K a' w1) :
    Code.wp Try.prog c (Exit.then K fun _ _ _ => False) a wq := by
  have HQ := hide hQ
  clear hQ
  obtain ⟨t', d'⟩ := a
  obtain ⟨v0, v1, v2, v3, v8, v9, v10, v11, v12, v13, v14, v15, v16, v17, v18, v19, v20, v21, v22, v23, v24, v25, v26, v27, v28, v29, v30, v31, v106⟩ := v
  simp only at h12v h14v h18v HQ
  subst h12v h14v h18v
  obtain ⟨hs1, hd1, q0, q1, q2, q3, q8, q9, q10, q11, q12, q13, q14, q15, q16, q17, q18, q19, q20, q21, q22, q23, q24, q25, q26, q27, q28, q29, q30, q31, q106⟩ := hF
  obtain ⟨u, hu⟩ := frame_pl t' hs1
  simp only at hd1 q0 q1 q2 q3 q8 q9 q10 q11 q12 q13 q14 q15 q16 q17 q18 q19 q20 q21 q22 q23 q24 q25 q26 q27 q28 q29 q30 q31 q106
  subst hu hd1
  have e0 : u 0 = v0 := q0
  have e1 : u 1 = v1 := q1
  have e2 : u 2 = v2 := q2
  have e3 : u 3 = v3 := q3
  have e8 : u 8 = v8 := q8
  have e9 : u 9 = v9 := q9
  have e10 : u 10 = v10 := q10
  have e11 : u 11 = v11 := q11
  have e12 : u 12 = .pointer (some ad) := q12
  have e13 : u 13 = v13 := q13
  have e14 : u 14 = .pointer (some rd) := q14
  have e15 : u 15 = v15 := q15
  have e16 : u 16 = v16 := q16
  have e17 : u 17 = v17 := q17
  have e18 : u 18 = .pointer (some ⟨cb, 0, none⟩) := q18
  have e19 : u 19 = v19 := q19
  have e20 : u 20 = v20 := q20
  have e21 : u 21 = v21 := q21
  have e22 : u 22 = v22 := q22
  have e23 : u 23 = v23 := q23
  have e24 : u 24 = v24 := q24
  have e25 : u 25 = v25 := q25
  have e26 : u 26 = v26 := q26
  have e27 : u 27 = v27 := q27
  have e28 : u 28 = v28 := q28
  have e29 : u 29 = v29 := q29
  have e30 : u 30 = v30 := q30
  have e31 : u 31 = v31 := q31
  have e106 : u 106 = v106 := q106
  rw [e0, e1, e2, e3, e8, e9, e10, e11, e12, e13, e14, e15, e16, e17, e18, e19, e20, e21, e22, e23, e24, e25, e26, e27, e28, e29, e30, e31, e106]
  clear q0 e0 q1 e1 q2 e2 q3 e3 q8 e8 q9 e9 q10 e10 q11 e11 q12 e12 q13 e13 q14 e14 q15 e15 q16 e16 q17 e17 q18 e18 q19 e19 q20 e20 q21 e21 q22 e22 q23 e23 q24 e24 q25 e25 q26 e26 q27 e27 q28 e28 q29 e29 q30 e30 q31 e31 q106 e106 hs1
  simp only [Try.f3, Option.getD_some, regOf] at hc
  injection hc with hc
  subst hc
  have HBX := hide hbx
  have H0 := hide h0
  have HE1 := hide hE1
  have HE2 := hide hE2
  clear hbx h0 hE1 hE2
  refine wp_region_any rfl ?_
  refine wpAny_staged (ns := 257) (uses := (fun i => match i with | 0 => [183] | 1 => [184] | 2 => [185] | 3 => [186] | 4 => [187] | 5 => [188] | 6 => [189] | 7 => [190] | 8 => [191] | 9 => [192] | 10 => [193] | 11 => [194] | 12 => [195] | 13 => [19] | _ => [])) (by kernel_rfl) (by kernel_rfl) (fun l a w => ((fun (x y : Bool) (w : World) => R x y w)) (l 5) (l 11) w) H0.out (fun i => match i with | 0 => fun σ => σ 183 = .pointer (some ad) | 1 => fun σ => σ 184 = .pointer (some ⟨cb, 2, none⟩) | 2 => fun σ => σ 185 = .int .i64 d.node | 3 => fun σ => σ 186 = .pointer (some ⟨cb, 3, none⟩) | 4 => fun σ => σ 187 = .int .i64 d.n | 5 => fun σ => σ 188 = .bool r | 6 => fun σ => σ 189 = .pointer (some rd) | 7 => fun σ => σ 190 = .pointer (some ⟨cb, 2, none⟩) | 8 => fun σ => σ 191 = .int .i64 d.node | 9 => fun σ => σ 192 = .pointer (some ⟨cb, 3, none⟩) | 10 => fun σ => σ 193 = .int .i64 d.n | 11 => fun σ => σ 194 = .bool r | 12 => fun σ => σ 195 = .bool (decide (r = r)) | 13 => fun σ => σ 19 = .bool (decide (r = r)) | _ => fun _ => True) ?phc ?pstep ?pdone
  case phc =>
    intro i s s' hx h
    rcases i with _ | i; · exact (hx _ (List.mem_singleton.2 rfl)).symm.trans h
    rcases i with _ | i; · exact (hx _ (List.mem_singleton.2 rfl)).symm.trans h
    rcases i with _ | i; · exact (hx _ (List.mem_singleton.2 rfl)).symm.trans h
    rcases i with _ | i; · exact (hx _ (List.mem_singleton.2 rfl)).symm.trans h
    rcases i with _ | i; · exact (hx _ (List.mem_singleton.2 rfl)).symm.trans h
    rcases i with _ | i; · exact (hx _ (List.mem_singleton.2 rfl)).symm.trans h
    rcases i with _ | i; · exact (hx _ (List.mem_singleton.2 rfl)).symm.trans h
    rcases i with _ | i; · exact (hx _ (List.mem_singleton.2 rfl)).symm.trans h
    rcases i with _ | i; · exact (hx _ (List.mem_singleton.2 rfl)).symm.trans h
    rcases i with _ | i; · exact (hx _ (List.mem_singleton.2 rfl)).symm.trans h
    rcases i with _ | i; · exact (hx _ (List.mem_singleton.2 rfl)).symm.trans h
    rcases i with _ | i; · exact (hx _ (List.mem_singleton.2 rfl)).symm.trans h
    rcases i with _ | i; · exact (hx _ (List.mem_singleton.2 rfl)).symm.trans h
    rcases i with _ | i; · exact (hx _ (List.mem_singleton.2 rfl)).symm.trans h
    exact h
  case pstep =>
    intro i o ho a' w' l hl hr hq hsa hS hd
    match i, ho, hl, hr, hq with
    | 0, ho, hl, hr, hq =>
      obtain rfl := Option.some.inj ho
      try dsimp only at hd
      have g12 : a'.tmps.getD 12 undef = .pointer (some ad) := hsa.rest 12 (by rfl)
      have hT : ((fun (x y : Bool) (w : World) => R x y w)) false (l 11) w' := by have h := hS; rw [hq 5 (by kernel_rfl)] at h; exact h
      refine wpOp_of rfl rfl ?_
      have HT9 := hide hT
      clear hT hS
      refine op_run (v := .pointer (some ad)) (w' := w') ?_ ⟨_, rfl, ?_, (by show ((fun (x y : Bool) (w : World) => R x y w)) _ _ _; rw [updL_other l (show 5 ≠ 0 by decide), updL_other l (show 11 ≠ 0 by decide)]; rw [hq 5 (by kernel_rfl)]; exact HT9.out)⟩
      · simp only [execOp, Act.eval, g12]; first | (go_simp; done) | rfl
      · try dsimp only
        exact (slots_put (ns := 257) (hsa.size.trans rfl) (by decide))
    | 1, ho, hl, hr, hq =>
      obtain rfl := Option.some.inj ho
      try dsimp only at hd
      have g18 : a'.tmps.getD 18 undef = .pointer (some ⟨cb, 0, none⟩) := hsa.rest 18 (by rfl)
      have hT : ((fun (x y : Bool) (w : World) => R x y w)) false (l 11) w' := by have h := hS; rw [hq 5 (by kernel_rfl)] at h; exact h
      refine wpOp_of rfl rfl ?_
      have HT9 := hide hT
      clear hT hS
      refine op_run (v := .pointer (some ⟨cb, 2, none⟩)) (w' := w') ?_ ⟨_, rfl, ?_, (by show ((fun (x y : Bool) (w : World) => R x y w)) _ _ _; rw [updL_other l (show 5 ≠ 1 by decide), updL_other l (show 11 ≠ 1 by decide)]; rw [hq 5 (by kernel_rfl)]; exact HT9.out)⟩
      · simp only [execOp, Act.eval, g18]; first | (go_simp; done) | rfl
      · try dsimp only
        exact (slots_put (ns := 257) (hsa.size.trans rfl) (by decide))
    | 2, ho, hl, hr, hq =>
      obtain rfl := Option.some.inj ho
      try dsimp only at hd
      have d1 : a'.tmps.getD 184 undef = .pointer (some ⟨cb, 2, none⟩) := hd 1 (by rfl)
      have hT : ((fun (x y : Bool) (w : World) => R x y w)) false (l 11) w' := by have h := hS; rw [hq 5 (by kernel_rfl)] at h; exact h
      refine wpOp_of rfl rfl ?_
      have z : w'.cell? ⟨cb, 2, none⟩ = some (.int .i64 d.node) := box_cell (HBX.out _ _ _ hT) 2 rfl
      have HT9 := hide hT
      clear hT hS
      refine op_run (v := .int .i64 d.node) (w' := w') ?_ ⟨_, rfl, ?_, (by show ((fun (x y : Bool) (w : World) => R x y w)) _ _ _; rw [updL_other l (show 5 ≠ 2 by decide), updL_other l (show 11 ≠ 2 by decide)]; rw [hq 5 (by kernel_rfl)]; exact HT9.out)⟩
      · simp only [execOp, Act.eval, d1, z]; first | (go_simp; done) | rfl
      · try dsimp only
        exact (slots_put (ns := 257) (hsa.size.trans rfl) (by decide))
    | 3, ho, hl, hr, hq =>
      obtain rfl := Option.some.inj ho
      try dsimp only at hd
      have g18 : a'.tmps.getD 18 undef = .pointer (some ⟨cb, 0, none⟩) := hsa.rest 18 (by rfl)
      have hT : ((fun (x y : Bool) (w : World) => R x y w)) false (l 11) w' := by have h := hS; rw [hq 5 (by kernel_rfl)] at h; exact h
      refine wpOp_of rfl rfl ?_
      have HT9 := hide hT
      clear hT hS
      refine op_run (v := .pointer (some ⟨cb, 3, none⟩)) (w' := w') ?_ ⟨_, rfl, ?_, (by show ((fun (x y : Bool) (w : World) => R x y w)) _ _ _; rw [updL_other l (show 5 ≠ 3 by decide), updL_other l (show 11 ≠ 3 by decide)]; rw [hq 5 (by kernel_rfl)]; exact HT9.out)⟩
      · simp only [execOp, Act.eval, g18]; first | (go_simp; done) | rfl
      · try dsimp only
        exact (slots_put (ns := 257) (hsa.size.trans rfl) (by decide))
    | 4, ho, hl, hr, hq =>
      obtain rfl := Option.some.inj ho
      try dsimp only at hd
      have d3 : a'.tmps.getD 186 undef = .pointer (some ⟨cb, 3, none⟩) := hd 3 (by rfl)
      have hT : ((fun (x y : Bool) (w : World) => R x y w)) false (l 11) w' := by have h := hS; rw [hq 5 (by kernel_rfl)] at h; exact h
      refine wpOp_of rfl rfl ?_
      have z : w'.cell? ⟨cb, 3, none⟩ = some (.int .i64 d.n) := box_cell (HBX.out _ _ _ hT) 3 rfl
      have HT9 := hide hT
      clear hT hS
      refine op_run (v := .int .i64 d.n) (w' := w') ?_ ⟨_, rfl, ?_, (by show ((fun (x y : Bool) (w : World) => R x y w)) _ _ _; rw [updL_other l (show 5 ≠ 4 by decide), updL_other l (show 11 ≠ 4 by decide)]; rw [hq 5 (by kernel_rfl)]; exact HT9.out)⟩
      · simp only [execOp, Act.eval, d3, z]; first | (go_simp; done) | rfl
      · try dsimp only
        exact (slots_put (ns := 257) (hsa.size.trans rfl) (by decide))
    | 5, ho, hl, hr, hq =>
      obtain rfl := Option.some.inj ho
      try dsimp only at hd
      have d0 : a'.tmps.getD 183 undef = .pointer (some ad) := hd 0 (by rfl)
      have d2 : a'.tmps.getD 185 undef = .int .i64 d.node := hd 2 (by rfl)
      have d4 : a'.tmps.getD 187 undef = .int .i64 d.n := hd 4 (by rfl)
      have hT : ((fun (x y : Bool) (w : World) => R x y w)) false (l 11) w' := by have h := hS; rw [hl] at h; exact h
      refine wpOp_of rfl rfl ?_
      have HT9 := hide hT
      clear hT hS
      refine op_call 17 _ _ rfl (enters_of Try.func17 (by kernel_rfl) rfl) [.pointer (some ad), .int .i64 d.node, .int .i64 d.n] (by simp only [List.map, Act.eval, d0, d2, d4]) (HE1.out _ _ HT9.out) ?_
      rintro e w'' ⟨rfl, r1⟩
      refine ⟨_, rfl, _, rfl, (slots_put (ns := 257) (hsa.size.trans rfl) (by decide)), (by show ((fun (x y : Bool) (w : World) => R x y w)) _ _ _; rw [updL_same, updL_other l (show 11 ≠ 5 by decide)]; exact r1)⟩
    | 6, ho, hl, hr, hq =>
      obtain rfl := Option.some.inj ho
      try dsimp only at hd
      have g14 : a'.tmps.getD 14 undef = .pointer (some rd) := hsa.rest 14 (by rfl)
      have hT : ((fun (x y : Bool) (w : World) => R x y w)) (l 5) false w' := by have h := hS; rw [hq 11 (by kernel_rfl)] at h; exact h
      refine wpOp_of rfl rfl ?_
      have HT9 := hide hT
      clear hT hS
      refine op_run (v := .pointer (some rd)) (w' := w') ?_ ⟨_, rfl, ?_, (by show ((fun (x y : Bool) (w : World) => R x y w)) _ _ _; rw [updL_other l (show 5 ≠ 6 by decide), updL_other l (show 11 ≠ 6 by decide)]; rw [hq 11 (by kernel_rfl)]; exact HT9.out)⟩
      · simp only [execOp, Act.eval, g14]; first | (go_simp; done) | rfl
      · try dsimp only
        exact (slots_put (ns := 257) (hsa.size.trans rfl) (by decide))
    | 7, ho, hl, hr, hq =>
      obtain rfl := Option.some.inj ho
      try dsimp only at hd
      have g18 : a'.tmps.getD 18 undef = .pointer (some ⟨cb, 0, none⟩) := hsa.rest 18 (by rfl)
      have hT : ((fun (x y : Bool) (w : World) => R x y w)) (l 5) false w' := by have h := hS; rw [hq 11 (by kernel_rfl)] at h; exact h
      refine wpOp_of rfl rfl ?_
      have HT9 := hide hT
      clear hT hS
      refine op_run (v := .pointer (some ⟨cb, 2, none⟩)) (w' := w') ?_ ⟨_, rfl, ?_, (by show ((fun (x y : Bool) (w : World) => R x y w)) _ _ _; rw [updL_other l (show 5 ≠ 7 by decide), updL_other l (show 11 ≠ 7 by decide)]; rw [hq 11 (by kernel_rfl)]; exact HT9.out)⟩
      · simp only [execOp, Act.eval, g18]; first | (go_simp; done) | rfl
      · try dsimp only
        exact (slots_put (ns := 257) (hsa.size.trans rfl) (by decide))
    | 8, ho, hl, hr, hq =>
      obtain rfl := Option.some.inj ho
      try dsimp only at hd
      have d7 : a'.tmps.getD 190 undef = .pointer (some ⟨cb, 2, none⟩) := hd 7 (by rfl)
      have hT : ((fun (x y : Bool) (w : World) => R x y w)) (l 5) false w' := by have h := hS; rw [hq 11 (by kernel_rfl)] at h; exact h
      refine wpOp_of rfl rfl ?_
      have z : w'.cell? ⟨cb, 2, none⟩ = some (.int .i64 d.node) := box_cell (HBX.out _ _ _ hT) 2 rfl
      have HT9 := hide hT
      clear hT hS
      refine op_run (v := .int .i64 d.node) (w' := w') ?_ ⟨_, rfl, ?_, (by show ((fun (x y : Bool) (w : World) => R x y w)) _ _ _; rw [updL_other l (show 5 ≠ 8 by decide), updL_other l (show 11 ≠ 8 by decide)]; rw [hq 11 (by kernel_rfl)]; exact HT9.out)⟩
      · simp only [execOp, Act.eval, d7, z]; first | (go_simp; done) | rfl
      · try dsimp only
        exact (slots_put (ns := 257) (hsa.size.trans rfl) (by decide))
    | 9, ho, hl, hr, hq =>
      obtain rfl := Option.some.inj ho
      try dsimp only at hd
      have g18 : a'.tmps.getD 18 undef = .pointer (some ⟨cb, 0, none⟩) := hsa.rest 18 (by rfl)
      have hT : ((fun (x y : Bool) (w : World) => R x y w)) (l 5) false w' := by have h := hS; rw [hq 11 (by kernel_rfl)] at h; exact h
      refine wpOp_of rfl rfl ?_
      have HT9 := hide hT
      clear hT hS
      refine op_run (v := .pointer (some ⟨cb, 3, none⟩)) (w' := w') ?_ ⟨_, rfl, ?_, (by show ((fun (x y : Bool) (w : World) => R x y w)) _ _ _; rw [updL_other l (show 5 ≠ 9 by decide), updL_other l (show 11 ≠ 9 by decide)]; rw [hq 11 (by kernel_rfl)]; exact HT9.out)⟩
      · simp only [execOp, Act.eval, g18]; first | (go_simp; done) | rfl
      · try dsimp only
        exact (slots_put (ns := 257) (hsa.size.trans rfl) (by decide))
    | 10, ho, hl, hr, hq =>
      obtain rfl := Option.some.inj ho
      try dsimp only at hd
      have d9 : a'.tmps.getD 192 undef = .pointer (some ⟨cb, 3, none⟩) := hd 9 (by rfl)
      have hT : ((fun (x y : Bool) (w : World) => R x y w)) (l 5) false w' := by have h := hS; rw [hq 11 (by kernel_rfl)] at h; exact h
      refine wpOp_of rfl rfl ?_
      have z : w'.cell? ⟨cb, 3, none⟩ = some (.int .i64 d.n) := box_cell (HBX.out _ _ _ hT) 3 rfl
      have HT9 := hide hT
      clear hT hS
      refine op_run (v := .int .i64 d.n) (w' := w') ?_ ⟨_, rfl, ?_, (by show ((fun (x y : Bool) (w : World) => R x y w)) _ _ _; rw [updL_other l (show 5 ≠ 10 by decide), updL_other l (show 11 ≠ 10 by decide)]; rw [hq 11 (by kernel_rfl)]; exact HT9.out)⟩
      · simp only [execOp, Act.eval, d9, z]; first | (go_simp; done) | rfl
      · try dsimp only
        exact (slots_put (ns := 257) (hsa.size.trans rfl) (by decide))
    | 11, ho, hl, hr, hq =>
      obtain rfl := Option.some.inj ho
      try dsimp only at hd
      have d6 : a'.tmps.getD 189 undef = .pointer (some rd) := hd 6 (by rfl)
      have d8 : a'.tmps.getD 191 undef = .int .i64 d.node := hd 8 (by rfl)
      have d10 : a'.tmps.getD 193 undef = .int .i64 d.n := hd 10 (by rfl)
      have hT : ((fun (x y : Bool) (w : World) => R x y w)) (l 5) false w' := by have h := hS; rw [hl] at h; exact h
      refine wpOp_of rfl rfl ?_
      have HT9 := hide hT
      clear hT hS
      refine op_call 18 _ _ rfl (enters_of Try.func18 (by kernel_rfl) rfl) [.pointer (some rd), .int .i64 d.node, .int .i64 d.n] (by simp only [List.map, Act.eval, d6, d8, d10]) (HE2.out _ _ HT9.out) ?_
      rintro e w'' ⟨rfl, r1⟩
      refine ⟨_, rfl, _, rfl, (slots_put (ns := 257) (hsa.size.trans rfl) (by decide)), (by show ((fun (x y : Bool) (w : World) => R x y w)) _ _ _; rw [updL_other l (show 5 ≠ 11 by decide), updL_same]; exact r1)⟩
    | 12, ho, hl, hr, hq =>
      obtain rfl := Option.some.inj ho
      try dsimp only at hd
      have d5 : a'.tmps.getD 188 undef = .bool r := hd 5 (by rfl)
      have d11 : a'.tmps.getD 194 undef = .bool r := hd 11 (by rfl)
      have hT : ((fun (x y : Bool) (w : World) => R x y w)) true true w' := by have h := hS; rw [hr 5 (by kernel_rfl), hr 11 (by kernel_rfl)] at h; exact h
      refine wpOp_of rfl rfl ?_
      have HT9 := hide hT
      clear hT hS
      refine op_run (v := .bool (decide (r = r))) (w' := w') ?_ ⟨_, rfl, ?_, (by show ((fun (x y : Bool) (w : World) => R x y w)) _ _ _; rw [updL_other l (show 5 ≠ 12 by decide), updL_other l (show 11 ≠ 12 by decide)]; rw [hr 5 (by kernel_rfl), hr 11 (by kernel_rfl)]; exact HT9.out)⟩
      · simp only [execOp, Act.eval, d5, d11]; first | (go_simp; done) | rfl
      · try dsimp only
        exact (slots_put (ns := 257) (hsa.size.trans rfl) (by decide))
    | 13, ho, hl, hr, hq =>
      obtain rfl := Option.some.inj ho
      try dsimp only at hd
      have d12 : a'.tmps.getD 195 undef = .bool (decide (r = r)) := hd 12 (by rfl)
      have hT : ((fun (x y : Bool) (w : World) => R x y w)) true true w' := by have h := hS; rw [hr 5 (by kernel_rfl), hr 11 (by kernel_rfl)] at h; exact h
      refine wpOp_of rfl rfl ?_
      have HT9 := hide hT
      clear hT hS
      refine op_run (v := .bool (decide (r = r))) (w' := w') ?_ ⟨_, rfl, ?_, (by show ((fun (x y : Bool) (w : World) => R x y w)) _ _ _; rw [updL_other l (show 5 ≠ 13 by decide), updL_other l (show 11 ≠ 13 by decide)]; rw [hr 5 (by kernel_rfl), hr 11 (by kernel_rfl)]; exact HT9.out)⟩
      · simp only [execOp, Act.eval, d12]; first | (go_simp; done) | rfl
      · try dsimp only
        exact (slots_put (ns := 257) (hsa.size.trans rfl) (by decide))
    | (n + 14), ho, _, _, _ => exact absurd ho (by simp)
  case pdone =>
    intro a' w' l hl hsa hS hd
    have hT : ((fun (x y : Bool) (w : World) => R x y w)) true true w' := by have h := hS; rw [hl 5 (by decide), hl 11 (by decide)] at h; exact h
    have d0 : a'.tmps.getD 183 undef = .pointer (some ad) := hd 0 (by decide)
    have d1 : a'.tmps.getD 184 undef = .pointer (some ⟨cb, 2, none⟩) := hd 1 (by decide)
    have d2 : a'.tmps.getD 185 undef = .int .i64 d.node := hd 2 (by decide)
    have d3 : a'.tmps.getD 186 undef = .pointer (some ⟨cb, 3, none⟩) := hd 3 (by decide)
    have d4 : a'.tmps.getD 187 undef = .int .i64 d.n := hd 4 (by decide)
    have d5 : a'.tmps.getD 188 undef = .bool r := hd 5 (by decide)
    have d6 : a'.tmps.getD 189 undef = .pointer (some rd) := hd 6 (by decide)
    have d7 : a'.tmps.getD 190 undef = .pointer (some ⟨cb, 2, none⟩) := hd 7 (by decide)
    have d8 : a'.tmps.getD 191 undef = .int .i64 d.node := hd 8 (by decide)
    have d9 : a'.tmps.getD 192 undef = .pointer (some ⟨cb, 3, none⟩) := hd 9 (by decide)
    have d10 : a'.tmps.getD 193 undef = .int .i64 d.n := hd 10 (by decide)
    have d11 : a'.tmps.getD 194 undef = .bool r := hd 11 (by decide)
    have d12 : a'.tmps.getD 195 undef = .bool (decide (r = r)) := hd 12 (by decide)
    have d13 : a'.tmps.getD 19 undef = .bool (decide (r = r)) := hd 13 (by decide)
    exact HQ.out a' w' ⟨hsa.size.trans rfl, hsa.defers.trans rfl, hsa.rest 0 (by rfl), hsa.rest 1 (by rfl), hsa.rest 2 (by rfl), hsa.rest 3 (by rfl), hsa.rest 8 (by rfl), hsa.rest 9 (by rfl), hsa.rest 10 (by rfl), hsa.rest 11 (by rfl), hsa.rest 12 (by rfl), hsa.rest 13 (by rfl), hsa.rest 14 (by rfl), hsa.rest 15 (by rfl), hsa.rest 16 (by rfl), hsa.rest 17 (by rfl), hsa.rest 18 (by rfl), (d13.trans (by simp)), hsa.rest 20 (by rfl), hsa.rest 21 (by rfl), hsa.rest 22 (by rfl), hsa.rest 23 (by rfl), hsa.rest 24 (by rfl), hsa.rest 25 (by rfl), hsa.rest 26 (by rfl), hsa.rest 27 (by rfl), hsa.rest 28 (by rfl), hsa.rest 29 (by rfl), hsa.rest 30 (by rfl), hsa.rest 31 (by rfl), hsa.rest 106 (by rfl)⟩ hT
set_option maxHeartbeats 8000000 in
set_option maxRecDepth 100000 in
theorem pl_r40 {K : Act → World → Prop} {c : Code} (hc : regOf (Try.f3.body.getD .skip) 40 = some c) (a : Act) {v : Vpl} {wq : World} {R : Bool → Bool → World → Prop} {cb : Nat} {d : DE} {ad rd : Addr} {r : Bool} (hF : Fpl a v) (h12v : v.v12 = .pointer (some ad)) (h14v : v.v14 = .pointer (some rd)) (h18v : v.v18 = .pointer (some ⟨cb, 0, none⟩)) (hbx : ∀ x y W, R x y W → W.heap[cb]? = some (.cells #[.int .i64 d.kind, .string d.s, .int .i64 d.node, .int .i64 d.n] 33 (0, 0))) (h0 : R false false wq.drew)
    (hE1 : ∀ y W, R false y W → Calls Try.prog 19 #[.pointer (some ad), .int .i64 d.n] W fun e w' => e = .returned (.bool r) ∧ R true y w') (hE2 : ∀ x W, R x false W → Calls Try.prog 20 #[.pointer (some rd), .int .i64 d.n] W fun e w' => e = .returned (.bool r) ∧ R x true w')
    (hQ : ∀ a' w1, Fpl a' { v with v19 := .bool true } → R true true w1 → K a' w1) :
    Code.wp Try.prog c (Exit.then K fun _ _ _ => False) a wq := by
  have HQ := hide hQ
  clear hQ
  obtain ⟨t', d'⟩ := a
  obtain ⟨v0, v1, v2, v3, v8, v9, v10, v11, v12, v13, v14, v15, v16, v17, v18, v19, v20, v21, v22, v23, v24, v25, v26, v27, v28, v29, v30, v31, v106⟩ := v
  simp only at h12v h14v h18v HQ
  subst h12v h14v h18v
  obtain ⟨hs1, hd1, q0, q1, q2, q3, q8, q9, q10, q11, q12, q13, q14, q15, q16, q17, q18, q19, q20, q21, q22, q23, q24, q25, q26, q27, q28, q29, q30, q31, q106⟩ := hF
  obtain ⟨u, hu⟩ := frame_pl t' hs1
  simp only at hd1 q0 q1 q2 q3 q8 q9 q10 q11 q12 q13 q14 q15 q16 q17 q18 q19 q20 q21 q22 q23 q24 q25 q26 q27 q28 q29 q30 q31 q106
  subst hu hd1
  have e0 : u 0 = v0 := q0
  have e1 : u 1 = v1 := q1
  have e2 : u 2 = v2 := q2
  have e3 : u 3 = v3 := q3
  have e8 : u 8 = v8 := q8
  have e9 : u 9 = v9 := q9
  have e10 : u 10 = v10 := q10
  have e11 : u 11 = v11 := q11
  have e12 : u 12 = .pointer (some ad) := q12
  have e13 : u 13 = v13 := q13
  have e14 : u 14 = .pointer (some rd) := q14
  have e15 : u 15 = v15 := q15
  have e16 : u 16 = v16 := q16
  have e17 : u 17 = v17 := q17
  have e18 : u 18 = .pointer (some ⟨cb, 0, none⟩) := q18
  have e19 : u 19 = v19 := q19
  have e20 : u 20 = v20 := q20
  have e21 : u 21 = v21 := q21
  have e22 : u 22 = v22 := q22
  have e23 : u 23 = v23 := q23
  have e24 : u 24 = v24 := q24
  have e25 : u 25 = v25 := q25
  have e26 : u 26 = v26 := q26
  have e27 : u 27 = v27 := q27
  have e28 : u 28 = v28 := q28
  have e29 : u 29 = v29 := q29
  have e30 : u 30 = v30 := q30
  have e31 : u 31 = v31 := q31
  have e106 : u 106 = v106 := q106
  rw [e0, e1, e2, e3, e8, e9, e10, e11, e12, e13, e14, e15, e16, e17, e18, e19, e20, e21, e22, e23, e24, e25, e26, e27, e28, e29, e30, e31, e106]
  clear q0 e0 q1 e1 q2 e2 q3 e3 q8 e8 q9 e9 q10 e10 q11 e11 q12 e12 q13 e13 q14 e14 q15 e15 q16 e16 q17 e17 q18 e18 q19 e19 q20 e20 q21 e21 q22 e22 q23 e23 q24 e24 q25 e25 q26 e26 q27 e27 q28 e28 q29 e29 q30 e30 q31 e31 q106 e106 hs1
  simp only [Try.f3, Option.getD_some, regOf] at hc
  injection hc with hc
  subst hc
  have HBX := hide hbx
  have H0 := hide h0
  have HE1 := hide hE1
  have HE2 := hide hE2
  clear hbx h0 hE1 hE2
  refine wp_region_any rfl ?_
  refine wpAny_staged (ns := 257) (uses := (fun i => match i with | 0 => [198] | 1 => [199] | 2 => [200] | 3 => [201] | 4 => [202] | 5 => [203] | 6 => [204] | 7 => [205] | 8 => [206] | 9 => [19] | _ => [])) (by kernel_rfl) (by kernel_rfl) (fun l a w => ((fun (x y : Bool) (w : World) => R x y w)) (l 3) (l 7) w) H0.out (fun i => match i with | 0 => fun σ => σ 198 = .pointer (some ad) | 1 => fun σ => σ 199 = .pointer (some ⟨cb, 3, none⟩) | 2 => fun σ => σ 200 = .int .i64 d.n | 3 => fun σ => σ 201 = .bool r | 4 => fun σ => σ 202 = .pointer (some rd) | 5 => fun σ => σ 203 = .pointer (some ⟨cb, 3, none⟩) | 6 => fun σ => σ 204 = .int .i64 d.n | 7 => fun σ => σ 205 = .bool r | 8 => fun σ => σ 206 = .bool (decide (r = r)) | 9 => fun σ => σ 19 = .bool (decide (r = r)) | _ => fun _ => True) ?phc ?pstep ?pdone
  case phc =>
    intro i s s' hx h
    rcases i with _ | i; · exact (hx _ (List.mem_singleton.2 rfl)).symm.trans h
    rcases i with _ | i; · exact (hx _ (List.mem_singleton.2 rfl)).symm.trans h
    rcases i with _ | i; · exact (hx _ (List.mem_singleton.2 rfl)).symm.trans h
    rcases i with _ | i; · exact (hx _ (List.mem_singleton.2 rfl)).symm.trans h
    rcases i with _ | i; · exact (hx _ (List.mem_singleton.2 rfl)).symm.trans h
    rcases i with _ | i; · exact (hx _ (List.mem_singleton.2 rfl)).symm.trans h
    rcases i with _ | i; · exact (hx _ (List.mem_singleton.2 rfl)).symm.trans h
    rcases i with _ | i; · exact (hx _ (List.mem_singleton.2 rfl)).symm.trans h
    rcases i with _ | i; · exact (hx _ (List.mem_singleton.2 rfl)).symm.trans h
    rcases i with _ | i; · exact (hx _ (List.mem_singleton.2 rfl)).symm.trans h
    exact h
  case pstep =>
    intro i o ho a' w' l hl hr hq hsa hS hd
    match i, ho, hl, hr, hq with
    | 0, ho, hl, hr, hq =>
      obtain rfl := Option.some.inj ho
      try dsimp only at hd
      have g12 : a'.tmps.getD 12 undef = .pointer (some ad) := hsa.rest 12 (by rfl)
      have hT : ((fun (x y : Bool) (w : World) => R x y w)) false (l 7) w' := by have h := hS; rw [hq 3 (by kernel_rfl)] at h; exact h
      refine wpOp_of rfl rfl ?_
      have HT9 := hide hT
      clear hT hS
      refine op_run (v := .pointer (some ad)) (w' := w') ?_ ⟨_, rfl, ?_, (by show ((fun (x y : Bool) (w : World) => R x y w)) _ _ _; rw [updL_other l (show 3 ≠ 0 by decide), updL_other l (show 7 ≠ 0 by decide)]; rw [hq 3 (by kernel_rfl)]; exact HT9.out)⟩
      · simp only [execOp, Act.eval, g12]; first | (go_simp; done) | rfl
      · try dsimp only
        exact (slots_put (ns := 257) (hsa.size.trans rfl) (by decide))
    | 1, ho, hl, hr, hq =>
      obtain rfl := Option.some.inj ho
      try dsimp only at hd
      have g18 : a'.tmps.getD 18 undef = .pointer (some ⟨cb, 0, none⟩) := hsa.rest 18 (by rfl)
      have hT : ((fun (x y : Bool) (w : World) => R x y w)) false (l 7) w' := by have h := hS; rw [hq 3 (by kernel_rfl)] at h; exact h
      refine wpOp_of rfl rfl ?_
      have HT9 := hide hT
      clear hT hS
      refine op_run (v := .pointer (some ⟨cb, 3, none⟩)) (w' := w') ?_ ⟨_, rfl, ?_, (by show ((fun (x y : Bool) (w : World) => R x y w)) _ _ _; rw [updL_other l (show 3 ≠ 1 by decide), updL_other l (show 7 ≠ 1 by decide)]; rw [hq 3 (by kernel_rfl)]; exact HT9.out)⟩
      · simp only [execOp, Act.eval, g18]; first | (go_simp; done) | rfl
      · try dsimp only
        exact (slots_put (ns := 257) (hsa.size.trans rfl) (by decide))
    | 2, ho, hl, hr, hq =>
      obtain rfl := Option.some.inj ho
      try dsimp only at hd
      have d1 : a'.tmps.getD 199 undef = .pointer (some ⟨cb, 3, none⟩) := hd 1 (by rfl)
      have hT : ((fun (x y : Bool) (w : World) => R x y w)) false (l 7) w' := by have h := hS; rw [hq 3 (by kernel_rfl)] at h; exact h
      refine wpOp_of rfl rfl ?_
      have z : w'.cell? ⟨cb, 3, none⟩ = some (.int .i64 d.n) := box_cell (HBX.out _ _ _ hT) 3 rfl
      have HT9 := hide hT
      clear hT hS
      refine op_run (v := .int .i64 d.n) (w' := w') ?_ ⟨_, rfl, ?_, (by show ((fun (x y : Bool) (w : World) => R x y w)) _ _ _; rw [updL_other l (show 3 ≠ 2 by decide), updL_other l (show 7 ≠ 2 by decide)]; rw [hq 3 (by kernel_rfl)]; exact HT9.out)⟩
      · simp only [execOp, Act.eval, d1, z]; first | (go_simp; done) | rfl
      · try dsimp only
        exact (slots_put (ns := 257) (hsa.size.trans rfl) (by decide))
    | 3, ho, hl, hr, hq =>
      obtain rfl := Option.some.inj ho
      try dsimp only at hd
      have d0 : a'.tmps.getD 198 undef = .pointer (some ad) := hd 0 (by rfl)
      have d2 : a'.tmps.getD 200 undef = .int .i64 d.n := hd 2 (by rfl)
      have hT : ((fun (x y : Bool) (w : World) => R x y w)) false (l 7) w' := by have h := hS; rw [hl] at h; exact h
      refine wpOp_of rfl rfl ?_
      have HT9 := hide hT
      clear hT hS
      refine op_call 19 _ _ rfl (enters_of Try.func19 (by kernel_rfl) rfl) [.pointer (some ad), .int .i64 d.n] (by simp only [List.map, Act.eval, d0, d2]) (HE1.out _ _ HT9.out) ?_
      rintro e w'' ⟨rfl, r1⟩
      refine ⟨_, rfl, _, rfl, (slots_put (ns := 257) (hsa.size.trans rfl) (by decide)), (by show ((fun (x y : Bool) (w : World) => R x y w)) _ _ _; rw [updL_same, updL_other l (show 7 ≠ 3 by decide)]; exact r1)⟩
    | 4, ho, hl, hr, hq =>
      obtain rfl := Option.some.inj ho
      try dsimp only at hd
      have g14 : a'.tmps.getD 14 undef = .pointer (some rd) := hsa.rest 14 (by rfl)
      have hT : ((fun (x y : Bool) (w : World) => R x y w)) (l 3) false w' := by have h := hS; rw [hq 7 (by kernel_rfl)] at h; exact h
      refine wpOp_of rfl rfl ?_
      have HT9 := hide hT
      clear hT hS
      refine op_run (v := .pointer (some rd)) (w' := w') ?_ ⟨_, rfl, ?_, (by show ((fun (x y : Bool) (w : World) => R x y w)) _ _ _; rw [updL_other l (show 3 ≠ 4 by decide), updL_other l (show 7 ≠ 4 by decide)]; rw [hq 7 (by kernel_rfl)]; exact HT9.out)⟩
      · simp only [execOp, Act.eval, g14]; first | (go_simp; done) | rfl
      · try dsimp only
        exact (slots_put (ns := 257) (hsa.size.trans rfl) (by decide))
    | 5, ho, hl, hr, hq =>
      obtain rfl := Option.some.inj ho
      try dsimp only at hd
      have g18 : a'.tmps.getD 18 undef = .pointer (some ⟨cb, 0, none⟩) := hsa.rest 18 (by rfl)
      have hT : ((fun (x y : Bool) (w : World) => R x y w)) (l 3) false w' := by have h := hS; rw [hq 7 (by kernel_rfl)] at h; exact h
      refine wpOp_of rfl rfl ?_
      have HT9 := hide hT
      clear hT hS
      refine op_run (v := .pointer (some ⟨cb, 3, none⟩)) (w' := w') ?_ ⟨_, rfl, ?_, (by show ((fun (x y : Bool) (w : World) => R x y w)) _ _ _; rw [updL_other l (show 3 ≠ 5 by decide), updL_other l (show 7 ≠ 5 by decide)]; rw [hq 7 (by kernel_rfl)]; exact HT9.out)⟩
      · simp only [execOp, Act.eval, g18]; first | (go_simp; done) | rfl
      · try dsimp only
        exact (slots_put (ns := 257) (hsa.size.trans rfl) (by decide))
    | 6, ho, hl, hr, hq =>
      obtain rfl := Option.some.inj ho
      try dsimp only at hd
      have d5 : a'.tmps.getD 203 undef = .pointer (some ⟨cb, 3, none⟩) := hd 5 (by rfl)
      have hT : ((fun (x y : Bool) (w : World) => R x y w)) (l 3) false w' := by have h := hS; rw [hq 7 (by kernel_rfl)] at h; exact h
      refine wpOp_of rfl rfl ?_
      have z : w'.cell? ⟨cb, 3, none⟩ = some (.int .i64 d.n) := box_cell (HBX.out _ _ _ hT) 3 rfl
      have HT9 := hide hT
      clear hT hS
      refine op_run (v := .int .i64 d.n) (w' := w') ?_ ⟨_, rfl, ?_, (by show ((fun (x y : Bool) (w : World) => R x y w)) _ _ _; rw [updL_other l (show 3 ≠ 6 by decide), updL_other l (show 7 ≠ 6 by decide)]; rw [hq 7 (by kernel_rfl)]; exact HT9.out)⟩
      · simp only [execOp, Act.eval, d5, z]; first | (go_simp; done) | rfl
      · try dsimp only
        exact (slots_put (ns := 257) (hsa.size.trans rfl) (by decide))
    | 7, ho, hl, hr, hq =>
      obtain rfl := Option.some.inj ho
      try dsimp only at hd
      have d4 : a'.tmps.getD 202 undef = .pointer (some rd) := hd 4 (by rfl)
      have d6 : a'.tmps.getD 204 undef = .int .i64 d.n := hd 6 (by rfl)
      have hT : ((fun (x y : Bool) (w : World) => R x y w)) (l 3) false w' := by have h := hS; rw [hl] at h; exact h
      refine wpOp_of rfl rfl ?_
      have HT9 := hide hT
      clear hT hS
      refine op_call 20 _ _ rfl (enters_of Try.func20 (by kernel_rfl) rfl) [.pointer (some rd), .int .i64 d.n] (by simp only [List.map, Act.eval, d4, d6]) (HE2.out _ _ HT9.out) ?_
      rintro e w'' ⟨rfl, r1⟩
      refine ⟨_, rfl, _, rfl, (slots_put (ns := 257) (hsa.size.trans rfl) (by decide)), (by show ((fun (x y : Bool) (w : World) => R x y w)) _ _ _; rw [updL_other l (show 3 ≠ 7 by decide), updL_same]; exact r1)⟩
    | 8, ho, hl, hr, hq =>
      obtain rfl := Option.some.inj ho
      try dsimp only at hd
      have d3 : a'.tmps.getD 201 undef = .bool r := hd 3 (by rfl)
      have d7 : a'.tmps.getD 205 undef = .bool r := hd 7 (by rfl)
      have hT : ((fun (x y : Bool) (w : World) => R x y w)) true true w' := by have h := hS; rw [hr 3 (by kernel_rfl), hr 7 (by kernel_rfl)] at h; exact h
      refine wpOp_of rfl rfl ?_
      have HT9 := hide hT
      clear hT hS
      refine op_run (v := .bool (decide (r = r))) (w' := w') ?_ ⟨_, rfl, ?_, (by show ((fun (x y : Bool) (w : World) => R x y w)) _ _ _; rw [updL_other l (show 3 ≠ 8 by decide), updL_other l (show 7 ≠ 8 by decide)]; rw [hr 3 (by kernel_rfl), hr 7 (by kernel_rfl)]; exact HT9.out)⟩
      · simp only [execOp, Act.eval, d3, d7]; first | (go_simp; done) | rfl
      · try dsimp only
        exact (slots_put (ns := 257) (hsa.size.trans rfl) (by decide))
    | 9, ho, hl, hr, hq =>
      obtain rfl := Option.some.inj ho
      try dsimp only at hd
      have d8 : a'.tmps.getD 206 undef = .bool (decide (r = r)) := hd 8 (by rfl)
      have hT : ((fun (x y : Bool) (w : World) => R x y w)) true true w' := by have h := hS; rw [hr 3 (by kernel_rfl), hr 7 (by kernel_rfl)] at h; exact h
      refine wpOp_of rfl rfl ?_
      have HT9 := hide hT
      clear hT hS
      refine op_run (v := .bool (decide (r = r))) (w' := w') ?_ ⟨_, rfl, ?_, (by show ((fun (x y : Bool) (w : World) => R x y w)) _ _ _; rw [updL_other l (show 3 ≠ 9 by decide), updL_other l (show 7 ≠ 9 by decide)]; rw [hr 3 (by kernel_rfl), hr 7 (by kernel_rfl)]; exact HT9.out)⟩
      · simp only [execOp, Act.eval, d8]; first | (go_simp; done) | rfl
      · try dsimp only
        exact (slots_put (ns := 257) (hsa.size.trans rfl) (by decide))
    | (n + 10), ho, _, _, _ => exact absurd ho (by simp)
  case pdone =>
    intro a' w' l hl hsa hS hd
    have hT : ((fun (x y : Bool) (w : World) => R x y w)) true true w' := by have h := hS; rw [hl 3 (by decide), hl 7 (by decide)] at h; exact h
    have d0 : a'.tmps.getD 198 undef = .pointer (some ad) := hd 0 (by decide)
    have d1 : a'.tmps.getD 199 undef = .pointer (some ⟨cb, 3, none⟩) := hd 1 (by decide)
    have d2 : a'.tmps.getD 200 undef = .int .i64 d.n := hd 2 (by decide)
    have d3 : a'.tmps.getD 201 undef = .bool r := hd 3 (by decide)
    have d4 : a'.tmps.getD 202 undef = .pointer (some rd) := hd 4 (by decide)
    have d5 : a'.tmps.getD 203 undef = .pointer (some ⟨cb, 3, none⟩) := hd 5 (by decide)
    have d6 : a'.tmps.getD 204 undef = .int .i64 d.n := hd 6 (by decide)
    have d7 : a'.tmps.getD 205 undef = .bool r := hd 7 (by decide)
    have d8 : a'.tmps.getD 206 undef = .bool (decide (r = r)) := hd 8 (by decide)
    have d9 : a'.tmps.getD 19 undef = .bool (decide (r = r)) := hd 9 (by decide)
    exact HQ.out a' w' ⟨hsa.size.trans rfl, hsa.defers.trans rfl, hsa.rest 0 (by rfl), hsa.rest 1 (by rfl), hsa.rest 2 (by rfl), hsa.rest 3 (by rfl), hsa.rest 8 (by rfl), hsa.rest 9 (by rfl), hsa.rest 10 (by rfl), hsa.rest 11 (by rfl), hsa.rest 12 (by rfl), hsa.rest 13 (by rfl), hsa.rest 14 (by rfl), hsa.rest 15 (by rfl), hsa.rest 16 (by rfl), hsa.rest 17 (by rfl), hsa.rest 18 (by rfl), (d9.trans (by simp)), hsa.rest 20 (by rfl), hsa.rest 21 (by rfl), hsa.rest 22 (by rfl), hsa.rest 23 (by rfl), hsa.rest 24 (by rfl), hsa.rest 25 (by rfl), hsa.rest 26 (by rfl), hsa.rest 27 (by rfl), hsa.rest 28 (by rfl), hsa.rest 29 (by rfl), hsa.rest 30 (by rfl), hsa.rest 31 (by rfl), hsa.rest 106 (by rfl)⟩ hT
end Go.Proofs.Ytjgbgbgajadgnaa
