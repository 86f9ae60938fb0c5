/-
  OrderPlays' regions, the last (mkpl.py).
-/
import Derived.Test.YtjgbgbgajadgnaaZPL1
namespace Go.Proofs.Ytjgbgbgajadgnaa
open Go.RowKit

attribute [local go_sem ↓] Go.wp_at_zero Go.wp_at_succ
set_option linter.unusedSimpArgs false
set_option linter.unusedVariables false
set_option maxHeartbeats 8000000 in
set_option maxRecDepth 100000 in
theorem pl_r41 {K : Act → World → Prop} {c : Code} (hc : regOf (Try.f3.body.getD .skip) 41 = some c) (a : Act) {v : Vpl} {wq : World} {R : Nat → World → Prop} {ad : Addr} {n : Nat} (hF : Fpl a v) (h12v : v.v12 = .pointer (some ad)) (hE : Calls Try.prog 24 #[.pointer (some ad)] wq fun e w' => ∃ (g : Nat), e = .returned (.slice (some ⟨g, 0, none⟩) n n) ∧ R g w')
    (hQ : ∀ a' w1 g, Fpl a' { v with v29 := .slice (some ⟨g, 0, none⟩) n n } → R g w1 → K a' w1) :
    Code.wp Try.prog c (Exit.then K fun _ _ _ => False) a wq := by
  have HQ := hide hQ
  clear hQ
  obtain ⟨t', d'⟩ := a
  obtain ⟨v0, v1, v2, v3, v8, v9, v10, v11, v12, v13, v14, v15, v16, v17, v18, v19, v20, v21, v22, v23, v24, v25, v26, v27, v28, v29, v30, v31, v106⟩ := v
  simp only at h12v HQ
  subst h12v
  obtain ⟨hs1, hd1, q0, q1, q2, q3, q8, q9, q10, q11, q12, q13, q14, q15, q16, q17, q18, q19, q20, q21, q22, q23, q24, q25, q26, q27, q28, q29, q30, q31, q106⟩ := hF
  obtain ⟨u, hu⟩ := frame_pl t' hs1
  simp only at hd1 q0 q1 q2 q3 q8 q9 q10 q11 q12 q13 q14 q15 q16 q17 q18 q19 q20 q21 q22 q23 q24 q25 q26 q27 q28 q29 q30 q31 q106
  subst hu hd1
  have e0 : u 0 = v0 := q0
  have e1 : u 1 = v1 := q1
  have e2 : u 2 = v2 := q2
  have e3 : u 3 = v3 := q3
  have e8 : u 8 = v8 := q8
  have e9 : u 9 = v9 := q9
  have e10 : u 10 = v10 := q10
  have e11 : u 11 = v11 := q11
  have e12 : u 12 = .pointer (some ad) := q12
  have e13 : u 13 = v13 := q13
  have e14 : u 14 = v14 := q14
  have e15 : u 15 = v15 := q15
  have e16 : u 16 = v16 := q16
  have e17 : u 17 = v17 := q17
  have e18 : u 18 = v18 := q18
  have e19 : u 19 = v19 := q19
  have e20 : u 20 = v20 := q20
  have e21 : u 21 = v21 := q21
  have e22 : u 22 = v22 := q22
  have e23 : u 23 = v23 := q23
  have e24 : u 24 = v24 := q24
  have e25 : u 25 = v25 := q25
  have e26 : u 26 = v26 := q26
  have e27 : u 27 = v27 := q27
  have e28 : u 28 = v28 := q28
  have e29 : u 29 = v29 := q29
  have e30 : u 30 = v30 := q30
  have e31 : u 31 = v31 := q31
  have e106 : u 106 = v106 := q106
  rw [e0, e1, e2, e3, e8, e9, e10, e11, e12, e13, e14, e15, e16, e17, e18, e19, e20, e21, e22, e23, e24, e25, e26, e27, e28, e29, e30, e31, e106]
  clear q0 e0 q1 e1 q2 e2 q3 e3 q8 e8 q9 e9 q10 e10 q11 e11 q12 e12 q13 e13 q14 e14 q15 e15 q16 e16 q17 e17 q18 e18 q19 e19 q20 e20 q21 e21 q22 e22 q23 e23 q24 e24 q25 e25 q26 e26 q27 e27 q28 e28 q29 e29 q30 e30 q31 e31 q106 e106 hs1
  simp only [Try.f3, Option.getD_some, regOf] at hc
  injection hc with hc
  subst hc
  have HE := hide hE
  clear hE
  go_wp2_with (go_at_call 24; refine HE.out.mono ?_; rintro e w1 ⟨g, rfl, r1⟩; have R1 := hide r1; clear r1)
  exact HQ.out _ _ _ ⟨rfl, rfl, rfl, rfl, rfl, rfl, rfl, rfl, rfl, rfl, rfl, rfl, rfl, rfl, rfl, rfl, rfl, rfl, rfl, rfl, rfl, rfl, rfl, rfl, rfl, rfl, rfl, rfl, rfl, rfl, rfl⟩ R1.out
set_option maxHeartbeats 8000000 in
set_option maxRecDepth 100000 in
theorem pl_r42 {K : Act → World → Prop} {c : Code} (hc : regOf (Try.f3.body.getD .skip) 42 = some c) (a : Act) {v : Vpl} {wq : World} {R : World → Prop} {g n lc rb : Nat} {lo : Option Addr} (hF : Fpl a v) (h29v : v.v29 = .slice (some ⟨g, 0, none⟩) n n) (h14v : v.v14 = .pointer (some ⟨rb, 0, none⟩)) (c2 : wq.cell? ⟨rb, 2, none⟩ = some (.slice lo n lc)) (hE : Calls Try.prog 23 #[.slice (some ⟨g, 0, none⟩) n n, .slice lo n lc] wq fun e w' => e = .returned (.bool true) ∧ R w')
    (hQ : ∀ a' w1, Fpl a' { v with v30 := .bool true } → R w1 → K a' w1) :
    Code.wp Try.prog c (Exit.then K fun _ _ _ => False) a wq := by
  have HQ := hide hQ
  clear hQ
  obtain ⟨t', d'⟩ := a
  obtain ⟨v0, v1, v2, v3, v8, v9, v10, v11, v12, v13, v14, v15, v16, v17, v18, v19, v20, v21, v22, v23, v24, v25, v26, v27, v28, v29, v30, v31, v106⟩ := v
  simp only at h29v h14v HQ
  subst h29v h14v
  obtain ⟨hs1, hd1, q0, q1, q2, q3, q8, q9, q10, q11, q12, q13, q14, q15, q16, q17, q18, q19, q20, q21, q22, q23, q24, q25, q26, q27, q28, q29, q30, q31, q106⟩ := hF
  obtain ⟨u, hu⟩ := frame_pl t' hs1
  simp only at hd1 q0 q1 q2 q3 q8 q9 q10 q11 q12 q13 q14 q15 q16 q17 q18 q19 q20 q21 q22 q23 q24 q25 q26 q27 q28 q29 q30 q31 q106
  subst hu hd1
  have e0 : u 0 = v0 := q0
  have e1 : u 1 = v1 := q1
  have e2 : u 2 = v2 := q2
  have e3 : u 3 = v3 := q3
  have e8 : u 8 = v8 := q8
  have e9 : u 9 = v9 := q9
  have e10 : u 10 = v10 := q10
  have e11 : u 11 = v11 := q11
  have e12 : u 12 = v12 := q12
  have e13 : u 13 = v13 := q13
  have e14 : u 14 = .pointer (some ⟨rb, 0, none⟩) := q14
  have e15 : u 15 = v15 := q15
  have e16 : u 16 = v16 := q16
  have e17 : u 17 = v17 := q17
  have e18 : u 18 = v18 := q18
  have e19 : u 19 = v19 := q19
  have e20 : u 20 = v20 := q20
  have e21 : u 21 = v21 := q21
  have e22 : u 22 = v22 := q22
  have e23 : u 23 = v23 := q23
  have e24 : u 24 = v24 := q24
  have e25 : u 25 = v25 := q25
  have e26 : u 26 = v26 := q26
  have e27 : u 27 = v27 := q27
  have e28 : u 28 = v28 := q28
  have e29 : u 29 = .slice (some ⟨g, 0, none⟩) n n := q29
  have e30 : u 30 = v30 := q30
  have e31 : u 31 = v31 := q31
  have e106 : u 106 = v106 := q106
  rw [e0, e1, e2, e3, e8, e9, e10, e11, e12, e13, e14, e15, e16, e17, e18, e19, e20, e21, e22, e23, e24, e25, e26, e27, e28, e29, e30, e31, e106]
  clear q0 e0 q1 e1 q2 e2 q3 e3 q8 e8 q9 e9 q10 e10 q11 e11 q12 e12 q13 e13 q14 e14 q15 e15 q16 e16 q17 e17 q18 e18 q19 e19 q20 e20 q21 e21 q22 e22 q23 e23 q24 e24 q25 e25 q26 e26 q27 e27 q28 e28 q29 e29 q30 e30 q31 e31 q106 e106 hs1
  simp only [Try.f3, Option.getD_some, regOf] at hc
  injection hc with hc
  subst hc
  have HE := hide hE
  clear hE
  go_wp2_with (go_at_call 23; refine HE.out.mono ?_; rintro e w1 ⟨rfl, r1⟩; have R1 := hide r1; clear r1)
  exact HQ.out _ _ ⟨rfl, rfl, rfl, rfl, rfl, rfl, rfl, rfl, rfl, rfl, rfl, rfl, rfl, rfl, rfl, rfl, rfl, rfl, rfl, rfl, rfl, rfl, rfl, rfl, rfl, rfl, rfl, rfl, rfl, rfl, rfl⟩ R1.out
set_option maxHeartbeats 8000000 in
set_option maxRecDepth 100000 in
theorem pl_r43 {K : Act → World → Prop} {c : Code} (hc : regOf (Try.f3.body.getD .skip) 43 = some c) (a : Act) {v : Vpl} {wq : World} {ad : Addr} {rb n lc su : Nat} {x : Int} {lo : Option Addr} (hF : Fpl a v) (h19v : v.v19 = .bool true) (h30v : v.v30 = .bool true) (h12v : v.v12 = .pointer (some ad)) (h14v : v.v14 = .pointer (some ⟨rb, 0, none⟩)) (c2 : wq.cell? ⟨rb, 2, none⟩ = some (.slice lo n lc)) (c3 : wq.cell? ⟨rb, 3, none⟩ = some (.int .i64 (su : Int))) (hL : ∀ m, Calls Try.prog 25 #[.pointer (some ad)] (wq.drewN m) fun e w' => e = .returned (.int .i64 (n : Int)) ∧ w' = wq.drewN m) (hB : ∀ m, Calls Try.prog 26 #[.pointer (some ad)] (wq.drewN m) fun e w' => e = .returned (.int .i64 x) ∧ w' = wq.drewN m) (hR : ∀ m, Calls Try.prog 27 #[.pointer (some ⟨rb, 0, none⟩)] (wq.drewN m) fun e w' => e = .returned (.int .i64 x) ∧ w' = wq.drewN m) (hS : ∀ m, Calls Try.prog 28 #[.pointer (some ad)] (wq.drewN m) fun e w' => e = .returned (.int .i64 (su : Int)) ∧ w' = wq.drewN m) 
    (hQ : ∀ a' m, Fpl a' v → a'.tmps.getD 246 undef = .bool false → K a' (wq.drewN m)) :
    Code.wp Try.prog c (Exit.then K fun _ _ _ => False) a wq := by
  have HQ := hide hQ
  clear hQ
  obtain ⟨t', d'⟩ := a
  obtain ⟨v0, v1, v2, v3, v8, v9, v10, v11, v12, v13, v14, v15, v16, v17, v18, v19, v20, v21, v22, v23, v24, v25, v26, v27, v28, v29, v30, v31, v106⟩ := v
  simp only at h19v h30v h12v h14v HQ
  subst h19v h30v h12v h14v
  obtain ⟨hs1, hd1, q0, q1, q2, q3, q8, q9, q10, q11, q12, q13, q14, q15, q16, q17, q18, q19, q20, q21, q22, q23, q24, q25, q26, q27, q28, q29, q30, q31, q106⟩ := hF
  obtain ⟨u, hu⟩ := frame_pl t' hs1
  simp only at hd1 q0 q1 q2 q3 q8 q9 q10 q11 q12 q13 q14 q15 q16 q17 q18 q19 q20 q21 q22 q23 q24 q25 q26 q27 q28 q29 q30 q31 q106
  subst hu hd1
  have e0 : u 0 = v0 := q0
  have e1 : u 1 = v1 := q1
  have e2 : u 2 = v2 := q2
  have e3 : u 3 = v3 := q3
  have e8 : u 8 = v8 := q8
  have e9 : u 9 = v9 := q9
  have e10 : u 10 = v10 := q10
  have e11 : u 11 = v11 := q11
  have e12 : u 12 = .pointer (some ad) := q12
  have e13 : u 13 = v13 := q13
  have e14 : u 14 = .pointer (some ⟨rb, 0, none⟩) := q14
  have e15 : u 15 = v15 := q15
  have e16 : u 16 = v16 := q16
  have e17 : u 17 = v17 := q17
  have e18 : u 18 = v18 := q18
  have e19 : u 19 = .bool true := q19
  have e20 : u 20 = v20 := q20
  have e21 : u 21 = v21 := q21
  have e22 : u 22 = v22 := q22
  have e23 : u 23 = v23 := q23
  have e24 : u 24 = v24 := q24
  have e25 : u 25 = v25 := q25
  have e26 : u 26 = v26 := q26
  have e27 : u 27 = v27 := q27
  have e28 : u 28 = v28 := q28
  have e29 : u 29 = v29 := q29
  have e30 : u 30 = .bool true := q30
  have e31 : u 31 = v31 := q31
  have e106 : u 106 = v106 := q106
  rw [e0, e1, e2, e3, e8, e9, e10, e11, e12, e13, e14, e15, e16, e17, e18, e19, e20, e21, e22, e23, e24, e25, e26, e27, e28, e29, e30, e31, e106]
  clear q0 e0 q1 e1 q2 e2 q3 e3 q8 e8 q9 e9 q10 e10 q11 e11 q12 e12 q13 e13 q14 e14 q15 e15 q16 e16 q17 e17 q18 e18 q19 e19 q20 e20 q21 e21 q22 e22 q23 e23 q24 e24 q25 e25 q26 e26 q27 e27 q28 e28 q29 e29 q30 e30 q31 e31 q106 e106 hs1
  simp only [Try.f3, Option.getD_some, regOf] at hc
  injection hc with hc
  subst hc
  have GhL := hide hL
  have GhB := hide hB
  have GhR := hide hR
  have GhS := hide hS
  clear hL hB hR hS
  have d1 : ((n : Int) != (n : Int)) = false := by simp
  have d2 : (x != x) = false := by simp
  have d3 : ((su : Int) != (su : Int)) = false := by simp
  go_wp2
  go_quiet (first | (go_at_call 25; exact Calls.quiet_of_same (GhL.out _)) | (go_at_call 26; exact Calls.quiet_of_same (GhB.out _)) | (go_at_call 27; exact Calls.quiet_of_same (GhR.out _)) | (go_at_call 28; exact Calls.quiet_of_same (GhS.out _)))
  go_wp2
  exact HQ.out _ _ ⟨rfl, rfl, rfl, rfl, rfl, rfl, rfl, rfl, rfl, rfl, rfl, rfl, rfl, rfl, rfl, rfl, rfl, rfl, rfl, rfl, rfl, rfl, rfl, rfl, rfl, rfl, rfl, rfl, rfl, rfl, rfl⟩ (by first | rfl | (simp; done))
set_option maxHeartbeats 8000000 in
set_option maxRecDepth 100000 in
theorem pl_r45 {K : Act → World → Prop} {c : Code} (hc : regOf (Try.f3.body.getD .skip) 45 = some c) (a : Act) {v : Vpl} {wq : World}  (hF : Fpl a v) (hQ : ∀ a', Fpl a' { v with v31 := .int .i64 ((0 : Nat) : Int) } → K a' wq) :
    Code.wp Try.prog c (Exit.then K fun _ _ _ => False) a wq := by
  have HQ := hide hQ
  clear hQ
  obtain ⟨t', d'⟩ := a
  obtain ⟨v0, v1, v2, v3, v8, v9, v10, v11, v12, v13, v14, v15, v16, v17, v18, v19, v20, v21, v22, v23, v24, v25, v26, v27, v28, v29, v30, v31, v106⟩ := v
  obtain ⟨hs1, hd1, q0, q1, q2, q3, q8, q9, q10, q11, q12, q13, q14, q15, q16, q17, q18, q19, q20, q21, q22, q23, q24, q25, q26, q27, q28, q29, q30, q31, q106⟩ := hF
  obtain ⟨u, hu⟩ := frame_pl t' hs1
  simp only at hd1 q0 q1 q2 q3 q8 q9 q10 q11 q12 q13 q14 q15 q16 q17 q18 q19 q20 q21 q22 q23 q24 q25 q26 q27 q28 q29 q30 q31 q106
  subst hu hd1
  have e0 : u 0 = v0 := q0
  have e1 : u 1 = v1 := q1
  have e2 : u 2 = v2 := q2
  have e3 : u 3 = v3 := q3
  have e8 : u 8 = v8 := q8
  have e9 : u 9 = v9 := q9
  have e10 : u 10 = v10 := q10
  have e11 : u 11 = v11 := q11
  have e12 : u 12 = v12 := q12
  have e13 : u 13 = v13 := q13
  have e14 : u 14 = v14 := q14
  have e15 : u 15 = v15 := q15
  have e16 : u 16 = v16 := q16
  have e17 : u 17 = v17 := q17
  have e18 : u 18 = v18 := q18
  have e19 : u 19 = v19 := q19
  have e20 : u 20 = v20 := q20
  have e21 : u 21 = v21 := q21
  have e22 : u 22 = v22 := q22
  have e23 : u 23 = v23 := q23
  have e24 : u 24 = v24 := q24
  have e25 : u 25 = v25 := q25
  have e26 : u 26 = v26 := q26
  have e27 : u 27 = v27 := q27
  have e28 : u 28 = v28 := q28
  have e29 : u 29 = v29 := q29
  have e30 : u 30 = v30 := q30
  have e31 : u 31 = v31 := q31
  have e106 : u 106 = v106 := q106
  rw [e0, e1, e2, e3, e8, e9, e10, e11, e12, e13, e14, e15, e16, e17, e18, e19, e20, e21, e22, e23, e24, e25, e26, e27, e28, e29, e30, e31, e106]
  clear q0 e0 q1 e1 q2 e2 q3 e3 q8 e8 q9 e9 q10 e10 q11 e11 q12 e12 q13 e13 q14 e14 q15 e15 q16 e16 q17 e17 q18 e18 q19 e19 q20 e20 q21 e21 q22 e22 q23 e23 q24 e24 q25 e25 q26 e26 q27 e27 q28 e28 q29 e29 q30 e30 q31 e31 q106 e106 hs1
  simp only [Try.f3, Option.getD_some, regOf] at hc
  injection hc with hc
  subst hc
  go_wp2
  exact HQ.out _ ⟨rfl, rfl, rfl, rfl, rfl, rfl, rfl, rfl, rfl, rfl, rfl, rfl, rfl, rfl, rfl, rfl, rfl, rfl, rfl, rfl, rfl, rfl, rfl, rfl, rfl, rfl, rfl, rfl, rfl, rfl, rfl⟩
set_option maxHeartbeats 8000000 in
set_option maxRecDepth 100000 in
theorem pl_r46n {K : Act → World → Prop} {c : Code} (hc : regOf (Try.f3.body.getD .skip) 46 = some c) (a : Act) {v : Vpl} {wq : World} {ao : Option Addr} {n cp k : Nat} (hF : Fpl a v) (h29v : v.v29 = .slice ao n cp) (h31v : v.v31 = .int .i64 (k : Int)) (hk : ¬ (k : Int) < (n : Int)) (hQ : ∀ a', Fpl a' v → a'.tmps.getD 250 undef = .bool false → K a' wq) :
    Code.wp Try.prog c (Exit.then K fun _ _ _ => False) a wq := by
  have HQ := hide hQ
  clear hQ
  obtain ⟨t', d'⟩ := a
  obtain ⟨v0, v1, v2, v3, v8, v9, v10, v11, v12, v13, v14, v15, v16, v17, v18, v19, v20, v21, v22, v23, v24, v25, v26, v27, v28, v29, v30, v31, v106⟩ := v
  simp only at h29v h31v HQ
  subst h29v h31v
  obtain ⟨hs1, hd1, q0, q1, q2, q3, q8, q9, q10, q11, q12, q13, q14, q15, q16, q17, q18, q19, q20, q21, q22, q23, q24, q25, q26, q27, q28, q29, q30, q31, q106⟩ := hF
  obtain ⟨u, hu⟩ := frame_pl t' hs1
  simp only at hd1 q0 q1 q2 q3 q8 q9 q10 q11 q12 q13 q14 q15 q16 q17 q18 q19 q20 q21 q22 q23 q24 q25 q26 q27 q28 q29 q30 q31 q106
  subst hu hd1
  have e0 : u 0 = v0 := q0
  have e1 : u 1 = v1 := q1
  have e2 : u 2 = v2 := q2
  have e3 : u 3 = v3 := q3
  have e8 : u 8 = v8 := q8
  have e9 : u 9 = v9 := q9
  have e10 : u 10 = v10 := q10
  have e11 : u 11 = v11 := q11
  have e12 : u 12 = v12 := q12
  have e13 : u 13 = v13 := q13
  have e14 : u 14 = v14 := q14
  have e15 : u 15 = v15 := q15
  have e16 : u 16 = v16 := q16
  have e17 : u 17 = v17 := q17
  have e18 : u 18 = v18 := q18
  have e19 : u 19 = v19 := q19
  have e20 : u 20 = v20 := q20
  have e21 : u 21 = v21 := q21
  have e22 : u 22 = v22 := q22
  have e23 : u 23 = v23 := q23
  have e24 : u 24 = v24 := q24
  have e25 : u 25 = v25 := q25
  have e26 : u 26 = v26 := q26
  have e27 : u 27 = v27 := q27
  have e28 : u 28 = v28 := q28
  have e29 : u 29 = .slice ao n cp := q29
  have e30 : u 30 = v30 := q30
  have e31 : u 31 = .int .i64 (k : Int) := q31
  have e106 : u 106 = v106 := q106
  rw [e0, e1, e2, e3, e8, e9, e10, e11, e12, e13, e14, e15, e16, e17, e18, e19, e20, e21, e22, e23, e24, e25, e26, e27, e28, e29, e30, e31, e106]
  clear q0 e0 q1 e1 q2 e2 q3 e3 q8 e8 q9 e9 q10 e10 q11 e11 q12 e12 q13 e13 q14 e14 q15 e15 q16 e16 q17 e17 q18 e18 q19 e19 q20 e20 q21 e21 q22 e22 q23 e23 q24 e24 q25 e25 q26 e26 q27 e27 q28 e28 q29 e29 q30 e30 q31 e31 q106 e106 hs1
  simp only [Try.f3, Option.getD_some, regOf] at hc
  injection hc with hc
  subst hc
  have hd : decide ((k : Int) < (n : Int)) = false := decide_eq_false hk
  go_wp2
  exact HQ.out _ ⟨rfl, rfl, rfl, rfl, rfl, rfl, rfl, rfl, rfl, rfl, rfl, rfl, rfl, rfl, rfl, rfl, rfl, rfl, rfl, rfl, rfl, rfl, rfl, rfl, rfl, rfl, rfl, rfl, rfl, rfl, rfl⟩ (by first | rfl | (simp; done))
set_option maxHeartbeats 8000000 in
set_option maxRecDepth 100000 in
theorem pl_r46y {K : Act → World → Prop} {c : Code} (hc : regOf (Try.f3.body.getD .skip) 46 = some c) (a : Act) {v : Vpl} {wq : World} {ao : Option Addr} {n cp k : Nat} (hF : Fpl a v) (h29v : v.v29 = .slice ao n cp) (h31v : v.v31 = .int .i64 (k : Int)) (hk : (k : Int) < (n : Int)) (hQ : ∀ a', Fpl a' v → a'.tmps.getD 250 undef = .bool true → K a' wq) :
    Code.wp Try.prog c (Exit.then K fun _ _ _ => False) a wq := by
  have HQ := hide hQ
  clear hQ
  obtain ⟨t', d'⟩ := a
  obtain ⟨v0, v1, v2, v3, v8, v9, v10, v11, v12, v13, v14, v15, v16, v17, v18, v19, v20, v21, v22, v23, v24, v25, v26, v27, v28, v29, v30, v31, v106⟩ := v
  simp only at h29v h31v HQ
  subst h29v h31v
  obtain ⟨hs1, hd1, q0, q1, q2, q3, q8, q9, q10, q11, q12, q13, q14, q15, q16, q17, q18, q19, q20, q21, q22, q23, q24, q25, q26, q27, q28, q29, q30, q31, q106⟩ := hF
  obtain ⟨u, hu⟩ := frame_pl t' hs1
  simp only at hd1 q0 q1 q2 q3 q8 q9 q10 q11 q12 q13 q14 q15 q16 q17 q18 q19 q20 q21 q22 q23 q24 q25 q26 q27 q28 q29 q30 q31 q106
  subst hu hd1
  have e0 : u 0 = v0 := q0
  have e1 : u 1 = v1 := q1
  have e2 : u 2 = v2 := q2
  have e3 : u 3 = v3 := q3
  have e8 : u 8 = v8 := q8
  have e9 : u 9 = v9 := q9
  have e10 : u 10 = v10 := q10
  have e11 : u 11 = v11 := q11
  have e12 : u 12 = v12 := q12
  have e13 : u 13 = v13 := q13
  have e14 : u 14 = v14 := q14
  have e15 : u 15 = v15 := q15
  have e16 : u 16 = v16 := q16
  have e17 : u 17 = v17 := q17
  have e18 : u 18 = v18 := q18
  have e19 : u 19 = v19 := q19
  have e20 : u 20 = v20 := q20
  have e21 : u 21 = v21 := q21
  have e22 : u 22 = v22 := q22
  have e23 : u 23 = v23 := q23
  have e24 : u 24 = v24 := q24
  have e25 : u 25 = v25 := q25
  have e26 : u 26 = v26 := q26
  have e27 : u 27 = v27 := q27
  have e28 : u 28 = v28 := q28
  have e29 : u 29 = .slice ao n cp := q29
  have e30 : u 30 = v30 := q30
  have e31 : u 31 = .int .i64 (k : Int) := q31
  have e106 : u 106 = v106 := q106
  rw [e0, e1, e2, e3, e8, e9, e10, e11, e12, e13, e14, e15, e16, e17, e18, e19, e20, e21, e22, e23, e24, e25, e26, e27, e28, e29, e30, e31, e106]
  clear q0 e0 q1 e1 q2 e2 q3 e3 q8 e8 q9 e9 q10 e10 q11 e11 q12 e12 q13 e13 q14 e14 q15 e15 q16 e16 q17 e17 q18 e18 q19 e19 q20 e20 q21 e21 q22 e22 q23 e23 q24 e24 q25 e25 q26 e26 q27 e27 q28 e28 q29 e29 q30 e30 q31 e31 q106 e106 hs1
  simp only [Try.f3, Option.getD_some, regOf] at hc
  injection hc with hc
  subst hc
  have hd : decide ((k : Int) < (n : Int)) = true := decide_eq_true hk
  go_wp2
  exact HQ.out _ ⟨rfl, rfl, rfl, rfl, rfl, rfl, rfl, rfl, rfl, rfl, rfl, rfl, rfl, rfl, rfl, rfl, rfl, rfl, rfl, rfl, rfl, rfl, rfl, rfl, rfl, rfl, rfl, rfl, rfl, rfl, rfl⟩ (by first | rfl | (simp; done))
set_option maxHeartbeats 8000000 in
set_option maxRecDepth 100000 in
theorem pl_r48 {K : Act → World → Prop} {c : Code} (hc : regOf (Try.f3.body.getD .skip) 48 = some c) (a : Act) {v : Vpl} {wq : World} {g n cp k : Nat} {x : Value} (hF : Fpl a v) (h29v : v.v29 = .slice (some ⟨g, 0, none⟩) n cp) (h31v : v.v31 = .int .i64 (k : Int)) (hk : k < n) (hcl : wq.cell? ⟨g, k, none⟩ = some x) (hfr : wq.frozen? ⟨g, k, none⟩ = false)
    (hQ : ∀ a', Fpl a' v → K a' (wq.setCell ⟨g, k, none⟩ (.string ⟨#[63]⟩))) :
    Code.wp Try.prog c (Exit.then K fun _ _ _ => False) a wq := by
  have HQ := hide hQ
  clear hQ
  obtain ⟨t', d'⟩ := a
  obtain ⟨v0, v1, v2, v3, v8, v9, v10, v11, v12, v13, v14, v15, v16, v17, v18, v19, v20, v21, v22, v23, v24, v25, v26, v27, v28, v29, v30, v31, v106⟩ := v
  simp only at h29v h31v HQ
  subst h29v h31v
  obtain ⟨hs1, hd1, q0, q1, q2, q3, q8, q9, q10, q11, q12, q13, q14, q15, q16, q17, q18, q19, q20, q21, q22, q23, q24, q25, q26, q27, q28, q29, q30, q31, q106⟩ := hF
  obtain ⟨u, hu⟩ := frame_pl t' hs1
  simp only at hd1 q0 q1 q2 q3 q8 q9 q10 q11 q12 q13 q14 q15 q16 q17 q18 q19 q20 q21 q22 q23 q24 q25 q26 q27 q28 q29 q30 q31 q106
  subst hu hd1
  have e0 : u 0 = v0 := q0
  have e1 : u 1 = v1 := q1
  have e2 : u 2 = v2 := q2
  have e3 : u 3 = v3 := q3
  have e8 : u 8 = v8 := q8
  have e9 : u 9 = v9 := q9
  have e10 : u 10 = v10 := q10
  have e11 : u 11 = v11 := q11
  have e12 : u 12 = v12 := q12
  have e13 : u 13 = v13 := q13
  have e14 : u 14 = v14 := q14
  have e15 : u 15 = v15 := q15
  have e16 : u 16 = v16 := q16
  have e17 : u 17 = v17 := q17
  have e18 : u 18 = v18 := q18
  have e19 : u 19 = v19 := q19
  have e20 : u 20 = v20 := q20
  have e21 : u 21 = v21 := q21
  have e22 : u 22 = v22 := q22
  have e23 : u 23 = v23 := q23
  have e24 : u 24 = v24 := q24
  have e25 : u 25 = v25 := q25
  have e26 : u 26 = v26 := q26
  have e27 : u 27 = v27 := q27
  have e28 : u 28 = v28 := q28
  have e29 : u 29 = .slice (some ⟨g, 0, none⟩) n cp := q29
  have e30 : u 30 = v30 := q30
  have e31 : u 31 = .int .i64 (k : Int) := q31
  have e106 : u 106 = v106 := q106
  rw [e0, e1, e2, e3, e8, e9, e10, e11, e12, e13, e14, e15, e16, e17, e18, e19, e20, e21, e22, e23, e24, e25, e26, e27, e28, e29, e30, e31, e106]
  clear q0 e0 q1 e1 q2 e2 q3 e3 q8 e8 q9 e9 q10 e10 q11 e11 q12 e12 q13 e13 q14 e14 q15 e15 q16 e16 q17 e17 q18 e18 q19 e19 q20 e20 q21 e21 q22 e22 q23 e23 q24 e24 q25 e25 q26 e26 q27 e27 q28 e28 q29 e29 q30 e30 q31 e31 q106 e106 hs1
  simp only [Try.f3, Option.getD_some, regOf] at hc
  injection hc with hc
  subst hc
  have i0 : (0 : Int) ≤ (k : Int) := by omega
  have i1 : (k : Int) < (n : Int) := by omega
  clear hk
  go_wp2
  exact HQ.out _ ⟨rfl, rfl, rfl, rfl, rfl, rfl, rfl, rfl, rfl, rfl, rfl, rfl, rfl, rfl, rfl, rfl, rfl, rfl, rfl, rfl, rfl, rfl, rfl, rfl, rfl, rfl, rfl, rfl, rfl, rfl, rfl⟩
set_option maxHeartbeats 8000000 in
set_option maxRecDepth 100000 in
theorem pl_r47 {K : Act → World → Prop} {c : Code} (hc : regOf (Try.f3.body.getD .skip) 47 = some c) (a : Act) {v : Vpl} {wq : World} {k : Nat} (hF : Fpl a v) (h31v : v.v31 = .int .i64 (k : Int)) (hk : k ≤ 17592186044416) (hQ : ∀ a', Fpl a' { v with v31 := .int .i64 ((k + 1 : Nat) : Int) } → K a' wq) :
    Code.wp Try.prog c (Exit.then K fun _ _ _ => False) a wq := by
  have HQ := hide hQ
  clear hQ
  obtain ⟨t', d'⟩ := a
  obtain ⟨v0, v1, v2, v3, v8, v9, v10, v11, v12, v13, v14, v15, v16, v17, v18, v19, v20, v21, v22, v23, v24, v25, v26, v27, v28, v29, v30, v31, v106⟩ := v
  simp only at h31v HQ
  subst h31v
  obtain ⟨hs1, hd1, q0, q1, q2, q3, q8, q9, q10, q11, q12, q13, q14, q15, q16, q17, q18, q19, q20, q21, q22, q23, q24, q25, q26, q27, q28, q29, q30, q31, q106⟩ := hF
  obtain ⟨u, hu⟩ := frame_pl t' hs1
  simp only at hd1 q0 q1 q2 q3 q8 q9 q10 q11 q12 q13 q14 q15 q16 q17 q18 q19 q20 q21 q22 q23 q24 q25 q26 q27 q28 q29 q30 q31 q106
  subst hu hd1
  have e0 : u 0 = v0 := q0
  have e1 : u 1 = v1 := q1
  have e2 : u 2 = v2 := q2
  have e3 : u 3 = v3 := q3
  have e8 : u 8 = v8 := q8
  have e9 : u 9 = v9 := q9
  have e10 : u 10 = v10 := q10
  have e11 : u 11 = v11 := q11
  have e12 : u 12 = v12 := q12
  have e13 : u 13 = v13 := q13
  have e14 : u 14 = v14 := q14
  have e15 : u 15 = v15 := q15
  have e16 : u 16 = v16 := q16
  have e17 : u 17 = v17 := q17
  have e18 : u 18 = v18 := q18
  have e19 : u 19 = v19 := q19
  have e20 : u 20 = v20 := q20
  have e21 : u 21 = v21 := q21
  have e22 : u 22 = v22 := q22
  have e23 : u 23 = v23 := q23
  have e24 : u 24 = v24 := q24
  have e25 : u 25 = v25 := q25
  have e26 : u 26 = v26 := q26
  have e27 : u 27 = v27 := q27
  have e28 : u 28 = v28 := q28
  have e29 : u 29 = v29 := q29
  have e30 : u 30 = v30 := q30
  have e31 : u 31 = .int .i64 (k : Int) := q31
  have e106 : u 106 = v106 := q106
  rw [e0, e1, e2, e3, e8, e9, e10, e11, e12, e13, e14, e15, e16, e17, e18, e19, e20, e21, e22, e23, e24, e25, e26, e27, e28, e29, e30, e31, e106]
  clear q0 e0 q1 e1 q2 e2 q3 e3 q8 e8 q9 e9 q10 e10 q11 e11 q12 e12 q13 e13 q14 e14 q15 e15 q16 e16 q17 e17 q18 e18 q19 e19 q20 e20 q21 e21 q22 e22 q23 e23 q24 e24 q25 e25 q26 e26 q27 e27 q28 e28 q29 e29 q30 e30 q31 e31 q106 e106 hs1
  simp only [Try.f3, Option.getD_some, regOf] at hc
  injection hc with hc
  subst hc
  have hc : ((k + 1 : Nat) : Int) = (k : Int) + 1 := by omega
  rw [hc] at HQ
  go_wp2
  exact HQ.out _ ⟨rfl, rfl, rfl, rfl, rfl, rfl, rfl, rfl, rfl, rfl, rfl, rfl, rfl, rfl, rfl, rfl, rfl, rfl, rfl, rfl, rfl, rfl, rfl, rfl, rfl, rfl, rfl, rfl, rfl, rfl, rfl⟩
set_option maxHeartbeats 8000000 in
set_option maxRecDepth 100000 in
theorem pl_r20 {K : Act → World → Prop} {c : Code} (hc : regOf (Try.f3.body.getD .skip) 20 = some c) (a : Act) {v : Vpl} {wq : World} {k : Nat} (hF : Fpl a v) (h17v : v.v17 = .int .i64 (k : Int)) (hk : k ≤ 1000000) (hQ : ∀ a', Fpl a' { v with v17 := .int .i64 ((k + 1 : Nat) : Int) } → K a' wq) :
    Code.wp Try.prog c (Exit.then K fun _ _ _ => False) a wq := by
  have HQ := hide hQ
  clear hQ
  obtain ⟨t', d'⟩ := a
  obtain ⟨v0, v1, v2, v3, v8, v9, v10, v11, v12, v13, v14, v15, v16, v17, v18, v19, v20, v21, v22, v23, v24, v25, v26, v27, v28, v29, v30, v31, v106⟩ := v
  simp only at h17v HQ
  subst h17v
  obtain ⟨hs1, hd1, q0, q1, q2, q3, q8, q9, q10, q11, q12, q13, q14, q15, q16, q17, q18, q19, q20, q21, q22, q23, q24, q25, q26, q27, q28, q29, q30, q31, q106⟩ := hF
  obtain ⟨u, hu⟩ := frame_pl t' hs1
  simp only at hd1 q0 q1 q2 q3 q8 q9 q10 q11 q12 q13 q14 q15 q16 q17 q18 q19 q20 q21 q22 q23 q24 q25 q26 q27 q28 q29 q30 q31 q106
  subst hu hd1
  have e0 : u 0 = v0 := q0
  have e1 : u 1 = v1 := q1
  have e2 : u 2 = v2 := q2
  have e3 : u 3 = v3 := q3
  have e8 : u 8 = v8 := q8
  have e9 : u 9 = v9 := q9
  have e10 : u 10 = v10 := q10
  have e11 : u 11 = v11 := q11
  have e12 : u 12 = v12 := q12
  have e13 : u 13 = v13 := q13
  have e14 : u 14 = v14 := q14
  have e15 : u 15 = v15 := q15
  have e16 : u 16 = v16 := q16
  have e17 : u 17 = .int .i64 (k : Int) := q17
  have e18 : u 18 = v18 := q18
  have e19 : u 19 = v19 := q19
  have e20 : u 20 = v20 := q20
  have e21 : u 21 = v21 := q21
  have e22 : u 22 = v22 := q22
  have e23 : u 23 = v23 := q23
  have e24 : u 24 = v24 := q24
  have e25 : u 25 = v25 := q25
  have e26 : u 26 = v26 := q26
  have e27 : u 27 = v27 := q27
  have e28 : u 28 = v28 := q28
  have e29 : u 29 = v29 := q29
  have e30 : u 30 = v30 := q30
  have e31 : u 31 = v31 := q31
  have e106 : u 106 = v106 := q106
  rw [e0, e1, e2, e3, e8, e9, e10, e11, e12, e13, e14, e15, e16, e17, e18, e19, e20, e21, e22, e23, e24, e25, e26, e27, e28, e29, e30, e31, e106]
  clear q0 e0 q1 e1 q2 e2 q3 e3 q8 e8 q9 e9 q10 e10 q11 e11 q12 e12 q13 e13 q14 e14 q15 e15 q16 e16 q17 e17 q18 e18 q19 e19 q20 e20 q21 e21 q22 e22 q23 e23 q24 e24 q25 e25 q26 e26 q27 e27 q28 e28 q29 e29 q30 e30 q31 e31 q106 e106 hs1
  simp only [Try.f3, Option.getD_some, regOf] at hc
  injection hc with hc
  subst hc
  have hc : ((k + 1 : Nat) : Int) = (k : Int) + 1 := by omega
  rw [hc] at HQ
  go_wp2
  exact HQ.out _ ⟨rfl, rfl, rfl, rfl, rfl, rfl, rfl, rfl, rfl, rfl, rfl, rfl, rfl, rfl, rfl, rfl, rfl, rfl, rfl, rfl, rfl, rfl, rfl, rfl, rfl, rfl, rfl, rfl, rfl, rfl, rfl⟩
set_option maxHeartbeats 8000000 in
set_option maxRecDepth 100000 in
theorem pl_r49 {K : Act → World → Prop} {c : Code} (hc : regOf (Try.f3.body.getD .skip) 49 = some c) (a : Act) {v : Vpl} {wq : World}  (hF : Fpl a v) (h9v : v.v9 = .bool true) (hQ : ∀ a', Fpl a' { v with v8 := .bool true } → K a' wq) :
    Code.wp Try.prog c (Exit.then K fun _ _ _ => False) a wq := by
  have HQ := hide hQ
  clear hQ
  obtain ⟨t', d'⟩ := a
  obtain ⟨v0, v1, v2, v3, v8, v9, v10, v11, v12, v13, v14, v15, v16, v17, v18, v19, v20, v21, v22, v23, v24, v25, v26, v27, v28, v29, v30, v31, v106⟩ := v
  simp only at h9v HQ
  subst h9v
  obtain ⟨hs1, hd1, q0, q1, q2, q3, q8, q9, q10, q11, q12, q13, q14, q15, q16, q17, q18, q19, q20, q21, q22, q23, q24, q25, q26, q27, q28, q29, q30, q31, q106⟩ := hF
  obtain ⟨u, hu⟩ := frame_pl t' hs1
  simp only at hd1 q0 q1 q2 q3 q8 q9 q10 q11 q12 q13 q14 q15 q16 q17 q18 q19 q20 q21 q22 q23 q24 q25 q26 q27 q28 q29 q30 q31 q106
  subst hu hd1
  have e0 : u 0 = v0 := q0
  have e1 : u 1 = v1 := q1
  have e2 : u 2 = v2 := q2
  have e3 : u 3 = v3 := q3
  have e8 : u 8 = v8 := q8
  have e9 : u 9 = .bool true := q9
  have e10 : u 10 = v10 := q10
  have e11 : u 11 = v11 := q11
  have e12 : u 12 = v12 := q12
  have e13 : u 13 = v13 := q13
  have e14 : u 14 = v14 := q14
  have e15 : u 15 = v15 := q15
  have e16 : u 16 = v16 := q16
  have e17 : u 17 = v17 := q17
  have e18 : u 18 = v18 := q18
  have e19 : u 19 = v19 := q19
  have e20 : u 20 = v20 := q20
  have e21 : u 21 = v21 := q21
  have e22 : u 22 = v22 := q22
  have e23 : u 23 = v23 := q23
  have e24 : u 24 = v24 := q24
  have e25 : u 25 = v25 := q25
  have e26 : u 26 = v26 := q26
  have e27 : u 27 = v27 := q27
  have e28 : u 28 = v28 := q28
  have e29 : u 29 = v29 := q29
  have e30 : u 30 = v30 := q30
  have e31 : u 31 = v31 := q31
  have e106 : u 106 = v106 := q106
  rw [e0, e1, e2, e3, e8, e9, e10, e11, e12, e13, e14, e15, e16, e17, e18, e19, e20, e21, e22, e23, e24, e25, e26, e27, e28, e29, e30, e31, e106]
  clear q0 e0 q1 e1 q2 e2 q3 e3 q8 e8 q9 e9 q10 e10 q11 e11 q12 e12 q13 e13 q14 e14 q15 e15 q16 e16 q17 e17 q18 e18 q19 e19 q20 e20 q21 e21 q22 e22 q23 e23 q24 e24 q25 e25 q26 e26 q27 e27 q28 e28 q29 e29 q30 e30 q31 e31 q106 e106 hs1
  simp only [Try.f3, Option.getD_some, regOf] at hc
  injection hc with hc
  subst hc
  go_wp2
  exact HQ.out _ ⟨rfl, rfl, rfl, rfl, rfl, rfl, rfl, rfl, rfl, rfl, rfl, rfl, rfl, rfl, rfl, rfl, rfl, rfl, rfl, rfl, rfl, rfl, rfl, rfl, rfl, rfl, rfl, rfl, rfl, rfl, rfl⟩
theorem pl_ret {W : World} {a : Act} {v : Vpl} {x : Bool} {R : Ending → World → Prop} (hF : Fpl a v) (h2 : v.v8 = .bool x) (h : R (.returned (.bool x)) W) : bodyPost Try.prog Try.f3 R .ret a W := by
  have g0 := slot_get (hF.s8.trans h2)
  refine bodyPost_ret (v := .bool x) ?_ hF.defers h
  simp [results, Try.results3, go_sem, g0]
end Go.Proofs.Ytjgbgbgajadgnaa
