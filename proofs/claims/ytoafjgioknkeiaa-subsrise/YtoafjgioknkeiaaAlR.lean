/-
  SubsAll's regions (mkal.py).
-/
import Derived.Test.YtoafjgioknkeiaaSXa
import Derived.Test.YtoafjgioknkeiaaPhiS
namespace Go.Proofs.Ytoafjgioknkeiaa.Y
open Go.RowKit

attribute [local go_sem ↓] Go.wp_at_zero Go.wp_at_succ
set_option linter.unusedSimpArgs false
set_option linter.unusedVariables false
theorem rel_recs {w w' : World} {B sb st j : Nat} {ao : Option Addr} {n cp : Nat} {l : List Rec} (hlt : sb < B) (h : RecsAt w (.slice ao n cp) l) (hn : ∀ g, (Value.slice ao 0 cp).ownBlock = some g → B ≤ g) (r : (j ≠ st → Below w.heap.size w w') ∧ (j = st → Touch (fun k => k = sb) w w')) : RecsAt w' (.slice ao n cp) l := by
  by_cases e : j = st
  · exact recs_touch h (r.2 e) fun k hk q => by have := hn k ((own_block _ _ _ _).trans hk); omega
  · exact h.below (r.1 e)
set_option maxRecDepth 100000 in
theorem frame_al (t : Array Value) (h : t.size = 110) : ∃ u : Nat → Value, t = List.toArray (u 0 :: u 1 :: u 2 :: u 3 :: u 4 :: u 5 :: u 6 :: u 7 :: u 8 :: u 9 :: u 10 :: u 11 :: u 12 :: u 13 :: u 14 :: u 15 :: u 16 :: u 17 :: u 18 :: u 19 :: u 20 :: u 21 :: u 22 :: u 23 :: u 24 :: u 25 :: u 26 :: u 27 :: u 28 :: u 29 :: u 30 :: u 31 :: u 32 :: u 33 :: u 34 :: u 35 :: u 36 :: u 37 :: u 38 :: u 39 :: u 40 :: u 41 :: u 42 :: u 43 :: u 44 :: u 45 :: u 46 :: u 47 :: u 48 :: u 49 :: u 50 :: u 51 :: u 52 :: u 53 :: u 54 :: u 55 :: u 56 :: u 57 :: u 58 :: u 59 :: u 60 :: u 61 :: u 62 :: u 63 :: u 64 :: u 65 :: u 66 :: u 67 :: u 68 :: u 69 :: u 70 :: u 71 :: u 72 :: u 73 :: u 74 :: u 75 :: u 76 :: u 77 :: u 78 :: u 79 :: u 80 :: u 81 :: u 82 :: u 83 :: u 84 :: u 85 :: u 86 :: u 87 :: u 88 :: u 89 :: u 90 :: u 91 :: u 92 :: u 93 :: u 94 :: u 95 :: u 96 :: u 97 :: u 98 :: u 99 :: u 100 :: u 101 :: u 102 :: u 103 :: u 104 :: u 105 :: u 106 :: u 107 :: u 108 :: u 109 :: []) := by
  refine ⟨fun i => t.getD i undef, ?_⟩
  have e : (List.toArray ((fun i => t.getD i undef) 0 :: (fun i => t.getD i undef) 1 :: (fun i => t.getD i undef) 2 :: (fun i => t.getD i undef) 3 :: (fun i => t.getD i undef) 4 :: (fun i => t.getD i undef) 5 :: (fun i => t.getD i undef) 6 :: (fun i => t.getD i undef) 7 :: (fun i => t.getD i undef) 8 :: (fun i => t.getD i undef) 9 :: (fun i => t.getD i undef) 10 :: (fun i => t.getD i undef) 11 :: (fun i => t.getD i undef) 12 :: (fun i => t.getD i undef) 13 :: (fun i => t.getD i undef) 14 :: (fun i => t.getD i undef) 15 :: (fun i => t.getD i undef) 16 :: (fun i => t.getD i undef) 17 :: (fun i => t.getD i undef) 18 :: (fun i => t.getD i undef) 19 :: (fun i => t.getD i undef) 20 :: (fun i => t.getD i undef) 21 :: (fun i => t.getD i undef) 22 :: (fun i => t.getD i undef) 23 :: (fun i => t.getD i undef) 24 :: (fun i => t.getD i undef) 25 :: (fun i => t.getD i undef) 26 :: (fun i => t.getD i undef) 27 :: (fun i => t.getD i undef) 28 :: (fun i => t.getD i undef) 29 :: (fun i => t.getD i undef) 30 :: (fun i => t.getD i undef) 31 :: (fun i => t.getD i undef) 32 :: (fun i => t.getD i undef) 33 :: (fun i => t.getD i undef) 34 :: (fun i => t.getD i undef) 35 :: (fun i => t.getD i undef) 36 :: (fun i => t.getD i undef) 37 :: (fun i => t.getD i undef) 38 :: (fun i => t.getD i undef) 39 :: (fun i => t.getD i undef) 40 :: (fun i => t.getD i undef) 41 :: (fun i => t.getD i undef) 42 :: (fun i => t.getD i undef) 43 :: (fun i => t.getD i undef) 44 :: (fun i => t.getD i undef) 45 :: (fun i => t.getD i undef) 46 :: (fun i => t.getD i undef) 47 :: (fun i => t.getD i undef) 48 :: (fun i => t.getD i undef) 49 :: (fun i => t.getD i undef) 50 :: (fun i => t.getD i undef) 51 :: (fun i => t.getD i undef) 52 :: (fun i => t.getD i undef) 53 :: (fun i => t.getD i undef) 54 :: (fun i => t.getD i undef) 55 :: (fun i => t.getD i undef) 56 :: (fun i => t.getD i undef) 57 :: (fun i => t.getD i undef) 58 :: (fun i => t.getD i undef) 59 :: (fun i => t.getD i undef) 60 :: (fun i => t.getD i undef) 61 :: (fun i => t.getD i undef) 62 :: (fun i => t.getD i undef) 63 :: (fun i => t.getD i undef) 64 :: (fun i => t.getD i undef) 65 :: (fun i => t.getD i undef) 66 :: (fun i => t.getD i undef) 67 :: (fun i => t.getD i undef) 68 :: (fun i => t.getD i undef) 69 :: (fun i => t.getD i undef) 70 :: (fun i => t.getD i undef) 71 :: (fun i => t.getD i undef) 72 :: (fun i => t.getD i undef) 73 :: (fun i => t.getD i undef) 74 :: (fun i => t.getD i undef) 75 :: (fun i => t.getD i undef) 76 :: (fun i => t.getD i undef) 77 :: (fun i => t.getD i undef) 78 :: (fun i => t.getD i undef) 79 :: (fun i => t.getD i undef) 80 :: (fun i => t.getD i undef) 81 :: (fun i => t.getD i undef) 82 :: (fun i => t.getD i undef) 83 :: (fun i => t.getD i undef) 84 :: (fun i => t.getD i undef) 85 :: (fun i => t.getD i undef) 86 :: (fun i => t.getD i undef) 87 :: (fun i => t.getD i undef) 88 :: (fun i => t.getD i undef) 89 :: (fun i => t.getD i undef) 90 :: (fun i => t.getD i undef) 91 :: (fun i => t.getD i undef) 92 :: (fun i => t.getD i undef) 93 :: (fun i => t.getD i undef) 94 :: (fun i => t.getD i undef) 95 :: (fun i => t.getD i undef) 96 :: (fun i => t.getD i undef) 97 :: (fun i => t.getD i undef) 98 :: (fun i => t.getD i undef) 99 :: (fun i => t.getD i undef) 100 :: (fun i => t.getD i undef) 101 :: (fun i => t.getD i undef) 102 :: (fun i => t.getD i undef) 103 :: (fun i => t.getD i undef) 104 :: (fun i => t.getD i undef) 105 :: (fun i => t.getD i undef) 106 :: (fun i => t.getD i undef) 107 :: (fun i => t.getD i undef) 108 :: (fun i => t.getD i undef) 109 :: []) : Array Value) = ((List.range 110).map fun i => t.getD i undef).toArray := rfl
  refine Eq.trans ?_ e.symm
  apply Array.ext
  · simp [h]
  · intro k h1 h2
    simp [Array.getD, h1]
/-- The slots that matter. -/
structure Val where
  v0 : Value
  v1 : Value
  v2 : Value
  v6 : Value
  v7 : Value
  v8 : Value
  v10 : Value
  v11 : Value
  v12 : Value
  v14 : Value
  v15 : Value
  v16 : Value
  v17 : Value
  v18 : Value
structure Fal (a : Act) (v : Val) : Prop where
  size : a.tmps.size = 110
  defers : a.defers = []
  s0 : a.tmps.getD 0 undef = v.v0
  s1 : a.tmps.getD 1 undef = v.v1
  s2 : a.tmps.getD 2 undef = v.v2
  s6 : a.tmps.getD 6 undef = v.v6
  s7 : a.tmps.getD 7 undef = v.v7
  s8 : a.tmps.getD 8 undef = v.v8
  s10 : a.tmps.getD 10 undef = v.v10
  s11 : a.tmps.getD 11 undef = v.v11
  s12 : a.tmps.getD 12 undef = v.v12
  s14 : a.tmps.getD 14 undef = v.v14
  s15 : a.tmps.getD 15 undef = v.v15
  s16 : a.tmps.getD 16 undef = v.v16
  s17 : a.tmps.getD 17 undef = v.v17
  s18 : a.tmps.getD 18 undef = v.v18
set_option maxHeartbeats 8000000 in
set_option maxRecDepth 100000 in
theorem al_r0 {K : Act → World → Prop} {c : Code} (hc : regOf (Try.f4.body.getD .skip) 0 = some c) (a : Act) {v : Val} {wq : World}  (hF : Fal a v) (hQ : ∀ a', Fal a' { v with v6 := .bool false } → K a' wq) :
    Code.wp Try.prog c (Exit.then K fun _ _ _ => False) a wq := by
  have HQ := hide hQ
  clear hQ
  obtain ⟨t', d'⟩ := a
  obtain ⟨v0, v1, v2, v6, v7, v8, v10, v11, v12, v14, v15, v16, v17, v18⟩ := v
  obtain ⟨hs1, hd1, q0, q1, q2, q6, q7, q8, q10, q11, q12, q14, q15, q16, q17, q18⟩ := hF
  obtain ⟨u, hu⟩ := frame_al t' hs1
  simp only at hd1 q0 q1 q2 q6 q7 q8 q10 q11 q12 q14 q15 q16 q17 q18
  subst hu hd1
  have e0 : u 0 = v0 := q0
  have e1 : u 1 = v1 := q1
  have e2 : u 2 = v2 := q2
  have e6 : u 6 = v6 := q6
  have e7 : u 7 = v7 := q7
  have e8 : u 8 = v8 := q8
  have e10 : u 10 = v10 := q10
  have e11 : u 11 = v11 := q11
  have e12 : u 12 = v12 := q12
  have e14 : u 14 = v14 := q14
  have e15 : u 15 = v15 := q15
  have e16 : u 16 = v16 := q16
  have e17 : u 17 = v17 := q17
  have e18 : u 18 = v18 := q18
  rw [e0, e1, e2, e6, e7, e8, e10, e11, e12, e14, e15, e16, e17, e18]
  clear q0 e0 q1 e1 q2 e2 q6 e6 q7 e7 q8 e8 q10 e10 q11 e11 q12 e12 q14 e14 q15 e15 q16 e16 q17 e17 q18 e18 hs1
  simp only [Try.f4, Option.getD_some, regOf] at hc
  injection hc with hc
  subst hc
  generalize u 3 = u3
  generalize u 4 = u4
  generalize u 5 = u5
  generalize u 9 = u9
  generalize u 13 = u13
  generalize u 19 = u19
  generalize u 20 = u20
  generalize u 21 = u21
  generalize u 22 = u22
  generalize u 23 = u23
  generalize u 24 = u24
  generalize u 25 = u25
  generalize u 26 = u26
  generalize u 27 = u27
  generalize u 28 = u28
  generalize u 29 = u29
  generalize u 30 = u30
  generalize u 31 = u31
  generalize u 32 = u32
  generalize u 33 = u33
  generalize u 34 = u34
  generalize u 35 = u35
  generalize u 36 = u36
  generalize u 37 = u37
  generalize u 38 = u38
  generalize u 39 = u39
  generalize u 40 = u40
  generalize u 41 = u41
  generalize u 42 = u42
  generalize u 43 = u43
  generalize u 44 = u44
  generalize u 45 = u45
  generalize u 46 = u46
  generalize u 47 = u47
  generalize u 48 = u48
  generalize u 49 = u49
  generalize u 50 = u50
  generalize u 51 = u51
  generalize u 52 = u52
  generalize u 53 = u53
  generalize u 54 = u54
  generalize u 55 = u55
  generalize u 56 = u56
  generalize u 57 = u57
  generalize u 58 = u58
  generalize u 59 = u59
  generalize u 60 = u60
  generalize u 61 = u61
  generalize u 62 = u62
  generalize u 63 = u63
  generalize u 64 = u64
  generalize u 65 = u65
  generalize u 66 = u66
  generalize u 67 = u67
  generalize u 68 = u68
  generalize u 69 = u69
  generalize u 70 = u70
  generalize u 71 = u71
  generalize u 72 = u72
  generalize u 73 = u73
  generalize u 74 = u74
  generalize u 75 = u75
  generalize u 76 = u76
  generalize u 77 = u77
  generalize u 78 = u78
  generalize u 79 = u79
  generalize u 80 = u80
  generalize u 81 = u81
  generalize u 82 = u82
  generalize u 83 = u83
  generalize u 84 = u84
  generalize u 85 = u85
  generalize u 86 = u86
  generalize u 87 = u87
  generalize u 88 = u88
  generalize u 89 = u89
  generalize u 90 = u90
  generalize u 91 = u91
  generalize u 92 = u92
  generalize u 93 = u93
  generalize u 94 = u94
  generalize u 95 = u95
  generalize u 96 = u96
  generalize u 97 = u97
  generalize u 98 = u98
  generalize u 99 = u99
  generalize u 100 = u100
  generalize u 101 = u101
  generalize u 102 = u102
  generalize u 103 = u103
  generalize u 104 = u104
  generalize u 105 = u105
  generalize u 106 = u106
  generalize u 107 = u107
  generalize u 108 = u108
  generalize u 109 = u109
  clear u
  go_wp2
  exact HQ.out _ ⟨rfl, rfl, rfl, rfl, rfl, rfl, rfl, rfl, rfl, rfl, rfl, rfl, rfl, rfl, rfl, rfl⟩
set_option maxHeartbeats 8000000 in
set_option maxRecDepth 100000 in
theorem al_r1 {K : Act → World → Prop} {c : Code} (hc : regOf (Try.f4.body.getD .skip) 1 = some c) (a : Act) {v : Val} {wq : World} {R : World → Prop} (hF : Fal a v) (hE : Calls Try.prog 7 #[] wq fun e w' => e = .returned (.bool true) ∧ R w')
    (hQ : ∀ a' w' , Fal a' { v with v7 := .bool true } → R w' → K a' w') :
    Code.wp Try.prog c (Exit.then K fun _ _ _ => False) a wq := by
  have HQ := hide hQ
  clear hQ
  obtain ⟨t', d'⟩ := a
  obtain ⟨v0, v1, v2, v6, v7, v8, v10, v11, v12, v14, v15, v16, v17, v18⟩ := v
  obtain ⟨hs1, hd1, q0, q1, q2, q6, q7, q8, q10, q11, q12, q14, q15, q16, q17, q18⟩ := hF
  obtain ⟨u, hu⟩ := frame_al t' hs1
  simp only at hd1 q0 q1 q2 q6 q7 q8 q10 q11 q12 q14 q15 q16 q17 q18
  subst hu hd1
  have e0 : u 0 = v0 := q0
  have e1 : u 1 = v1 := q1
  have e2 : u 2 = v2 := q2
  have e6 : u 6 = v6 := q6
  have e7 : u 7 = v7 := q7
  have e8 : u 8 = v8 := q8
  have e10 : u 10 = v10 := q10
  have e11 : u 11 = v11 := q11
  have e12 : u 12 = v12 := q12
  have e14 : u 14 = v14 := q14
  have e15 : u 15 = v15 := q15
  have e16 : u 16 = v16 := q16
  have e17 : u 17 = v17 := q17
  have e18 : u 18 = v18 := q18
  rw [e0, e1, e2, e6, e7, e8, e10, e11, e12, e14, e15, e16, e17, e18]
  clear q0 e0 q1 e1 q2 e2 q6 e6 q7 e7 q8 e8 q10 e10 q11 e11 q12 e12 q14 e14 q15 e15 q16 e16 q17 e17 q18 e18 hs1
  simp only [Try.f4, Option.getD_some, regOf] at hc
  injection hc with hc
  subst hc
  generalize u 3 = u3
  generalize u 4 = u4
  generalize u 5 = u5
  generalize u 9 = u9
  generalize u 13 = u13
  generalize u 19 = u19
  generalize u 20 = u20
  generalize u 21 = u21
  generalize u 22 = u22
  generalize u 23 = u23
  generalize u 24 = u24
  generalize u 25 = u25
  generalize u 26 = u26
  generalize u 27 = u27
  generalize u 28 = u28
  generalize u 29 = u29
  generalize u 30 = u30
  generalize u 31 = u31
  generalize u 32 = u32
  generalize u 33 = u33
  generalize u 34 = u34
  generalize u 35 = u35
  generalize u 36 = u36
  generalize u 37 = u37
  generalize u 38 = u38
  generalize u 39 = u39
  generalize u 40 = u40
  generalize u 41 = u41
  generalize u 42 = u42
  generalize u 43 = u43
  generalize u 44 = u44
  generalize u 45 = u45
  generalize u 46 = u46
  generalize u 47 = u47
  generalize u 48 = u48
  generalize u 49 = u49
  generalize u 50 = u50
  generalize u 51 = u51
  generalize u 52 = u52
  generalize u 53 = u53
  generalize u 54 = u54
  generalize u 55 = u55
  generalize u 56 = u56
  generalize u 57 = u57
  generalize u 58 = u58
  generalize u 59 = u59
  generalize u 60 = u60
  generalize u 61 = u61
  generalize u 62 = u62
  generalize u 63 = u63
  generalize u 64 = u64
  generalize u 65 = u65
  generalize u 66 = u66
  generalize u 67 = u67
  generalize u 68 = u68
  generalize u 69 = u69
  generalize u 70 = u70
  generalize u 71 = u71
  generalize u 72 = u72
  generalize u 73 = u73
  generalize u 74 = u74
  generalize u 75 = u75
  generalize u 76 = u76
  generalize u 77 = u77
  generalize u 78 = u78
  generalize u 79 = u79
  generalize u 80 = u80
  generalize u 81 = u81
  generalize u 82 = u82
  generalize u 83 = u83
  generalize u 84 = u84
  generalize u 85 = u85
  generalize u 86 = u86
  generalize u 87 = u87
  generalize u 88 = u88
  generalize u 89 = u89
  generalize u 90 = u90
  generalize u 91 = u91
  generalize u 92 = u92
  generalize u 93 = u93
  generalize u 94 = u94
  generalize u 95 = u95
  generalize u 96 = u96
  generalize u 97 = u97
  generalize u 98 = u98
  generalize u 99 = u99
  generalize u 100 = u100
  generalize u 101 = u101
  generalize u 102 = u102
  generalize u 103 = u103
  generalize u 104 = u104
  generalize u 105 = u105
  generalize u 106 = u106
  generalize u 107 = u107
  generalize u 108 = u108
  generalize u 109 = u109
  clear u
  have HE := hide hE
  clear hE
  go_wp2_with (go_at_call 7; refine HE.out.mono ?_; rintro e w1 ⟨rfl, r1⟩; have R1 := hide r1; clear r1)
  exact HQ.out _ _ ⟨rfl, rfl, rfl, rfl, rfl, rfl, rfl, rfl, rfl, rfl, rfl, rfl, rfl, rfl, rfl, rfl⟩ R1.out
set_option maxHeartbeats 8000000 in
set_option maxRecDepth 100000 in
theorem al_r2 {K : Act → World → Prop} {c : Code} (hc : regOf (Try.f4.body.getD .skip) 2 = some c) (a : Act) {v : Val} {wq : World} {R : LOC → World → Prop} (hF : Fal a v) (hE : Calls Try.prog 8 #[.string ⟨#[116]⟩] wq fun e w' => ∃ L : LOC, e = .returned (.tuple #[.pointer (some ⟨L.b, 0, none⟩), .int .i64 0]) ∧ R L w')
    (hQ : ∀ a' w' (L : LOC), Fal a' { v with v8 := .pointer (some ⟨L.b, 0, none⟩) } → R L w' → K a' w') :
    Code.wp Try.prog c (Exit.then K fun _ _ _ => False) a wq := by
  have HQ := hide hQ
  clear hQ
  obtain ⟨t', d'⟩ := a
  obtain ⟨v0, v1, v2, v6, v7, v8, v10, v11, v12, v14, v15, v16, v17, v18⟩ := v
  obtain ⟨hs1, hd1, q0, q1, q2, q6, q7, q8, q10, q11, q12, q14, q15, q16, q17, q18⟩ := hF
  obtain ⟨u, hu⟩ := frame_al t' hs1
  simp only at hd1 q0 q1 q2 q6 q7 q8 q10 q11 q12 q14 q15 q16 q17 q18
  subst hu hd1
  have e0 : u 0 = v0 := q0
  have e1 : u 1 = v1 := q1
  have e2 : u 2 = v2 := q2
  have e6 : u 6 = v6 := q6
  have e7 : u 7 = v7 := q7
  have e8 : u 8 = v8 := q8
  have e10 : u 10 = v10 := q10
  have e11 : u 11 = v11 := q11
  have e12 : u 12 = v12 := q12
  have e14 : u 14 = v14 := q14
  have e15 : u 15 = v15 := q15
  have e16 : u 16 = v16 := q16
  have e17 : u 17 = v17 := q17
  have e18 : u 18 = v18 := q18
  rw [e0, e1, e2, e6, e7, e8, e10, e11, e12, e14, e15, e16, e17, e18]
  clear q0 e0 q1 e1 q2 e2 q6 e6 q7 e7 q8 e8 q10 e10 q11 e11 q12 e12 q14 e14 q15 e15 q16 e16 q17 e17 q18 e18 hs1
  simp only [Try.f4, Option.getD_some, regOf] at hc
  injection hc with hc
  subst hc
  generalize u 3 = u3
  generalize u 4 = u4
  generalize u 5 = u5
  generalize u 9 = u9
  generalize u 13 = u13
  generalize u 19 = u19
  generalize u 20 = u20
  generalize u 21 = u21
  generalize u 22 = u22
  generalize u 23 = u23
  generalize u 24 = u24
  generalize u 25 = u25
  generalize u 26 = u26
  generalize u 27 = u27
  generalize u 28 = u28
  generalize u 29 = u29
  generalize u 30 = u30
  generalize u 31 = u31
  generalize u 32 = u32
  generalize u 33 = u33
  generalize u 34 = u34
  generalize u 35 = u35
  generalize u 36 = u36
  generalize u 37 = u37
  generalize u 38 = u38
  generalize u 39 = u39
  generalize u 40 = u40
  generalize u 41 = u41
  generalize u 42 = u42
  generalize u 43 = u43
  generalize u 44 = u44
  generalize u 45 = u45
  generalize u 46 = u46
  generalize u 47 = u47
  generalize u 48 = u48
  generalize u 49 = u49
  generalize u 50 = u50
  generalize u 51 = u51
  generalize u 52 = u52
  generalize u 53 = u53
  generalize u 54 = u54
  generalize u 55 = u55
  generalize u 56 = u56
  generalize u 57 = u57
  generalize u 58 = u58
  generalize u 59 = u59
  generalize u 60 = u60
  generalize u 61 = u61
  generalize u 62 = u62
  generalize u 63 = u63
  generalize u 64 = u64
  generalize u 65 = u65
  generalize u 66 = u66
  generalize u 67 = u67
  generalize u 68 = u68
  generalize u 69 = u69
  generalize u 70 = u70
  generalize u 71 = u71
  generalize u 72 = u72
  generalize u 73 = u73
  generalize u 74 = u74
  generalize u 75 = u75
  generalize u 76 = u76
  generalize u 77 = u77
  generalize u 78 = u78
  generalize u 79 = u79
  generalize u 80 = u80
  generalize u 81 = u81
  generalize u 82 = u82
  generalize u 83 = u83
  generalize u 84 = u84
  generalize u 85 = u85
  generalize u 86 = u86
  generalize u 87 = u87
  generalize u 88 = u88
  generalize u 89 = u89
  generalize u 90 = u90
  generalize u 91 = u91
  generalize u 92 = u92
  generalize u 93 = u93
  generalize u 94 = u94
  generalize u 95 = u95
  generalize u 96 = u96
  generalize u 97 = u97
  generalize u 98 = u98
  generalize u 99 = u99
  generalize u 100 = u100
  generalize u 101 = u101
  generalize u 102 = u102
  generalize u 103 = u103
  generalize u 104 = u104
  generalize u 105 = u105
  generalize u 106 = u106
  generalize u 107 = u107
  generalize u 108 = u108
  generalize u 109 = u109
  clear u
  have HE := hide hE
  clear hE
  go_wp2_with (go_at_call 8; refine HE.out.mono ?_; rintro e w1 ⟨L, rfl, r1⟩; have R1 := hide r1; clear r1)
  exact HQ.out _ _ L ⟨rfl, rfl, rfl, rfl, rfl, rfl, rfl, rfl, rfl, rfl, rfl, rfl, rfl, rfl, rfl, rfl⟩ R1.out
set_option maxHeartbeats 8000000 in
set_option maxRecDepth 100000 in
theorem al_r3 {K : Act → World → Prop} {c : Code} (hc : regOf (Try.f4.body.getD .skip) 3 = some c) (a : Act) {v : Val} {wq : World} {L : LOC} (hF : Fal a v) (h8v : v.v8 = .pointer (some ⟨L.b, 0, none⟩)) (hQ : ∀ a', Fal a' v → a'.tmps.getD 25 undef = .bool false → K a' wq) :
    Code.wp Try.prog c (Exit.then K fun _ _ _ => False) a wq := by
  have HQ := hide hQ
  clear hQ
  obtain ⟨t', d'⟩ := a
  obtain ⟨v0, v1, v2, v6, v7, v8, v10, v11, v12, v14, v15, v16, v17, v18⟩ := v
  simp only at h8v HQ
  subst h8v
  obtain ⟨hs1, hd1, q0, q1, q2, q6, q7, q8, q10, q11, q12, q14, q15, q16, q17, q18⟩ := hF
  obtain ⟨u, hu⟩ := frame_al t' hs1
  simp only at hd1 q0 q1 q2 q6 q7 q8 q10 q11 q12 q14 q15 q16 q17 q18
  subst hu hd1
  have e0 : u 0 = v0 := q0
  have e1 : u 1 = v1 := q1
  have e2 : u 2 = v2 := q2
  have e6 : u 6 = v6 := q6
  have e7 : u 7 = v7 := q7
  have e8 : u 8 = .pointer (some ⟨L.b, 0, none⟩) := q8
  have e10 : u 10 = v10 := q10
  have e11 : u 11 = v11 := q11
  have e12 : u 12 = v12 := q12
  have e14 : u 14 = v14 := q14
  have e15 : u 15 = v15 := q15
  have e16 : u 16 = v16 := q16
  have e17 : u 17 = v17 := q17
  have e18 : u 18 = v18 := q18
  rw [e0, e1, e2, e6, e7, e8, e10, e11, e12, e14, e15, e16, e17, e18]
  clear q0 e0 q1 e1 q2 e2 q6 e6 q7 e7 q8 e8 q10 e10 q11 e11 q12 e12 q14 e14 q15 e15 q16 e16 q17 e17 q18 e18 hs1
  simp only [Try.f4, Option.getD_some, regOf] at hc
  injection hc with hc
  subst hc
  generalize u 3 = u3
  generalize u 4 = u4
  generalize u 5 = u5
  generalize u 9 = u9
  generalize u 13 = u13
  generalize u 19 = u19
  generalize u 20 = u20
  generalize u 21 = u21
  generalize u 22 = u22
  generalize u 23 = u23
  generalize u 24 = u24
  generalize u 25 = u25
  generalize u 26 = u26
  generalize u 27 = u27
  generalize u 28 = u28
  generalize u 29 = u29
  generalize u 30 = u30
  generalize u 31 = u31
  generalize u 32 = u32
  generalize u 33 = u33
  generalize u 34 = u34
  generalize u 35 = u35
  generalize u 36 = u36
  generalize u 37 = u37
  generalize u 38 = u38
  generalize u 39 = u39
  generalize u 40 = u40
  generalize u 41 = u41
  generalize u 42 = u42
  generalize u 43 = u43
  generalize u 44 = u44
  generalize u 45 = u45
  generalize u 46 = u46
  generalize u 47 = u47
  generalize u 48 = u48
  generalize u 49 = u49
  generalize u 50 = u50
  generalize u 51 = u51
  generalize u 52 = u52
  generalize u 53 = u53
  generalize u 54 = u54
  generalize u 55 = u55
  generalize u 56 = u56
  generalize u 57 = u57
  generalize u 58 = u58
  generalize u 59 = u59
  generalize u 60 = u60
  generalize u 61 = u61
  generalize u 62 = u62
  generalize u 63 = u63
  generalize u 64 = u64
  generalize u 65 = u65
  generalize u 66 = u66
  generalize u 67 = u67
  generalize u 68 = u68
  generalize u 69 = u69
  generalize u 70 = u70
  generalize u 71 = u71
  generalize u 72 = u72
  generalize u 73 = u73
  generalize u 74 = u74
  generalize u 75 = u75
  generalize u 76 = u76
  generalize u 77 = u77
  generalize u 78 = u78
  generalize u 79 = u79
  generalize u 80 = u80
  generalize u 81 = u81
  generalize u 82 = u82
  generalize u 83 = u83
  generalize u 84 = u84
  generalize u 85 = u85
  generalize u 86 = u86
  generalize u 87 = u87
  generalize u 88 = u88
  generalize u 89 = u89
  generalize u 90 = u90
  generalize u 91 = u91
  generalize u 92 = u92
  generalize u 93 = u93
  generalize u 94 = u94
  generalize u 95 = u95
  generalize u 96 = u96
  generalize u 97 = u97
  generalize u 98 = u98
  generalize u 99 = u99
  generalize u 100 = u100
  generalize u 101 = u101
  generalize u 102 = u102
  generalize u 103 = u103
  generalize u 104 = u104
  generalize u 105 = u105
  generalize u 106 = u106
  generalize u 107 = u107
  generalize u 108 = u108
  generalize u 109 = u109
  clear u
  go_wp2
  exact HQ.out _ ⟨rfl, rfl, rfl, rfl, rfl, rfl, rfl, rfl, rfl, rfl, rfl, rfl, rfl, rfl, rfl, rfl⟩ (by first | rfl | (simp; done))
set_option maxHeartbeats 8000000 in
set_option maxRecDepth 100000 in
theorem al_r5 {K : Act → World → Prop} {c : Code} (hc : regOf (Try.f4.body.getD .skip) 5 = some c) (a : Act) {v : Val} {wq : World} {m : Int} {n : Nat} (hF : Fal a v) (h0v : v.v0 = .int .i64 m) (hE : Calls Try.prog 9 #[.int .i64 m, .int .i64 301] wq fun e w' => e = .returned (.int .i64 (n : Int)) ∧ w' = wq)
    (hQ : ∀ a' w' , Fal a' { v with v10 := .int .i64 (n : Int) } → w' = wq → K a' w') :
    Code.wp Try.prog c (Exit.then K fun _ _ _ => False) a wq := by
  have HQ := hide hQ
  clear hQ
  obtain ⟨t', d'⟩ := a
  obtain ⟨v0, v1, v2, v6, v7, v8, v10, v11, v12, v14, v15, v16, v17, v18⟩ := v
  simp only at h0v HQ
  subst h0v
  obtain ⟨hs1, hd1, q0, q1, q2, q6, q7, q8, q10, q11, q12, q14, q15, q16, q17, q18⟩ := hF
  obtain ⟨u, hu⟩ := frame_al t' hs1
  simp only at hd1 q0 q1 q2 q6 q7 q8 q10 q11 q12 q14 q15 q16 q17 q18
  subst hu hd1
  have e0 : u 0 = .int .i64 m := q0
  have e1 : u 1 = v1 := q1
  have e2 : u 2 = v2 := q2
  have e6 : u 6 = v6 := q6
  have e7 : u 7 = v7 := q7
  have e8 : u 8 = v8 := q8
  have e10 : u 10 = v10 := q10
  have e11 : u 11 = v11 := q11
  have e12 : u 12 = v12 := q12
  have e14 : u 14 = v14 := q14
  have e15 : u 15 = v15 := q15
  have e16 : u 16 = v16 := q16
  have e17 : u 17 = v17 := q17
  have e18 : u 18 = v18 := q18
  rw [e0, e1, e2, e6, e7, e8, e10, e11, e12, e14, e15, e16, e17, e18]
  clear q0 e0 q1 e1 q2 e2 q6 e6 q7 e7 q8 e8 q10 e10 q11 e11 q12 e12 q14 e14 q15 e15 q16 e16 q17 e17 q18 e18 hs1
  simp only [Try.f4, Option.getD_some, regOf] at hc
  injection hc with hc
  subst hc
  generalize u 3 = u3
  generalize u 4 = u4
  generalize u 5 = u5
  generalize u 9 = u9
  generalize u 13 = u13
  generalize u 19 = u19
  generalize u 20 = u20
  generalize u 21 = u21
  generalize u 22 = u22
  generalize u 23 = u23
  generalize u 24 = u24
  generalize u 25 = u25
  generalize u 26 = u26
  generalize u 27 = u27
  generalize u 28 = u28
  generalize u 29 = u29
  generalize u 30 = u30
  generalize u 31 = u31
  generalize u 32 = u32
  generalize u 33 = u33
  generalize u 34 = u34
  generalize u 35 = u35
  generalize u 36 = u36
  generalize u 37 = u37
  generalize u 38 = u38
  generalize u 39 = u39
  generalize u 40 = u40
  generalize u 41 = u41
  generalize u 42 = u42
  generalize u 43 = u43
  generalize u 44 = u44
  generalize u 45 = u45
  generalize u 46 = u46
  generalize u 47 = u47
  generalize u 48 = u48
  generalize u 49 = u49
  generalize u 50 = u50
  generalize u 51 = u51
  generalize u 52 = u52
  generalize u 53 = u53
  generalize u 54 = u54
  generalize u 55 = u55
  generalize u 56 = u56
  generalize u 57 = u57
  generalize u 58 = u58
  generalize u 59 = u59
  generalize u 60 = u60
  generalize u 61 = u61
  generalize u 62 = u62
  generalize u 63 = u63
  generalize u 64 = u64
  generalize u 65 = u65
  generalize u 66 = u66
  generalize u 67 = u67
  generalize u 68 = u68
  generalize u 69 = u69
  generalize u 70 = u70
  generalize u 71 = u71
  generalize u 72 = u72
  generalize u 73 = u73
  generalize u 74 = u74
  generalize u 75 = u75
  generalize u 76 = u76
  generalize u 77 = u77
  generalize u 78 = u78
  generalize u 79 = u79
  generalize u 80 = u80
  generalize u 81 = u81
  generalize u 82 = u82
  generalize u 83 = u83
  generalize u 84 = u84
  generalize u 85 = u85
  generalize u 86 = u86
  generalize u 87 = u87
  generalize u 88 = u88
  generalize u 89 = u89
  generalize u 90 = u90
  generalize u 91 = u91
  generalize u 92 = u92
  generalize u 93 = u93
  generalize u 94 = u94
  generalize u 95 = u95
  generalize u 96 = u96
  generalize u 97 = u97
  generalize u 98 = u98
  generalize u 99 = u99
  generalize u 100 = u100
  generalize u 101 = u101
  generalize u 102 = u102
  generalize u 103 = u103
  generalize u 104 = u104
  generalize u 105 = u105
  generalize u 106 = u106
  generalize u 107 = u107
  generalize u 108 = u108
  generalize u 109 = u109
  clear u
  have HE := hide hE
  clear hE
  go_wp2_with (go_at_call 9; refine HE.out.mono ?_; rintro e w1 ⟨rfl, r1⟩; have R1 := hide r1; clear r1)
  exact HQ.out _ _ ⟨rfl, rfl, rfl, rfl, rfl, rfl, rfl, rfl, rfl, rfl, rfl, rfl, rfl, rfl, rfl, rfl⟩ R1.out
set_option maxHeartbeats 8000000 in
set_option maxRecDepth 100000 in
theorem al_r6 {K : Act → World → Prop} {c : Code} (hc : regOf (Try.f4.body.getD .skip) 6 = some c) (a : Act) {v : Val} {wq : World}  (hF : Fal a v) (hQ : ∀ a', Fal a' { v with v11 := .int .i64 0 } → K a' wq) :
    Code.wp Try.prog c (Exit.then K fun _ _ _ => False) a wq := by
  have HQ := hide hQ
  clear hQ
  obtain ⟨t', d'⟩ := a
  obtain ⟨v0, v1, v2, v6, v7, v8, v10, v11, v12, v14, v15, v16, v17, v18⟩ := v
  obtain ⟨hs1, hd1, q0, q1, q2, q6, q7, q8, q10, q11, q12, q14, q15, q16, q17, q18⟩ := hF
  obtain ⟨u, hu⟩ := frame_al t' hs1
  simp only at hd1 q0 q1 q2 q6 q7 q8 q10 q11 q12 q14 q15 q16 q17 q18
  subst hu hd1
  have e0 : u 0 = v0 := q0
  have e1 : u 1 = v1 := q1
  have e2 : u 2 = v2 := q2
  have e6 : u 6 = v6 := q6
  have e7 : u 7 = v7 := q7
  have e8 : u 8 = v8 := q8
  have e10 : u 10 = v10 := q10
  have e11 : u 11 = v11 := q11
  have e12 : u 12 = v12 := q12
  have e14 : u 14 = v14 := q14
  have e15 : u 15 = v15 := q15
  have e16 : u 16 = v16 := q16
  have e17 : u 17 = v17 := q17
  have e18 : u 18 = v18 := q18
  rw [e0, e1, e2, e6, e7, e8, e10, e11, e12, e14, e15, e16, e17, e18]
  clear q0 e0 q1 e1 q2 e2 q6 e6 q7 e7 q8 e8 q10 e10 q11 e11 q12 e12 q14 e14 q15 e15 q16 e16 q17 e17 q18 e18 hs1
  simp only [Try.f4, Option.getD_some, regOf] at hc
  injection hc with hc
  subst hc
  generalize u 3 = u3
  generalize u 4 = u4
  generalize u 5 = u5
  generalize u 9 = u9
  generalize u 13 = u13
  generalize u 19 = u19
  generalize u 20 = u20
  generalize u 21 = u21
  generalize u 22 = u22
  generalize u 23 = u23
  generalize u 24 = u24
  generalize u 25 = u25
  generalize u 26 = u26
  generalize u 27 = u27
  generalize u 28 = u28
  generalize u 29 = u29
  generalize u 30 = u30
  generalize u 31 = u31
  generalize u 32 = u32
  generalize u 33 = u33
  generalize u 34 = u34
  generalize u 35 = u35
  generalize u 36 = u36
  generalize u 37 = u37
  generalize u 38 = u38
  generalize u 39 = u39
  generalize u 40 = u40
  generalize u 41 = u41
  generalize u 42 = u42
  generalize u 43 = u43
  generalize u 44 = u44
  generalize u 45 = u45
  generalize u 46 = u46
  generalize u 47 = u47
  generalize u 48 = u48
  generalize u 49 = u49
  generalize u 50 = u50
  generalize u 51 = u51
  generalize u 52 = u52
  generalize u 53 = u53
  generalize u 54 = u54
  generalize u 55 = u55
  generalize u 56 = u56
  generalize u 57 = u57
  generalize u 58 = u58
  generalize u 59 = u59
  generalize u 60 = u60
  generalize u 61 = u61
  generalize u 62 = u62
  generalize u 63 = u63
  generalize u 64 = u64
  generalize u 65 = u65
  generalize u 66 = u66
  generalize u 67 = u67
  generalize u 68 = u68
  generalize u 69 = u69
  generalize u 70 = u70
  generalize u 71 = u71
  generalize u 72 = u72
  generalize u 73 = u73
  generalize u 74 = u74
  generalize u 75 = u75
  generalize u 76 = u76
  generalize u 77 = u77
  generalize u 78 = u78
  generalize u 79 = u79
  generalize u 80 = u80
  generalize u 81 = u81
  generalize u 82 = u82
  generalize u 83 = u83
  generalize u 84 = u84
  generalize u 85 = u85
  generalize u 86 = u86
  generalize u 87 = u87
  generalize u 88 = u88
  generalize u 89 = u89
  generalize u 90 = u90
  generalize u 91 = u91
  generalize u 92 = u92
  generalize u 93 = u93
  generalize u 94 = u94
  generalize u 95 = u95
  generalize u 96 = u96
  generalize u 97 = u97
  generalize u 98 = u98
  generalize u 99 = u99
  generalize u 100 = u100
  generalize u 101 = u101
  generalize u 102 = u102
  generalize u 103 = u103
  generalize u 104 = u104
  generalize u 105 = u105
  generalize u 106 = u106
  generalize u 107 = u107
  generalize u 108 = u108
  generalize u 109 = u109
  clear u
  go_wp2
  exact HQ.out _ ⟨rfl, rfl, rfl, rfl, rfl, rfl, rfl, rfl, rfl, rfl, rfl, rfl, rfl, rfl, rfl, rfl⟩
set_option maxHeartbeats 8000000 in
set_option maxRecDepth 100000 in
theorem al_r7 {K : Act → World → Prop} {c : Code} (hc : regOf (Try.f4.body.getD .skip) 7 = some c) (a : Act) {v : Val} {wq : World} {i n : Nat} (hF : Fal a v) (h11v : v.v11 = .int .i64 (i : Int)) (h10v : v.v10 = .int .i64 (n : Int)) (hQ : ∀ a', Fal a' v → a'.tmps.getD 30 undef = .bool (decide (i < n)) → K a' wq) :
    Code.wp Try.prog c (Exit.then K fun _ _ _ => False) a wq := by
  have HQ := hide hQ
  clear hQ
  obtain ⟨t', d'⟩ := a
  obtain ⟨v0, v1, v2, v6, v7, v8, v10, v11, v12, v14, v15, v16, v17, v18⟩ := v
  simp only at h11v h10v HQ
  subst h11v h10v
  obtain ⟨hs1, hd1, q0, q1, q2, q6, q7, q8, q10, q11, q12, q14, q15, q16, q17, q18⟩ := hF
  obtain ⟨u, hu⟩ := frame_al t' hs1
  simp only at hd1 q0 q1 q2 q6 q7 q8 q10 q11 q12 q14 q15 q16 q17 q18
  subst hu hd1
  have e0 : u 0 = v0 := q0
  have e1 : u 1 = v1 := q1
  have e2 : u 2 = v2 := q2
  have e6 : u 6 = v6 := q6
  have e7 : u 7 = v7 := q7
  have e8 : u 8 = v8 := q8
  have e10 : u 10 = .int .i64 (n : Int) := q10
  have e11 : u 11 = .int .i64 (i : Int) := q11
  have e12 : u 12 = v12 := q12
  have e14 : u 14 = v14 := q14
  have e15 : u 15 = v15 := q15
  have e16 : u 16 = v16 := q16
  have e17 : u 17 = v17 := q17
  have e18 : u 18 = v18 := q18
  rw [e0, e1, e2, e6, e7, e8, e10, e11, e12, e14, e15, e16, e17, e18]
  clear q0 e0 q1 e1 q2 e2 q6 e6 q7 e7 q8 e8 q10 e10 q11 e11 q12 e12 q14 e14 q15 e15 q16 e16 q17 e17 q18 e18 hs1
  simp only [Try.f4, Option.getD_some, regOf] at hc
  injection hc with hc
  subst hc
  generalize u 3 = u3
  generalize u 4 = u4
  generalize u 5 = u5
  generalize u 9 = u9
  generalize u 13 = u13
  generalize u 19 = u19
  generalize u 20 = u20
  generalize u 21 = u21
  generalize u 22 = u22
  generalize u 23 = u23
  generalize u 24 = u24
  generalize u 25 = u25
  generalize u 26 = u26
  generalize u 27 = u27
  generalize u 28 = u28
  generalize u 29 = u29
  generalize u 30 = u30
  generalize u 31 = u31
  generalize u 32 = u32
  generalize u 33 = u33
  generalize u 34 = u34
  generalize u 35 = u35
  generalize u 36 = u36
  generalize u 37 = u37
  generalize u 38 = u38
  generalize u 39 = u39
  generalize u 40 = u40
  generalize u 41 = u41
  generalize u 42 = u42
  generalize u 43 = u43
  generalize u 44 = u44
  generalize u 45 = u45
  generalize u 46 = u46
  generalize u 47 = u47
  generalize u 48 = u48
  generalize u 49 = u49
  generalize u 50 = u50
  generalize u 51 = u51
  generalize u 52 = u52
  generalize u 53 = u53
  generalize u 54 = u54
  generalize u 55 = u55
  generalize u 56 = u56
  generalize u 57 = u57
  generalize u 58 = u58
  generalize u 59 = u59
  generalize u 60 = u60
  generalize u 61 = u61
  generalize u 62 = u62
  generalize u 63 = u63
  generalize u 64 = u64
  generalize u 65 = u65
  generalize u 66 = u66
  generalize u 67 = u67
  generalize u 68 = u68
  generalize u 69 = u69
  generalize u 70 = u70
  generalize u 71 = u71
  generalize u 72 = u72
  generalize u 73 = u73
  generalize u 74 = u74
  generalize u 75 = u75
  generalize u 76 = u76
  generalize u 77 = u77
  generalize u 78 = u78
  generalize u 79 = u79
  generalize u 80 = u80
  generalize u 81 = u81
  generalize u 82 = u82
  generalize u 83 = u83
  generalize u 84 = u84
  generalize u 85 = u85
  generalize u 86 = u86
  generalize u 87 = u87
  generalize u 88 = u88
  generalize u 89 = u89
  generalize u 90 = u90
  generalize u 91 = u91
  generalize u 92 = u92
  generalize u 93 = u93
  generalize u 94 = u94
  generalize u 95 = u95
  generalize u 96 = u96
  generalize u 97 = u97
  generalize u 98 = u98
  generalize u 99 = u99
  generalize u 100 = u100
  generalize u 101 = u101
  generalize u 102 = u102
  generalize u 103 = u103
  generalize u 104 = u104
  generalize u 105 = u105
  generalize u 106 = u106
  generalize u 107 = u107
  generalize u 108 = u108
  generalize u 109 = u109
  clear u
  go_wp2
  exact HQ.out _ ⟨rfl, rfl, rfl, rfl, rfl, rfl, rfl, rfl, rfl, rfl, rfl, rfl, rfl, rfl, rfl, rfl⟩ (by first | rfl | (simp; done))
set_option maxHeartbeats 8000000 in
set_option maxRecDepth 100000 in
theorem al_r9 {K : Act → World → Prop} {c : Code} (hc : regOf (Try.f4.body.getD .skip) 9 = some c) (a : Act) {v : Val} {wq : World} {L : LOC} {i : Int} {R : World → Prop} (hF : Fal a v) (h8v : v.v8 = .pointer (some ⟨L.b, 0, none⟩)) (h11v : v.v11 = .int .i64 i) (hE : Calls Try.prog 10 #[.pointer (some ⟨L.b, 0, none⟩), .string ⟨#[112]⟩, .int .i64 i, .string ⟨#[]⟩, .string ⟨#[]⟩] wq fun e w' => (∃ x y : Int, e = .returned (.tuple #[.int .i64 x, .int .i64 y])) ∧ R w')
    (hQ : ∀ a' w' , Fal a' v → R w' → K a' w') :
    Code.wp Try.prog c (Exit.then K fun _ _ _ => False) a wq := by
  have HQ := hide hQ
  clear hQ
  obtain ⟨t', d'⟩ := a
  obtain ⟨v0, v1, v2, v6, v7, v8, v10, v11, v12, v14, v15, v16, v17, v18⟩ := v
  simp only at h8v h11v HQ
  subst h8v h11v
  obtain ⟨hs1, hd1, q0, q1, q2, q6, q7, q8, q10, q11, q12, q14, q15, q16, q17, q18⟩ := hF
  obtain ⟨u, hu⟩ := frame_al t' hs1
  simp only at hd1 q0 q1 q2 q6 q7 q8 q10 q11 q12 q14 q15 q16 q17 q18
  subst hu hd1
  have e0 : u 0 = v0 := q0
  have e1 : u 1 = v1 := q1
  have e2 : u 2 = v2 := q2
  have e6 : u 6 = v6 := q6
  have e7 : u 7 = v7 := q7
  have e8 : u 8 = .pointer (some ⟨L.b, 0, none⟩) := q8
  have e10 : u 10 = v10 := q10
  have e11 : u 11 = .int .i64 i := q11
  have e12 : u 12 = v12 := q12
  have e14 : u 14 = v14 := q14
  have e15 : u 15 = v15 := q15
  have e16 : u 16 = v16 := q16
  have e17 : u 17 = v17 := q17
  have e18 : u 18 = v18 := q18
  rw [e0, e1, e2, e6, e7, e8, e10, e11, e12, e14, e15, e16, e17, e18]
  clear q0 e0 q1 e1 q2 e2 q6 e6 q7 e7 q8 e8 q10 e10 q11 e11 q12 e12 q14 e14 q15 e15 q16 e16 q17 e17 q18 e18 hs1
  simp only [Try.f4, Option.getD_some, regOf] at hc
  injection hc with hc
  subst hc
  generalize u 3 = u3
  generalize u 4 = u4
  generalize u 5 = u5
  generalize u 9 = u9
  generalize u 13 = u13
  generalize u 19 = u19
  generalize u 20 = u20
  generalize u 21 = u21
  generalize u 22 = u22
  generalize u 23 = u23
  generalize u 24 = u24
  generalize u 25 = u25
  generalize u 26 = u26
  generalize u 27 = u27
  generalize u 28 = u28
  generalize u 29 = u29
  generalize u 30 = u30
  generalize u 31 = u31
  generalize u 32 = u32
  generalize u 33 = u33
  generalize u 34 = u34
  generalize u 35 = u35
  generalize u 36 = u36
  generalize u 37 = u37
  generalize u 38 = u38
  generalize u 39 = u39
  generalize u 40 = u40
  generalize u 41 = u41
  generalize u 42 = u42
  generalize u 43 = u43
  generalize u 44 = u44
  generalize u 45 = u45
  generalize u 46 = u46
  generalize u 47 = u47
  generalize u 48 = u48
  generalize u 49 = u49
  generalize u 50 = u50
  generalize u 51 = u51
  generalize u 52 = u52
  generalize u 53 = u53
  generalize u 54 = u54
  generalize u 55 = u55
  generalize u 56 = u56
  generalize u 57 = u57
  generalize u 58 = u58
  generalize u 59 = u59
  generalize u 60 = u60
  generalize u 61 = u61
  generalize u 62 = u62
  generalize u 63 = u63
  generalize u 64 = u64
  generalize u 65 = u65
  generalize u 66 = u66
  generalize u 67 = u67
  generalize u 68 = u68
  generalize u 69 = u69
  generalize u 70 = u70
  generalize u 71 = u71
  generalize u 72 = u72
  generalize u 73 = u73
  generalize u 74 = u74
  generalize u 75 = u75
  generalize u 76 = u76
  generalize u 77 = u77
  generalize u 78 = u78
  generalize u 79 = u79
  generalize u 80 = u80
  generalize u 81 = u81
  generalize u 82 = u82
  generalize u 83 = u83
  generalize u 84 = u84
  generalize u 85 = u85
  generalize u 86 = u86
  generalize u 87 = u87
  generalize u 88 = u88
  generalize u 89 = u89
  generalize u 90 = u90
  generalize u 91 = u91
  generalize u 92 = u92
  generalize u 93 = u93
  generalize u 94 = u94
  generalize u 95 = u95
  generalize u 96 = u96
  generalize u 97 = u97
  generalize u 98 = u98
  generalize u 99 = u99
  generalize u 100 = u100
  generalize u 101 = u101
  generalize u 102 = u102
  generalize u 103 = u103
  generalize u 104 = u104
  generalize u 105 = u105
  generalize u 106 = u106
  generalize u 107 = u107
  generalize u 108 = u108
  generalize u 109 = u109
  clear u
  have HE := hide hE
  clear hE
  go_wp2_with (go_at_call 10; refine HE.out.mono ?_; rintro e w1 ⟨⟨x, y, rfl⟩, r1⟩; have R1 := hide r1; clear r1)
  exact HQ.out _ _ ⟨rfl, rfl, rfl, rfl, rfl, rfl, rfl, rfl, rfl, rfl, rfl, rfl, rfl, rfl, rfl, rfl⟩ R1.out
set_option maxHeartbeats 8000000 in
set_option maxRecDepth 100000 in
theorem al_r8 {K : Act → World → Prop} {c : Code} (hc : regOf (Try.f4.body.getD .skip) 8 = some c) (a : Act) {v : Val} {wq : World} {i : Nat} (hF : Fal a v) (h11v : v.v11 = .int .i64 (i : Int)) (hi : i ≤ 1000000)
    (hQ : ∀ a', Fal a' { v with v11 := .int .i64 ((i + 1 : Nat) : Int) } → K a' wq) :
    Code.wp Try.prog c (Exit.then K fun _ _ _ => False) a wq := by
  have HQ := hide hQ
  clear hQ
  obtain ⟨t', d'⟩ := a
  obtain ⟨v0, v1, v2, v6, v7, v8, v10, v11, v12, v14, v15, v16, v17, v18⟩ := v
  simp only at h11v HQ
  subst h11v
  obtain ⟨hs1, hd1, q0, q1, q2, q6, q7, q8, q10, q11, q12, q14, q15, q16, q17, q18⟩ := hF
  obtain ⟨u, hu⟩ := frame_al t' hs1
  simp only at hd1 q0 q1 q2 q6 q7 q8 q10 q11 q12 q14 q15 q16 q17 q18
  subst hu hd1
  have e0 : u 0 = v0 := q0
  have e1 : u 1 = v1 := q1
  have e2 : u 2 = v2 := q2
  have e6 : u 6 = v6 := q6
  have e7 : u 7 = v7 := q7
  have e8 : u 8 = v8 := q8
  have e10 : u 10 = v10 := q10
  have e11 : u 11 = .int .i64 (i : Int) := q11
  have e12 : u 12 = v12 := q12
  have e14 : u 14 = v14 := q14
  have e15 : u 15 = v15 := q15
  have e16 : u 16 = v16 := q16
  have e17 : u 17 = v17 := q17
  have e18 : u 18 = v18 := q18
  rw [e0, e1, e2, e6, e7, e8, e10, e11, e12, e14, e15, e16, e17, e18]
  clear q0 e0 q1 e1 q2 e2 q6 e6 q7 e7 q8 e8 q10 e10 q11 e11 q12 e12 q14 e14 q15 e15 q16 e16 q17 e17 q18 e18 hs1
  simp only [Try.f4, Option.getD_some, regOf] at hc
  injection hc with hc
  subst hc
  generalize u 3 = u3
  generalize u 4 = u4
  generalize u 5 = u5
  generalize u 9 = u9
  generalize u 13 = u13
  generalize u 19 = u19
  generalize u 20 = u20
  generalize u 21 = u21
  generalize u 22 = u22
  generalize u 23 = u23
  generalize u 24 = u24
  generalize u 25 = u25
  generalize u 26 = u26
  generalize u 27 = u27
  generalize u 28 = u28
  generalize u 29 = u29
  generalize u 30 = u30
  generalize u 31 = u31
  generalize u 32 = u32
  generalize u 33 = u33
  generalize u 34 = u34
  generalize u 35 = u35
  generalize u 36 = u36
  generalize u 37 = u37
  generalize u 38 = u38
  generalize u 39 = u39
  generalize u 40 = u40
  generalize u 41 = u41
  generalize u 42 = u42
  generalize u 43 = u43
  generalize u 44 = u44
  generalize u 45 = u45
  generalize u 46 = u46
  generalize u 47 = u47
  generalize u 48 = u48
  generalize u 49 = u49
  generalize u 50 = u50
  generalize u 51 = u51
  generalize u 52 = u52
  generalize u 53 = u53
  generalize u 54 = u54
  generalize u 55 = u55
  generalize u 56 = u56
  generalize u 57 = u57
  generalize u 58 = u58
  generalize u 59 = u59
  generalize u 60 = u60
  generalize u 61 = u61
  generalize u 62 = u62
  generalize u 63 = u63
  generalize u 64 = u64
  generalize u 65 = u65
  generalize u 66 = u66
  generalize u 67 = u67
  generalize u 68 = u68
  generalize u 69 = u69
  generalize u 70 = u70
  generalize u 71 = u71
  generalize u 72 = u72
  generalize u 73 = u73
  generalize u 74 = u74
  generalize u 75 = u75
  generalize u 76 = u76
  generalize u 77 = u77
  generalize u 78 = u78
  generalize u 79 = u79
  generalize u 80 = u80
  generalize u 81 = u81
  generalize u 82 = u82
  generalize u 83 = u83
  generalize u 84 = u84
  generalize u 85 = u85
  generalize u 86 = u86
  generalize u 87 = u87
  generalize u 88 = u88
  generalize u 89 = u89
  generalize u 90 = u90
  generalize u 91 = u91
  generalize u 92 = u92
  generalize u 93 = u93
  generalize u 94 = u94
  generalize u 95 = u95
  generalize u 96 = u96
  generalize u 97 = u97
  generalize u 98 = u98
  generalize u 99 = u99
  generalize u 100 = u100
  generalize u 101 = u101
  generalize u 102 = u102
  generalize u 103 = u103
  generalize u 104 = u104
  generalize u 105 = u105
  generalize u 106 = u106
  generalize u 107 = u107
  generalize u 108 = u108
  generalize u 109 = u109
  clear u
  go_wp2
  exact HQ.out _ ⟨rfl, rfl, rfl, rfl, rfl, rfl, rfl, rfl, rfl, (by first | rfl | (simp; done) | (go_num; done)), rfl, rfl, rfl, rfl, rfl, rfl⟩
set_option maxHeartbeats 8000000 in
set_option maxRecDepth 100000 in
theorem al_r10 {K : Act → World → Prop} {c : Code} (hc : regOf (Try.f4.body.getD .skip) 10 = some c) (a : Act) {v : Val} {wq : World} {m : Int} {n x : Nat} (hF : Fal a v) (h1v : v.v1 = .int .i64 m) (h10v : v.v10 = .int .i64 (n : Int)) (hn : n ≤ 1000)
    (hE : Calls Try.prog 9 #[.int .i64 m, .int .i64 ((n : Int) + 1)] wq fun e w' => e = .returned (.int .i64 (x : Int)) ∧ w' = wq)
    (hQ : ∀ a' w' , Fal a' { v with v1 := .int .i64 (x : Int) } → w' = wq → K a' w') :
    Code.wp Try.prog c (Exit.then K fun _ _ _ => False) a wq := by
  have HQ := hide hQ
  clear hQ
  obtain ⟨t', d'⟩ := a
  obtain ⟨v0, v1, v2, v6, v7, v8, v10, v11, v12, v14, v15, v16, v17, v18⟩ := v
  simp only at h1v h10v HQ
  subst h1v h10v
  obtain ⟨hs1, hd1, q0, q1, q2, q6, q7, q8, q10, q11, q12, q14, q15, q16, q17, q18⟩ := hF
  obtain ⟨u, hu⟩ := frame_al t' hs1
  simp only at hd1 q0 q1 q2 q6 q7 q8 q10 q11 q12 q14 q15 q16 q17 q18
  subst hu hd1
  have e0 : u 0 = v0 := q0
  have e1 : u 1 = .int .i64 m := q1
  have e2 : u 2 = v2 := q2
  have e6 : u 6 = v6 := q6
  have e7 : u 7 = v7 := q7
  have e8 : u 8 = v8 := q8
  have e10 : u 10 = .int .i64 (n : Int) := q10
  have e11 : u 11 = v11 := q11
  have e12 : u 12 = v12 := q12
  have e14 : u 14 = v14 := q14
  have e15 : u 15 = v15 := q15
  have e16 : u 16 = v16 := q16
  have e17 : u 17 = v17 := q17
  have e18 : u 18 = v18 := q18
  rw [e0, e1, e2, e6, e7, e8, e10, e11, e12, e14, e15, e16, e17, e18]
  clear q0 e0 q1 e1 q2 e2 q6 e6 q7 e7 q8 e8 q10 e10 q11 e11 q12 e12 q14 e14 q15 e15 q16 e16 q17 e17 q18 e18 hs1
  simp only [Try.f4, Option.getD_some, regOf] at hc
  injection hc with hc
  subst hc
  generalize u 3 = u3
  generalize u 4 = u4
  generalize u 5 = u5
  generalize u 9 = u9
  generalize u 13 = u13
  generalize u 19 = u19
  generalize u 20 = u20
  generalize u 21 = u21
  generalize u 22 = u22
  generalize u 23 = u23
  generalize u 24 = u24
  generalize u 25 = u25
  generalize u 26 = u26
  generalize u 27 = u27
  generalize u 28 = u28
  generalize u 29 = u29
  generalize u 30 = u30
  generalize u 31 = u31
  generalize u 32 = u32
  generalize u 33 = u33
  generalize u 34 = u34
  generalize u 35 = u35
  generalize u 36 = u36
  generalize u 37 = u37
  generalize u 38 = u38
  generalize u 39 = u39
  generalize u 40 = u40
  generalize u 41 = u41
  generalize u 42 = u42
  generalize u 43 = u43
  generalize u 44 = u44
  generalize u 45 = u45
  generalize u 46 = u46
  generalize u 47 = u47
  generalize u 48 = u48
  generalize u 49 = u49
  generalize u 50 = u50
  generalize u 51 = u51
  generalize u 52 = u52
  generalize u 53 = u53
  generalize u 54 = u54
  generalize u 55 = u55
  generalize u 56 = u56
  generalize u 57 = u57
  generalize u 58 = u58
  generalize u 59 = u59
  generalize u 60 = u60
  generalize u 61 = u61
  generalize u 62 = u62
  generalize u 63 = u63
  generalize u 64 = u64
  generalize u 65 = u65
  generalize u 66 = u66
  generalize u 67 = u67
  generalize u 68 = u68
  generalize u 69 = u69
  generalize u 70 = u70
  generalize u 71 = u71
  generalize u 72 = u72
  generalize u 73 = u73
  generalize u 74 = u74
  generalize u 75 = u75
  generalize u 76 = u76
  generalize u 77 = u77
  generalize u 78 = u78
  generalize u 79 = u79
  generalize u 80 = u80
  generalize u 81 = u81
  generalize u 82 = u82
  generalize u 83 = u83
  generalize u 84 = u84
  generalize u 85 = u85
  generalize u 86 = u86
  generalize u 87 = u87
  generalize u 88 = u88
  generalize u 89 = u89
  generalize u 90 = u90
  generalize u 91 = u91
  generalize u 92 = u92
  generalize u 93 = u93
  generalize u 94 = u94
  generalize u 95 = u95
  generalize u 96 = u96
  generalize u 97 = u97
  generalize u 98 = u98
  generalize u 99 = u99
  generalize u 100 = u100
  generalize u 101 = u101
  generalize u 102 = u102
  generalize u 103 = u103
  generalize u 104 = u104
  generalize u 105 = u105
  generalize u 106 = u106
  generalize u 107 = u107
  generalize u 108 = u108
  generalize u 109 = u109
  clear u
  have HE := hide hE
  clear hE
  go_wp2_with (go_at_call 9; refine HE.out.mono ?_; rintro e w1 ⟨rfl, r1⟩; have R1 := hide r1; clear r1)
  exact HQ.out _ _ ⟨rfl, rfl, rfl, rfl, rfl, rfl, rfl, rfl, rfl, rfl, rfl, rfl, rfl, rfl, rfl, rfl⟩ R1.out
set_option maxHeartbeats 8000000 in
set_option maxRecDepth 100000 in
theorem al_r11 {K : Act → World → Prop} {c : Code} (hc : regOf (Try.f4.body.getD .skip) 11 = some c) (a : Act) {v : Val} {wq : World} {L : LOC} {yn yt : ByteArray} {yc yx cd m : Int} (hF : Fal a v) (h8v : v.v8 = .pointer (some ⟨L.b, 0, none⟩)) (h1v : v.v1 = .int .i64 m) (hE : Calls Try.prog 11 #[.string ⟨#[115]⟩, .pointer (some ⟨L.b, 0, none⟩), .int .i64 m] wq fun e w' => e = .returned (.tuple #[.agg #[.string yn, .string yt, .int .i64 yc, .int .i64 yx], .int .i64 cd]) ∧ Below wq.heap.size wq w')
    (hQ : ∀ a' w1, Fal a' { v with v12 := .pointer (some ⟨w1.heap.size, 0, none⟩) } → Below wq.heap.size wq w1 → K a' (w1.alloc (.cells #[.string yn, .string yt, .int .i64 yc, .int .i64 yx] 33))) :
    Code.wp Try.prog c (Exit.then K fun _ _ _ => False) a wq := by
  have HQ := hide hQ
  clear hQ
  obtain ⟨t', d'⟩ := a
  obtain ⟨v0, v1, v2, v6, v7, v8, v10, v11, v12, v14, v15, v16, v17, v18⟩ := v
  simp only at h8v h1v HQ
  subst h8v h1v
  obtain ⟨hs1, hd1, q0, q1, q2, q6, q7, q8, q10, q11, q12, q14, q15, q16, q17, q18⟩ := hF
  obtain ⟨u, hu⟩ := frame_al t' hs1
  simp only at hd1 q0 q1 q2 q6 q7 q8 q10 q11 q12 q14 q15 q16 q17 q18
  subst hu hd1
  have e0 : u 0 = v0 := q0
  have e1 : u 1 = .int .i64 m := q1
  have e2 : u 2 = v2 := q2
  have e6 : u 6 = v6 := q6
  have e7 : u 7 = v7 := q7
  have e8 : u 8 = .pointer (some ⟨L.b, 0, none⟩) := q8
  have e10 : u 10 = v10 := q10
  have e11 : u 11 = v11 := q11
  have e12 : u 12 = v12 := q12
  have e14 : u 14 = v14 := q14
  have e15 : u 15 = v15 := q15
  have e16 : u 16 = v16 := q16
  have e17 : u 17 = v17 := q17
  have e18 : u 18 = v18 := q18
  rw [e0, e1, e2, e6, e7, e8, e10, e11, e12, e14, e15, e16, e17, e18]
  clear q0 e0 q1 e1 q2 e2 q6 e6 q7 e7 q8 e8 q10 e10 q11 e11 q12 e12 q14 e14 q15 e15 q16 e16 q17 e17 q18 e18 hs1
  simp only [Try.f4, Option.getD_some, regOf] at hc
  injection hc with hc
  subst hc
  generalize u 3 = u3
  generalize u 4 = u4
  generalize u 5 = u5
  generalize u 9 = u9
  generalize u 13 = u13
  generalize u 19 = u19
  generalize u 20 = u20
  generalize u 21 = u21
  generalize u 22 = u22
  generalize u 23 = u23
  generalize u 24 = u24
  generalize u 25 = u25
  generalize u 26 = u26
  generalize u 27 = u27
  generalize u 28 = u28
  generalize u 29 = u29
  generalize u 30 = u30
  generalize u 31 = u31
  generalize u 32 = u32
  generalize u 33 = u33
  generalize u 34 = u34
  generalize u 35 = u35
  generalize u 36 = u36
  generalize u 37 = u37
  generalize u 38 = u38
  generalize u 39 = u39
  generalize u 40 = u40
  generalize u 41 = u41
  generalize u 42 = u42
  generalize u 43 = u43
  generalize u 44 = u44
  generalize u 45 = u45
  generalize u 46 = u46
  generalize u 47 = u47
  generalize u 48 = u48
  generalize u 49 = u49
  generalize u 50 = u50
  generalize u 51 = u51
  generalize u 52 = u52
  generalize u 53 = u53
  generalize u 54 = u54
  generalize u 55 = u55
  generalize u 56 = u56
  generalize u 57 = u57
  generalize u 58 = u58
  generalize u 59 = u59
  generalize u 60 = u60
  generalize u 61 = u61
  generalize u 62 = u62
  generalize u 63 = u63
  generalize u 64 = u64
  generalize u 65 = u65
  generalize u 66 = u66
  generalize u 67 = u67
  generalize u 68 = u68
  generalize u 69 = u69
  generalize u 70 = u70
  generalize u 71 = u71
  generalize u 72 = u72
  generalize u 73 = u73
  generalize u 74 = u74
  generalize u 75 = u75
  generalize u 76 = u76
  generalize u 77 = u77
  generalize u 78 = u78
  generalize u 79 = u79
  generalize u 80 = u80
  generalize u 81 = u81
  generalize u 82 = u82
  generalize u 83 = u83
  generalize u 84 = u84
  generalize u 85 = u85
  generalize u 86 = u86
  generalize u 87 = u87
  generalize u 88 = u88
  generalize u 89 = u89
  generalize u 90 = u90
  generalize u 91 = u91
  generalize u 92 = u92
  generalize u 93 = u93
  generalize u 94 = u94
  generalize u 95 = u95
  generalize u 96 = u96
  generalize u 97 = u97
  generalize u 98 = u98
  generalize u 99 = u99
  generalize u 100 = u100
  generalize u 101 = u101
  generalize u 102 = u102
  generalize u 103 = u103
  generalize u 104 = u104
  generalize u 105 = u105
  generalize u 106 = u106
  generalize u 107 = u107
  generalize u 108 = u108
  generalize u 109 = u109
  clear u
  have HE := hide hE
  clear hE
  go_wp2_with (go_at_call 11; refine HE.out.mono ?_; rintro e w1 ⟨rfl, b1⟩; have B1 := hide b1; clear b1)
  exact HQ.out _ _ ⟨rfl, rfl, rfl, rfl, rfl, rfl, rfl, rfl, rfl, rfl, rfl, rfl, rfl, rfl, rfl, rfl⟩ B1.out
set_option maxHeartbeats 8000000 in
set_option maxRecDepth 100000 in
theorem al_r12 {K : Act → World → Prop} {c : Code} (hc : regOf (Try.f4.body.getD .skip) 12 = some c) (a : Act) {v : Val} {wq : World} {x : Int} (hF : Fal a v) (h1v : v.v1 = .int .i64 x) (hQ : ∀ a', Fal a' { v with v14 := .int .i64 x } → K a' wq) :
    Code.wp Try.prog c (Exit.then K fun _ _ _ => False) a wq := by
  have HQ := hide hQ
  clear hQ
  obtain ⟨t', d'⟩ := a
  obtain ⟨v0, v1, v2, v6, v7, v8, v10, v11, v12, v14, v15, v16, v17, v18⟩ := v
  simp only at h1v HQ
  subst h1v
  obtain ⟨hs1, hd1, q0, q1, q2, q6, q7, q8, q10, q11, q12, q14, q15, q16, q17, q18⟩ := hF
  obtain ⟨u, hu⟩ := frame_al t' hs1
  simp only at hd1 q0 q1 q2 q6 q7 q8 q10 q11 q12 q14 q15 q16 q17 q18
  subst hu hd1
  have e0 : u 0 = v0 := q0
  have e1 : u 1 = .int .i64 x := q1
  have e2 : u 2 = v2 := q2
  have e6 : u 6 = v6 := q6
  have e7 : u 7 = v7 := q7
  have e8 : u 8 = v8 := q8
  have e10 : u 10 = v10 := q10
  have e11 : u 11 = v11 := q11
  have e12 : u 12 = v12 := q12
  have e14 : u 14 = v14 := q14
  have e15 : u 15 = v15 := q15
  have e16 : u 16 = v16 := q16
  have e17 : u 17 = v17 := q17
  have e18 : u 18 = v18 := q18
  rw [e0, e1, e2, e6, e7, e8, e10, e11, e12, e14, e15, e16, e17, e18]
  clear q0 e0 q1 e1 q2 e2 q6 e6 q7 e7 q8 e8 q10 e10 q11 e11 q12 e12 q14 e14 q15 e15 q16 e16 q17 e17 q18 e18 hs1
  simp only [Try.f4, Option.getD_some, regOf] at hc
  injection hc with hc
  subst hc
  generalize u 3 = u3
  generalize u 4 = u4
  generalize u 5 = u5
  generalize u 9 = u9
  generalize u 13 = u13
  generalize u 19 = u19
  generalize u 20 = u20
  generalize u 21 = u21
  generalize u 22 = u22
  generalize u 23 = u23
  generalize u 24 = u24
  generalize u 25 = u25
  generalize u 26 = u26
  generalize u 27 = u27
  generalize u 28 = u28
  generalize u 29 = u29
  generalize u 30 = u30
  generalize u 31 = u31
  generalize u 32 = u32
  generalize u 33 = u33
  generalize u 34 = u34
  generalize u 35 = u35
  generalize u 36 = u36
  generalize u 37 = u37
  generalize u 38 = u38
  generalize u 39 = u39
  generalize u 40 = u40
  generalize u 41 = u41
  generalize u 42 = u42
  generalize u 43 = u43
  generalize u 44 = u44
  generalize u 45 = u45
  generalize u 46 = u46
  generalize u 47 = u47
  generalize u 48 = u48
  generalize u 49 = u49
  generalize u 50 = u50
  generalize u 51 = u51
  generalize u 52 = u52
  generalize u 53 = u53
  generalize u 54 = u54
  generalize u 55 = u55
  generalize u 56 = u56
  generalize u 57 = u57
  generalize u 58 = u58
  generalize u 59 = u59
  generalize u 60 = u60
  generalize u 61 = u61
  generalize u 62 = u62
  generalize u 63 = u63
  generalize u 64 = u64
  generalize u 65 = u65
  generalize u 66 = u66
  generalize u 67 = u67
  generalize u 68 = u68
  generalize u 69 = u69
  generalize u 70 = u70
  generalize u 71 = u71
  generalize u 72 = u72
  generalize u 73 = u73
  generalize u 74 = u74
  generalize u 75 = u75
  generalize u 76 = u76
  generalize u 77 = u77
  generalize u 78 = u78
  generalize u 79 = u79
  generalize u 80 = u80
  generalize u 81 = u81
  generalize u 82 = u82
  generalize u 83 = u83
  generalize u 84 = u84
  generalize u 85 = u85
  generalize u 86 = u86
  generalize u 87 = u87
  generalize u 88 = u88
  generalize u 89 = u89
  generalize u 90 = u90
  generalize u 91 = u91
  generalize u 92 = u92
  generalize u 93 = u93
  generalize u 94 = u94
  generalize u 95 = u95
  generalize u 96 = u96
  generalize u 97 = u97
  generalize u 98 = u98
  generalize u 99 = u99
  generalize u 100 = u100
  generalize u 101 = u101
  generalize u 102 = u102
  generalize u 103 = u103
  generalize u 104 = u104
  generalize u 105 = u105
  generalize u 106 = u106
  generalize u 107 = u107
  generalize u 108 = u108
  generalize u 109 = u109
  clear u
  go_wp2
  exact HQ.out _ ⟨rfl, rfl, rfl, rfl, rfl, rfl, rfl, rfl, rfl, rfl, rfl, rfl, rfl, rfl, rfl, rfl⟩
set_option maxHeartbeats 8000000 in
set_option maxRecDepth 100000 in
theorem al_r13 {K : Act → World → Prop} {c : Code} (hc : regOf (Try.f4.body.getD .skip) 13 = some c) (a : Act) {v : Val} {wq : World}  (hF : Fal a v) (hQ : ∀ a', Fal a' { v with v15 := .int .i64 0 } → K a' wq) :
    Code.wp Try.prog c (Exit.then K fun _ _ _ => False) a wq := by
  have HQ := hide hQ
  clear hQ
  obtain ⟨t', d'⟩ := a
  obtain ⟨v0, v1, v2, v6, v7, v8, v10, v11, v12, v14, v15, v16, v17, v18⟩ := v
  obtain ⟨hs1, hd1, q0, q1, q2, q6, q7, q8, q10, q11, q12, q14, q15, q16, q17, q18⟩ := hF
  obtain ⟨u, hu⟩ := frame_al t' hs1
  simp only at hd1 q0 q1 q2 q6 q7 q8 q10 q11 q12 q14 q15 q16 q17 q18
  subst hu hd1
  have e0 : u 0 = v0 := q0
  have e1 : u 1 = v1 := q1
  have e2 : u 2 = v2 := q2
  have e6 : u 6 = v6 := q6
  have e7 : u 7 = v7 := q7
  have e8 : u 8 = v8 := q8
  have e10 : u 10 = v10 := q10
  have e11 : u 11 = v11 := q11
  have e12 : u 12 = v12 := q12
  have e14 : u 14 = v14 := q14
  have e15 : u 15 = v15 := q15
  have e16 : u 16 = v16 := q16
  have e17 : u 17 = v17 := q17
  have e18 : u 18 = v18 := q18
  rw [e0, e1, e2, e6, e7, e8, e10, e11, e12, e14, e15, e16, e17, e18]
  clear q0 e0 q1 e1 q2 e2 q6 e6 q7 e7 q8 e8 q10 e10 q11 e11 q12 e12 q14 e14 q15 e15 q16 e16 q17 e17 q18 e18 hs1
  simp only [Try.f4, Option.getD_some, regOf] at hc
  injection hc with hc
  subst hc
  generalize u 3 = u3
  generalize u 4 = u4
  generalize u 5 = u5
  generalize u 9 = u9
  generalize u 13 = u13
  generalize u 19 = u19
  generalize u 20 = u20
  generalize u 21 = u21
  generalize u 22 = u22
  generalize u 23 = u23
  generalize u 24 = u24
  generalize u 25 = u25
  generalize u 26 = u26
  generalize u 27 = u27
  generalize u 28 = u28
  generalize u 29 = u29
  generalize u 30 = u30
  generalize u 31 = u31
  generalize u 32 = u32
  generalize u 33 = u33
  generalize u 34 = u34
  generalize u 35 = u35
  generalize u 36 = u36
  generalize u 37 = u37
  generalize u 38 = u38
  generalize u 39 = u39
  generalize u 40 = u40
  generalize u 41 = u41
  generalize u 42 = u42
  generalize u 43 = u43
  generalize u 44 = u44
  generalize u 45 = u45
  generalize u 46 = u46
  generalize u 47 = u47
  generalize u 48 = u48
  generalize u 49 = u49
  generalize u 50 = u50
  generalize u 51 = u51
  generalize u 52 = u52
  generalize u 53 = u53
  generalize u 54 = u54
  generalize u 55 = u55
  generalize u 56 = u56
  generalize u 57 = u57
  generalize u 58 = u58
  generalize u 59 = u59
  generalize u 60 = u60
  generalize u 61 = u61
  generalize u 62 = u62
  generalize u 63 = u63
  generalize u 64 = u64
  generalize u 65 = u65
  generalize u 66 = u66
  generalize u 67 = u67
  generalize u 68 = u68
  generalize u 69 = u69
  generalize u 70 = u70
  generalize u 71 = u71
  generalize u 72 = u72
  generalize u 73 = u73
  generalize u 74 = u74
  generalize u 75 = u75
  generalize u 76 = u76
  generalize u 77 = u77
  generalize u 78 = u78
  generalize u 79 = u79
  generalize u 80 = u80
  generalize u 81 = u81
  generalize u 82 = u82
  generalize u 83 = u83
  generalize u 84 = u84
  generalize u 85 = u85
  generalize u 86 = u86
  generalize u 87 = u87
  generalize u 88 = u88
  generalize u 89 = u89
  generalize u 90 = u90
  generalize u 91 = u91
  generalize u 92 = u92
  generalize u 93 = u93
  generalize u 94 = u94
  generalize u 95 = u95
  generalize u 96 = u96
  generalize u 97 = u97
  generalize u 98 = u98
  generalize u 99 = u99
  generalize u 100 = u100
  generalize u 101 = u101
  generalize u 102 = u102
  generalize u 103 = u103
  generalize u 104 = u104
  generalize u 105 = u105
  generalize u 106 = u106
  generalize u 107 = u107
  generalize u 108 = u108
  generalize u 109 = u109
  clear u
  go_wp2
  exact HQ.out _ ⟨rfl, rfl, rfl, rfl, rfl, rfl, rfl, rfl, rfl, rfl, rfl, rfl, rfl, rfl, rfl, rfl⟩
set_option maxHeartbeats 8000000 in
set_option maxRecDepth 100000 in
theorem al_r14 {K : Act → World → Prop} {c : Code} (hc : regOf (Try.f4.body.getD .skip) 14 = some c) (a : Act) {v : Val} {wq : World} {i n : Nat} (hF : Fal a v) (h15v : v.v15 = .int .i64 (i : Int)) (h10v : v.v10 = .int .i64 (n : Int)) (hn : n ≤ 1000)
    (hQ : ∀ a', Fal a' v → a'.tmps.getD 50 undef = .bool (decide ((i : Int) ≤ (n : Int) + 1)) → K a' wq) :
    Code.wp Try.prog c (Exit.then K fun _ _ _ => False) a wq := by
  have HQ := hide hQ
  clear hQ
  obtain ⟨t', d'⟩ := a
  obtain ⟨v0, v1, v2, v6, v7, v8, v10, v11, v12, v14, v15, v16, v17, v18⟩ := v
  simp only at h15v h10v HQ
  subst h15v h10v
  obtain ⟨hs1, hd1, q0, q1, q2, q6, q7, q8, q10, q11, q12, q14, q15, q16, q17, q18⟩ := hF
  obtain ⟨u, hu⟩ := frame_al t' hs1
  simp only at hd1 q0 q1 q2 q6 q7 q8 q10 q11 q12 q14 q15 q16 q17 q18
  subst hu hd1
  have e0 : u 0 = v0 := q0
  have e1 : u 1 = v1 := q1
  have e2 : u 2 = v2 := q2
  have e6 : u 6 = v6 := q6
  have e7 : u 7 = v7 := q7
  have e8 : u 8 = v8 := q8
  have e10 : u 10 = .int .i64 (n : Int) := q10
  have e11 : u 11 = v11 := q11
  have e12 : u 12 = v12 := q12
  have e14 : u 14 = v14 := q14
  have e15 : u 15 = .int .i64 (i : Int) := q15
  have e16 : u 16 = v16 := q16
  have e17 : u 17 = v17 := q17
  have e18 : u 18 = v18 := q18
  rw [e0, e1, e2, e6, e7, e8, e10, e11, e12, e14, e15, e16, e17, e18]
  clear q0 e0 q1 e1 q2 e2 q6 e6 q7 e7 q8 e8 q10 e10 q11 e11 q12 e12 q14 e14 q15 e15 q16 e16 q17 e17 q18 e18 hs1
  simp only [Try.f4, Option.getD_some, regOf] at hc
  injection hc with hc
  subst hc
  generalize u 3 = u3
  generalize u 4 = u4
  generalize u 5 = u5
  generalize u 9 = u9
  generalize u 13 = u13
  generalize u 19 = u19
  generalize u 20 = u20
  generalize u 21 = u21
  generalize u 22 = u22
  generalize u 23 = u23
  generalize u 24 = u24
  generalize u 25 = u25
  generalize u 26 = u26
  generalize u 27 = u27
  generalize u 28 = u28
  generalize u 29 = u29
  generalize u 30 = u30
  generalize u 31 = u31
  generalize u 32 = u32
  generalize u 33 = u33
  generalize u 34 = u34
  generalize u 35 = u35
  generalize u 36 = u36
  generalize u 37 = u37
  generalize u 38 = u38
  generalize u 39 = u39
  generalize u 40 = u40
  generalize u 41 = u41
  generalize u 42 = u42
  generalize u 43 = u43
  generalize u 44 = u44
  generalize u 45 = u45
  generalize u 46 = u46
  generalize u 47 = u47
  generalize u 48 = u48
  generalize u 49 = u49
  generalize u 50 = u50
  generalize u 51 = u51
  generalize u 52 = u52
  generalize u 53 = u53
  generalize u 54 = u54
  generalize u 55 = u55
  generalize u 56 = u56
  generalize u 57 = u57
  generalize u 58 = u58
  generalize u 59 = u59
  generalize u 60 = u60
  generalize u 61 = u61
  generalize u 62 = u62
  generalize u 63 = u63
  generalize u 64 = u64
  generalize u 65 = u65
  generalize u 66 = u66
  generalize u 67 = u67
  generalize u 68 = u68
  generalize u 69 = u69
  generalize u 70 = u70
  generalize u 71 = u71
  generalize u 72 = u72
  generalize u 73 = u73
  generalize u 74 = u74
  generalize u 75 = u75
  generalize u 76 = u76
  generalize u 77 = u77
  generalize u 78 = u78
  generalize u 79 = u79
  generalize u 80 = u80
  generalize u 81 = u81
  generalize u 82 = u82
  generalize u 83 = u83
  generalize u 84 = u84
  generalize u 85 = u85
  generalize u 86 = u86
  generalize u 87 = u87
  generalize u 88 = u88
  generalize u 89 = u89
  generalize u 90 = u90
  generalize u 91 = u91
  generalize u 92 = u92
  generalize u 93 = u93
  generalize u 94 = u94
  generalize u 95 = u95
  generalize u 96 = u96
  generalize u 97 = u97
  generalize u 98 = u98
  generalize u 99 = u99
  generalize u 100 = u100
  generalize u 101 = u101
  generalize u 102 = u102
  generalize u 103 = u103
  generalize u 104 = u104
  generalize u 105 = u105
  generalize u 106 = u106
  generalize u 107 = u107
  generalize u 108 = u108
  generalize u 109 = u109
  clear u
  go_wp2
  exact HQ.out _ ⟨rfl, rfl, rfl, rfl, rfl, rfl, rfl, rfl, rfl, rfl, rfl, rfl, rfl, rfl, rfl, rfl⟩ (by first | rfl | (simp; done))
set_option maxHeartbeats 8000000 in
set_option maxRecDepth 100000 in
theorem al_r16 {K : Act → World → Prop} {c : Code} (hc : regOf (Try.f4.body.getD .skip) 16 = some c) (a : Act) {v : Val} {wq : World}  (hF : Fal a v) (hQ : ∀ a', Fal a' { v with v16 := .slice none 0 0 } → K a' wq) :
    Code.wp Try.prog c (Exit.then K fun _ _ _ => False) a wq := by
  have HQ := hide hQ
  clear hQ
  obtain ⟨t', d'⟩ := a
  obtain ⟨v0, v1, v2, v6, v7, v8, v10, v11, v12, v14, v15, v16, v17, v18⟩ := v
  obtain ⟨hs1, hd1, q0, q1, q2, q6, q7, q8, q10, q11, q12, q14, q15, q16, q17, q18⟩ := hF
  obtain ⟨u, hu⟩ := frame_al t' hs1
  simp only at hd1 q0 q1 q2 q6 q7 q8 q10 q11 q12 q14 q15 q16 q17 q18
  subst hu hd1
  have e0 : u 0 = v0 := q0
  have e1 : u 1 = v1 := q1
  have e2 : u 2 = v2 := q2
  have e6 : u 6 = v6 := q6
  have e7 : u 7 = v7 := q7
  have e8 : u 8 = v8 := q8
  have e10 : u 10 = v10 := q10
  have e11 : u 11 = v11 := q11
  have e12 : u 12 = v12 := q12
  have e14 : u 14 = v14 := q14
  have e15 : u 15 = v15 := q15
  have e16 : u 16 = v16 := q16
  have e17 : u 17 = v17 := q17
  have e18 : u 18 = v18 := q18
  rw [e0, e1, e2, e6, e7, e8, e10, e11, e12, e14, e15, e16, e17, e18]
  clear q0 e0 q1 e1 q2 e2 q6 e6 q7 e7 q8 e8 q10 e10 q11 e11 q12 e12 q14 e14 q15 e15 q16 e16 q17 e17 q18 e18 hs1
  simp only [Try.f4, Option.getD_some, regOf] at hc
  injection hc with hc
  subst hc
  generalize u 3 = u3
  generalize u 4 = u4
  generalize u 5 = u5
  generalize u 9 = u9
  generalize u 13 = u13
  generalize u 19 = u19
  generalize u 20 = u20
  generalize u 21 = u21
  generalize u 22 = u22
  generalize u 23 = u23
  generalize u 24 = u24
  generalize u 25 = u25
  generalize u 26 = u26
  generalize u 27 = u27
  generalize u 28 = u28
  generalize u 29 = u29
  generalize u 30 = u30
  generalize u 31 = u31
  generalize u 32 = u32
  generalize u 33 = u33
  generalize u 34 = u34
  generalize u 35 = u35
  generalize u 36 = u36
  generalize u 37 = u37
  generalize u 38 = u38
  generalize u 39 = u39
  generalize u 40 = u40
  generalize u 41 = u41
  generalize u 42 = u42
  generalize u 43 = u43
  generalize u 44 = u44
  generalize u 45 = u45
  generalize u 46 = u46
  generalize u 47 = u47
  generalize u 48 = u48
  generalize u 49 = u49
  generalize u 50 = u50
  generalize u 51 = u51
  generalize u 52 = u52
  generalize u 53 = u53
  generalize u 54 = u54
  generalize u 55 = u55
  generalize u 56 = u56
  generalize u 57 = u57
  generalize u 58 = u58
  generalize u 59 = u59
  generalize u 60 = u60
  generalize u 61 = u61
  generalize u 62 = u62
  generalize u 63 = u63
  generalize u 64 = u64
  generalize u 65 = u65
  generalize u 66 = u66
  generalize u 67 = u67
  generalize u 68 = u68
  generalize u 69 = u69
  generalize u 70 = u70
  generalize u 71 = u71
  generalize u 72 = u72
  generalize u 73 = u73
  generalize u 74 = u74
  generalize u 75 = u75
  generalize u 76 = u76
  generalize u 77 = u77
  generalize u 78 = u78
  generalize u 79 = u79
  generalize u 80 = u80
  generalize u 81 = u81
  generalize u 82 = u82
  generalize u 83 = u83
  generalize u 84 = u84
  generalize u 85 = u85
  generalize u 86 = u86
  generalize u 87 = u87
  generalize u 88 = u88
  generalize u 89 = u89
  generalize u 90 = u90
  generalize u 91 = u91
  generalize u 92 = u92
  generalize u 93 = u93
  generalize u 94 = u94
  generalize u 95 = u95
  generalize u 96 = u96
  generalize u 97 = u97
  generalize u 98 = u98
  generalize u 99 = u99
  generalize u 100 = u100
  generalize u 101 = u101
  generalize u 102 = u102
  generalize u 103 = u103
  generalize u 104 = u104
  generalize u 105 = u105
  generalize u 106 = u106
  generalize u 107 = u107
  generalize u 108 = u108
  generalize u 109 = u109
  clear u
  go_wp2
  exact HQ.out _ ⟨rfl, rfl, rfl, rfl, rfl, rfl, rfl, rfl, rfl, rfl, rfl, rfl, rfl, rfl, rfl, rfl⟩
set_option maxHeartbeats 8000000 in
set_option maxRecDepth 100000 in
theorem al_r17 {K : Act → World → Prop} {c : Code} (hc : regOf (Try.f4.body.getD .skip) 17 = some c) (a : Act) {v : Val} {wq : World}  (hF : Fal a v) (hQ : ∀ a', Fal a' { v with v17 := .int .i64 0 } → K a' wq) :
    Code.wp Try.prog c (Exit.then K fun _ _ _ => False) a wq := by
  have HQ := hide hQ
  clear hQ
  obtain ⟨t', d'⟩ := a
  obtain ⟨v0, v1, v2, v6, v7, v8, v10, v11, v12, v14, v15, v16, v17, v18⟩ := v
  obtain ⟨hs1, hd1, q0, q1, q2, q6, q7, q8, q10, q11, q12, q14, q15, q16, q17, q18⟩ := hF
  obtain ⟨u, hu⟩ := frame_al t' hs1
  simp only at hd1 q0 q1 q2 q6 q7 q8 q10 q11 q12 q14 q15 q16 q17 q18
  subst hu hd1
  have e0 : u 0 = v0 := q0
  have e1 : u 1 = v1 := q1
  have e2 : u 2 = v2 := q2
  have e6 : u 6 = v6 := q6
  have e7 : u 7 = v7 := q7
  have e8 : u 8 = v8 := q8
  have e10 : u 10 = v10 := q10
  have e11 : u 11 = v11 := q11
  have e12 : u 12 = v12 := q12
  have e14 : u 14 = v14 := q14
  have e15 : u 15 = v15 := q15
  have e16 : u 16 = v16 := q16
  have e17 : u 17 = v17 := q17
  have e18 : u 18 = v18 := q18
  rw [e0, e1, e2, e6, e7, e8, e10, e11, e12, e14, e15, e16, e17, e18]
  clear q0 e0 q1 e1 q2 e2 q6 e6 q7 e7 q8 e8 q10 e10 q11 e11 q12 e12 q14 e14 q15 e15 q16 e16 q17 e17 q18 e18 hs1
  simp only [Try.f4, Option.getD_some, regOf] at hc
  injection hc with hc
  subst hc
  generalize u 3 = u3
  generalize u 4 = u4
  generalize u 5 = u5
  generalize u 9 = u9
  generalize u 13 = u13
  generalize u 19 = u19
  generalize u 20 = u20
  generalize u 21 = u21
  generalize u 22 = u22
  generalize u 23 = u23
  generalize u 24 = u24
  generalize u 25 = u25
  generalize u 26 = u26
  generalize u 27 = u27
  generalize u 28 = u28
  generalize u 29 = u29
  generalize u 30 = u30
  generalize u 31 = u31
  generalize u 32 = u32
  generalize u 33 = u33
  generalize u 34 = u34
  generalize u 35 = u35
  generalize u 36 = u36
  generalize u 37 = u37
  generalize u 38 = u38
  generalize u 39 = u39
  generalize u 40 = u40
  generalize u 41 = u41
  generalize u 42 = u42
  generalize u 43 = u43
  generalize u 44 = u44
  generalize u 45 = u45
  generalize u 46 = u46
  generalize u 47 = u47
  generalize u 48 = u48
  generalize u 49 = u49
  generalize u 50 = u50
  generalize u 51 = u51
  generalize u 52 = u52
  generalize u 53 = u53
  generalize u 54 = u54
  generalize u 55 = u55
  generalize u 56 = u56
  generalize u 57 = u57
  generalize u 58 = u58
  generalize u 59 = u59
  generalize u 60 = u60
  generalize u 61 = u61
  generalize u 62 = u62
  generalize u 63 = u63
  generalize u 64 = u64
  generalize u 65 = u65
  generalize u 66 = u66
  generalize u 67 = u67
  generalize u 68 = u68
  generalize u 69 = u69
  generalize u 70 = u70
  generalize u 71 = u71
  generalize u 72 = u72
  generalize u 73 = u73
  generalize u 74 = u74
  generalize u 75 = u75
  generalize u 76 = u76
  generalize u 77 = u77
  generalize u 78 = u78
  generalize u 79 = u79
  generalize u 80 = u80
  generalize u 81 = u81
  generalize u 82 = u82
  generalize u 83 = u83
  generalize u 84 = u84
  generalize u 85 = u85
  generalize u 86 = u86
  generalize u 87 = u87
  generalize u 88 = u88
  generalize u 89 = u89
  generalize u 90 = u90
  generalize u 91 = u91
  generalize u 92 = u92
  generalize u 93 = u93
  generalize u 94 = u94
  generalize u 95 = u95
  generalize u 96 = u96
  generalize u 97 = u97
  generalize u 98 = u98
  generalize u 99 = u99
  generalize u 100 = u100
  generalize u 101 = u101
  generalize u 102 = u102
  generalize u 103 = u103
  generalize u 104 = u104
  generalize u 105 = u105
  generalize u 106 = u106
  generalize u 107 = u107
  generalize u 108 = u108
  generalize u 109 = u109
  clear u
  go_wp2
  exact HQ.out _ ⟨rfl, rfl, rfl, rfl, rfl, rfl, rfl, rfl, rfl, rfl, rfl, rfl, rfl, rfl, rfl, rfl⟩
set_option maxHeartbeats 8000000 in
set_option maxRecDepth 100000 in
theorem al_r18 {K : Act → World → Prop} {c : Code} (hc : regOf (Try.f4.body.getD .skip) 18 = some c) (a : Act) {v : Val} {wq : World} {sb : Nat} {xn xt yn yt : ByteArray} {xc xx yc yx cd : Int} {RL : List Rec} {L : LOC} {m pk : Int} (hF : Fal a v) (h12v : v.v12 = .pointer (some ⟨sb, 0, none⟩)) (h2v : v.v2 = .int .i64 m) (h8v : v.v8 = .pointer (some ⟨L.b, 0, none⟩)) (hS : wq.heap[sb]? = some (.cells #[.string xn, .string xt, .int .i64 xc, .int .i64 xx] 33 (0, 0))) (hP : ∀ W, Calls Try.prog 9 #[.int .i64 m, .int .i64 50] W fun e w' => e = .returned (.int .i64 pk) ∧ w' = W) (k0 : 0 ≤ pk) (k1 : pk < 50) (hE : ∀ W, Below wq.heap.size wq W → Calls Try.prog 15 #[.agg #[.string xn, .string xt, .int .i64 xc, .int .i64 xx], .pointer (some ⟨L.b, 0, none⟩), .int .i64 (1 + pk)] W fun e w' => ∃ ao cp, e = .returned (.tuple #[.agg #[.string yn, .string yt, .int .i64 yc, .int .i64 yx], .slice ao RL.length cp, .int .i64 cd]) ∧ RecsAt w' (.slice ao RL.length cp) RL ∧ Below W.heap.size W w' ∧ ∀ g, (Value.slice ao 0 cp).ownBlock = some g → wq.heap.size ≤ g)
    (hQ : ∀ a' w' ao cp, Fal a' { v with v16 := .slice ao RL.length cp, v17 := .int .i64 cd } → Touch (fun k => k = sb) wq w' → w'.heap[sb]? = some (.cells #[.string yn, .string yt, .int .i64 yc, .int .i64 yx] 33 (0, 0)) → RecsAt w' (.slice ao RL.length cp) RL → K a' w') :
    Code.wp Try.prog c (Exit.then K fun _ _ _ => False) a wq := by
  have HQ := hide hQ
  clear hQ
  obtain ⟨t', d'⟩ := a
  obtain ⟨v0, v1, v2, v6, v7, v8, v10, v11, v12, v14, v15, v16, v17, v18⟩ := v
  simp only at h12v h2v h8v HQ
  subst h12v h2v h8v
  obtain ⟨hs1, hd1, q0, q1, q2, q6, q7, q8, q10, q11, q12, q14, q15, q16, q17, q18⟩ := hF
  obtain ⟨u, hu⟩ := frame_al t' hs1
  simp only at hd1 q0 q1 q2 q6 q7 q8 q10 q11 q12 q14 q15 q16 q17 q18
  subst hu hd1
  have e0 : u 0 = v0 := q0
  have e1 : u 1 = v1 := q1
  have e2 : u 2 = .int .i64 m := q2
  have e6 : u 6 = v6 := q6
  have e7 : u 7 = v7 := q7
  have e8 : u 8 = .pointer (some ⟨L.b, 0, none⟩) := q8
  have e10 : u 10 = v10 := q10
  have e11 : u 11 = v11 := q11
  have e12 : u 12 = .pointer (some ⟨sb, 0, none⟩) := q12
  have e14 : u 14 = v14 := q14
  have e15 : u 15 = v15 := q15
  have e16 : u 16 = v16 := q16
  have e17 : u 17 = v17 := q17
  have e18 : u 18 = v18 := q18
  rw [e0, e1, e2, e6, e7, e8, e10, e11, e12, e14, e15, e16, e17, e18]
  clear q0 e0 q1 e1 q2 e2 q6 e6 q7 e7 q8 e8 q10 e10 q11 e11 q12 e12 q14 e14 q15 e15 q16 e16 q17 e17 q18 e18 hs1
  simp only [Try.f4, Option.getD_some, regOf] at hc
  injection hc with hc
  subst hc
  generalize u 3 = u3
  generalize u 4 = u4
  generalize u 5 = u5
  generalize u 9 = u9
  generalize u 13 = u13
  generalize u 19 = u19
  generalize u 20 = u20
  generalize u 21 = u21
  generalize u 22 = u22
  generalize u 23 = u23
  generalize u 24 = u24
  generalize u 25 = u25
  generalize u 26 = u26
  generalize u 27 = u27
  generalize u 28 = u28
  generalize u 29 = u29
  generalize u 30 = u30
  generalize u 31 = u31
  generalize u 32 = u32
  generalize u 33 = u33
  generalize u 34 = u34
  generalize u 35 = u35
  generalize u 36 = u36
  generalize u 37 = u37
  generalize u 38 = u38
  generalize u 39 = u39
  generalize u 40 = u40
  generalize u 41 = u41
  generalize u 42 = u42
  generalize u 43 = u43
  generalize u 44 = u44
  generalize u 45 = u45
  generalize u 46 = u46
  generalize u 47 = u47
  generalize u 48 = u48
  generalize u 49 = u49
  generalize u 50 = u50
  generalize u 51 = u51
  generalize u 52 = u52
  generalize u 53 = u53
  generalize u 54 = u54
  generalize u 55 = u55
  generalize u 56 = u56
  generalize u 57 = u57
  generalize u 58 = u58
  generalize u 59 = u59
  generalize u 60 = u60
  generalize u 61 = u61
  generalize u 62 = u62
  generalize u 63 = u63
  generalize u 64 = u64
  generalize u 65 = u65
  generalize u 66 = u66
  generalize u 67 = u67
  generalize u 68 = u68
  generalize u 69 = u69
  generalize u 70 = u70
  generalize u 71 = u71
  generalize u 72 = u72
  generalize u 73 = u73
  generalize u 74 = u74
  generalize u 75 = u75
  generalize u 76 = u76
  generalize u 77 = u77
  generalize u 78 = u78
  generalize u 79 = u79
  generalize u 80 = u80
  generalize u 81 = u81
  generalize u 82 = u82
  generalize u 83 = u83
  generalize u 84 = u84
  generalize u 85 = u85
  generalize u 86 = u86
  generalize u 87 = u87
  generalize u 88 = u88
  generalize u 89 = u89
  generalize u 90 = u90
  generalize u 91 = u91
  generalize u 92 = u92
  generalize u 93 = u93
  generalize u 94 = u94
  generalize u 95 = u95
  generalize u 96 = u96
  generalize u 97 = u97
  generalize u 98 = u98
  generalize u 99 = u99
  generalize u 100 = u100
  generalize u 101 = u101
  generalize u 102 = u102
  generalize u 103 = u103
  generalize u 104 = u104
  generalize u 105 = u105
  generalize u 106 = u106
  generalize u 107 = u107
  generalize u 108 = u108
  generalize u 109 = u109
  clear u
  have HS := hide hS
  have HLT : Hid (sb < wq.heap.size) := heap_lt hS
  have HP := hide hP
  have HE := hide hE
  have HY : Hid (IntKind.i64.wrap (1 + pk) = 1 + pk) := by
    show _ = _
    rw [IntKind.wrap_i64]
    omega
  clear hP hE k0 k1
  clear hS
  refine wp_region_any rfl ?_
  refine wpAny_store (ns := 110) (uses := (fun i => match i with | 0 => [54] | 1 => [55] | 2 => [56] | 3 => [57] | 4 => [58] | 5 => [59] | 6 => [53] | 7 => [60] | 8 => [61] | 9 => [62] | 10 => [] | 11 => [16] | 12 => [17] | _ => [])) (by kernel_rfl) (by kernel_rfl) (fun j w w' => (j ≠ 10 → Below w.heap.size w w') ∧ (j = 10 → Touch (fun k => k = sb) w w')) 10 (by decide) (fun bb w => (bb = false → Below wq.heap.size wq w) ∧ Touch (fun k => k = sb) wq w) (fun j b w w' hj h r => ⟨fun e => (h.1 e).trans ((r.1 hj).mono (h.1 e).size), h.2.below (r.1 hj)⟩) (fun w w' h r => ⟨fun e => (by cases e), h.2.andThen (r.2 rfl) (fun _ _ e => e)⟩) ⟨fun _ => (Below.refl _ _).drew, (Touch.refl _ _).drew⟩ (fun i => match i with | 0 => fun s w => s 54 = .agg #[.string xn, .string xt, .int .i64 xc, .int .i64 xx] | 1 => fun s w => s 55 = .pointer (some ⟨L.b, 0, none⟩) | 2 => fun s w => s 56 = .int .i64 m | 3 => fun s w => s 57 = .int .i64 pk | 4 => fun s w => s 58 = .int .i64 (1 + pk) | 5 => fun s w => ∃ ao cp, s 59 = .tuple #[.agg #[.string yn, .string yt, .int .i64 yc, .int .i64 yx], .slice ao RL.length cp, .int .i64 cd] ∧ RecsAt w (.slice ao RL.length cp) RL ∧ ∀ g, (Value.slice ao 0 cp).ownBlock = some g → wq.heap.size ≤ g | 6 => fun s w => ∃ ao cp, s 53 = .tuple #[.agg #[.string yn, .string yt, .int .i64 yc, .int .i64 yx], .slice ao RL.length cp, .int .i64 cd] ∧ RecsAt w (.slice ao RL.length cp) RL ∧ ∀ g, (Value.slice ao 0 cp).ownBlock = some g → wq.heap.size ≤ g | 7 => fun s w => s 60 = .agg #[.string yn, .string yt, .int .i64 yc, .int .i64 yx] | 8 => fun s w => ∃ ao cp, s 61 = .slice ao RL.length cp ∧ RecsAt w (.slice ao RL.length cp) RL ∧ ∀ g, (Value.slice ao 0 cp).ownBlock = some g → wq.heap.size ≤ g | 9 => fun s w => s 62 = .int .i64 cd | 10 => fun s w => w.heap[sb]? = some (.cells #[.string yn, .string yt, .int .i64 yc, .int .i64 yx] 33 (0, 0)) | 11 => fun s w => ∃ ao cp, s 16 = .slice ao RL.length cp ∧ RecsAt w (.slice ao RL.length cp) RL ∧ ∀ g, (Value.slice ao 0 cp).ownBlock = some g → wq.heap.size ≤ g | 12 => fun s w => s 17 = .int .i64 cd | _ => fun _ _ => True) ?phc ?phh ?pstep ?pdone
  case phc =>
    intro i s s' w hx h
    match i, hx, h with
    | 0, hx, h =>
      have e54 := hx 54 (by simp)
      first | exact (show _ from by simp only [← e54] at *; exact h) | (simp only [e54] at h; exact h)
    | 1, hx, h =>
      have e55 := hx 55 (by simp)
      first | exact (show _ from by simp only [← e55] at *; exact h) | (simp only [e55] at h; exact h)
    | 2, hx, h =>
      have e56 := hx 56 (by simp)
      first | exact (show _ from by simp only [← e56] at *; exact h) | (simp only [e56] at h; exact h)
    | 3, hx, h =>
      have e57 := hx 57 (by simp)
      first | exact (show _ from by simp only [← e57] at *; exact h) | (simp only [e57] at h; exact h)
    | 4, hx, h =>
      have e58 := hx 58 (by simp)
      first | exact (show _ from by simp only [← e58] at *; exact h) | (simp only [e58] at h; exact h)
    | 5, hx, h =>
      have e59 := hx 59 (by simp)
      first | exact (show _ from by simp only [← e59] at *; exact h) | (simp only [e59] at h; exact h)
    | 6, hx, h =>
      have e53 := hx 53 (by simp)
      first | exact (show _ from by simp only [← e53] at *; exact h) | (simp only [e53] at h; exact h)
    | 7, hx, h =>
      have e60 := hx 60 (by simp)
      first | exact (show _ from by simp only [← e60] at *; exact h) | (simp only [e60] at h; exact h)
    | 8, hx, h =>
      have e61 := hx 61 (by simp)
      first | exact (show _ from by simp only [← e61] at *; exact h) | (simp only [e61] at h; exact h)
    | 9, hx, h =>
      have e62 := hx 62 (by simp)
      first | exact (show _ from by simp only [← e62] at *; exact h) | (simp only [e62] at h; exact h)
    | 10, hx, h =>
      exact h
    | 11, hx, h =>
      have e16 := hx 16 (by simp)
      first | exact (show _ from by simp only [← e16] at *; exact h) | (simp only [e16] at h; exact h)
    | 12, hx, h =>
      have e17 := hx 17 (by simp)
      first | exact (show _ from by simp only [← e17] at *; exact h) | (simp only [e17] at h; exact h)
    | (n + 13), _, h => exact h
  case phh =>
    intro i j s w w' hij h r
    match i, hij, h with
    | 0, hij, h =>
      exact h
    | 1, hij, h =>
      exact h
    | 2, hij, h =>
      exact h
    | 3, hij, h =>
      exact h
    | 4, hij, h =>
      exact h
    | 5, hij, h =>
      obtain ⟨ao, cp, h1, h2, h3⟩ := h
      exact ⟨ao, cp, h1, rel_recs HLT.out h2 h3 r, h3⟩
    | 6, hij, h =>
      obtain ⟨ao, cp, h1, h2, h3⟩ := h
      exact ⟨ao, cp, h1, rel_recs HLT.out h2 h3 r, h3⟩
    | 7, hij, h =>
      exact h
    | 8, hij, h =>
      obtain ⟨ao, cp, h1, h2, h3⟩ := h
      exact ⟨ao, cp, h1, rel_recs HLT.out h2 h3 r, h3⟩
    | 9, hij, h =>
      exact h
    | 10, hij, h =>
      exact Below.at (r.1 (fun e => hij e.symm)) h
    | 11, hij, h =>
      obtain ⟨ao, cp, h1, h2, h3⟩ := h
      exact ⟨ao, cp, h1, rel_recs HLT.out h2 h3 r, h3⟩
    | 12, hij, h =>
      exact h
    | (n + 13), _, h => exact h
  case pstep =>
    intro i o ho a' w' bb hbb hsa hb hd
    match i, ho with
    | 0, ho =>
      obtain rfl := Option.some.inj ho
      try dsimp only at hd
      have hb0 := hb.1 (hbb (by kernel_rfl))
      have g12 : a'.tmps.getD 12 undef = .pointer (some ⟨sb, 0, none⟩) := hsa.rest 12 (by rfl)
      obtain ⟨⟨z0, z1, z2, z3⟩, _⟩ := box4 (Below.at hb0 HS.out)
      refine wpOp_of rfl rfl ?_
      refine op_run (v := .agg #[.string xn, .string xt, .int .i64 xc, .int .i64 xx]) (w' := w') ?_ ⟨_, rfl, ?_, ?_⟩
      · simp only [execOp, Act.eval, List.map_toArray, List.map_cons, List.map_nil, g12, z0, z1, z2, z3]; first | (go_simp; done) | rfl
      · try dsimp only
        exact (slots_put (ns := 110) (hsa.size.trans rfl) (by decide))
      · exact ⟨fun _ => Below.refl _ _, fun e => by cases e⟩
    | 1, ho =>
      obtain rfl := Option.some.inj ho
      try dsimp only at hd
      have g8 : a'.tmps.getD 8 undef = .pointer (some ⟨L.b, 0, none⟩) := hsa.rest 8 (by rfl)
      refine wpOp_of rfl rfl ?_
      refine op_run (v := .pointer (some ⟨L.b, 0, none⟩)) (w' := w') ?_ ⟨_, rfl, ?_, ?_⟩
      · simp only [execOp, Act.eval, List.map_toArray, List.map_cons, List.map_nil, g8]; first | (go_simp; done) | rfl
      · try dsimp only
        exact (slots_put (ns := 110) (hsa.size.trans rfl) (by decide))
      · exact ⟨fun _ => Below.refl _ _, fun e => by cases e⟩
    | 2, ho =>
      obtain rfl := Option.some.inj ho
      try dsimp only at hd
      have g2 : a'.tmps.getD 2 undef = .int .i64 m := hsa.rest 2 (by rfl)
      refine wpOp_of rfl rfl ?_
      refine op_run (v := .int .i64 m) (w' := w') ?_ ⟨_, rfl, ?_, ?_⟩
      · simp only [execOp, Act.eval, List.map_toArray, List.map_cons, List.map_nil, g2]; first | (go_simp; done) | rfl
      · try dsimp only
        exact (slots_put (ns := 110) (hsa.size.trans rfl) (by decide))
      · exact ⟨fun _ => Below.refl _ _, fun e => by cases e⟩
    | 3, ho =>
      obtain rfl := Option.some.inj ho
      try dsimp only at hd
      have d2 : a'.tmps.getD 56 undef = .int .i64 m := hd 2 (by rfl)
      refine wpOp_of rfl rfl ?_
      refine op_call 9 _ _ rfl (enters_of Try.func9 (by kernel_rfl) rfl) [.int .i64 m, .int .i64 50] (by simp only [List.map, Act.eval, d2]) (HP.out w') ?_
      rintro e w'' ⟨rfl, rfl⟩
      refine ⟨_, rfl, _, rfl, ?_, ?_⟩
      · try dsimp only
        exact (slots_put (ns := 110) (hsa.size.trans rfl) (by decide))
      · exact ⟨fun _ => Below.refl _ _, fun e => by cases e⟩
    | 4, ho =>
      obtain rfl := Option.some.inj ho
      try dsimp only at hd
      have d3 : a'.tmps.getD 57 undef = .int .i64 pk := hd 3 (by rfl)
      have y := HY.out
      refine wpOp_of rfl rfl ?_
      refine op_run (v := .int .i64 (1 + pk)) (w' := w') ?_ ⟨_, rfl, ?_, ?_⟩
      · simp only [execOp, Act.eval, List.map_toArray, List.map_cons, List.map_nil, d3, y]; first | (go_simp; done) | rfl
      · try dsimp only
        exact (slots_put (ns := 110) (hsa.size.trans rfl) (by decide))
      · exact ⟨fun _ => Below.refl _ _, fun e => by cases e⟩
    | 5, ho =>
      obtain rfl := Option.some.inj ho
      try dsimp only at hd
      have hb0 := hb.1 (hbb (by kernel_rfl))
      have d0 : a'.tmps.getD 54 undef = .agg #[.string xn, .string xt, .int .i64 xc, .int .i64 xx] := hd 0 (by rfl)
      have d1 : a'.tmps.getD 55 undef = .pointer (some ⟨L.b, 0, none⟩) := hd 1 (by rfl)
      have d4 : a'.tmps.getD 58 undef = .int .i64 (1 + pk) := hd 4 (by rfl)
      refine wpOp_of rfl rfl ?_
      refine op_call 15 _ _ rfl (enters_of Try.func15 (by kernel_rfl) rfl) [.agg #[.string xn, .string xt, .int .i64 xc, .int .i64 xx], .pointer (some ⟨L.b, 0, none⟩), .int .i64 (1 + pk)] (by simp only [List.map, Act.eval, d0, d1, d4]) (HE.out w' hb0) ?_
      rintro e w'' ⟨ao, cp, rfl, r2, b2, n2⟩
      refine ⟨_, rfl, _, rfl, ?_, ?_⟩
      · try dsimp only
        exact ⟨ao, cp, (slots_put (ns := 110) (hsa.size.trans rfl) (by decide)), r2, n2⟩
      · exact ⟨fun _ => b2, fun e => by cases e⟩
    | 6, ho =>
      obtain rfl := Option.some.inj ho
      try dsimp only at hd
      have d5 : ∃ ao cp, a'.tmps.getD 59 undef = .tuple #[.agg #[.string yn, .string yt, .int .i64 yc, .int .i64 yx], .slice ao RL.length cp, .int .i64 cd] ∧ RecsAt w' (.slice ao RL.length cp) RL ∧ ∀ g, (Value.slice ao 0 cp).ownBlock = some g → wq.heap.size ≤ g := hd 5 (by rfl)
      obtain ⟨ao, cp, d5, r1, r2⟩ := d5
      refine wpOp_of rfl rfl ?_
      refine op_run (v := .tuple #[.agg #[.string yn, .string yt, .int .i64 yc, .int .i64 yx], .slice ao RL.length cp, .int .i64 cd]) (w' := w') ?_ ⟨_, rfl, ?_, ?_⟩
      · simp only [execOp, Act.eval, List.map_toArray, List.map_cons, List.map_nil, d5]; first | (go_simp; done) | rfl
      · try dsimp only
        exact ⟨ao, cp, (slots_put (ns := 110) (hsa.size.trans rfl) (by decide)), r1, r2⟩
      · exact ⟨fun _ => Below.refl _ _, fun e => by cases e⟩
    | 7, ho =>
      obtain rfl := Option.some.inj ho
      try dsimp only at hd
      have d6 : ∃ ao cp, a'.tmps.getD 53 undef = .tuple #[.agg #[.string yn, .string yt, .int .i64 yc, .int .i64 yx], .slice ao RL.length cp, .int .i64 cd] ∧ RecsAt w' (.slice ao RL.length cp) RL ∧ ∀ g, (Value.slice ao 0 cp).ownBlock = some g → wq.heap.size ≤ g := hd 6 (by rfl)
      obtain ⟨ao, cp, d6, r1, r2⟩ := d6
      refine wpOp_of rfl rfl ?_
      refine op_run (v := .agg #[.string yn, .string yt, .int .i64 yc, .int .i64 yx]) (w' := w') ?_ ⟨_, rfl, ?_, ?_⟩
      · simp only [execOp, Act.eval, List.map_toArray, List.map_cons, List.map_nil, d6]; first | (go_simp; done) | rfl
      · try dsimp only
        exact (slots_put (ns := 110) (hsa.size.trans rfl) (by decide))
      · exact ⟨fun _ => Below.refl _ _, fun e => by cases e⟩
    | 8, ho =>
      obtain rfl := Option.some.inj ho
      try dsimp only at hd
      have d6 : ∃ ao cp, a'.tmps.getD 53 undef = .tuple #[.agg #[.string yn, .string yt, .int .i64 yc, .int .i64 yx], .slice ao RL.length cp, .int .i64 cd] ∧ RecsAt w' (.slice ao RL.length cp) RL ∧ ∀ g, (Value.slice ao 0 cp).ownBlock = some g → wq.heap.size ≤ g := hd 6 (by rfl)
      obtain ⟨ao, cp, d6, r1, r2⟩ := d6
      refine wpOp_of rfl rfl ?_
      refine op_run (v := .slice ao RL.length cp) (w' := w') ?_ ⟨_, rfl, ?_, ?_⟩
      · simp only [execOp, Act.eval, List.map_toArray, List.map_cons, List.map_nil, d6]; first | (go_simp; done) | rfl
      · try dsimp only
        exact ⟨ao, cp, (slots_put (ns := 110) (hsa.size.trans rfl) (by decide)), r1, r2⟩
      · exact ⟨fun _ => Below.refl _ _, fun e => by cases e⟩
    | 9, ho =>
      obtain rfl := Option.some.inj ho
      try dsimp only at hd
      have d6 : ∃ ao cp, a'.tmps.getD 53 undef = .tuple #[.agg #[.string yn, .string yt, .int .i64 yc, .int .i64 yx], .slice ao RL.length cp, .int .i64 cd] ∧ RecsAt w' (.slice ao RL.length cp) RL ∧ ∀ g, (Value.slice ao 0 cp).ownBlock = some g → wq.heap.size ≤ g := hd 6 (by rfl)
      obtain ⟨ao, cp, d6, r1, r2⟩ := d6
      refine wpOp_of rfl rfl ?_
      refine op_run (v := .int .i64 cd) (w' := w') ?_ ⟨_, rfl, ?_, ?_⟩
      · simp only [execOp, Act.eval, List.map_toArray, List.map_cons, List.map_nil, d6]; first | (go_simp; done) | rfl
      · try dsimp only
        exact (slots_put (ns := 110) (hsa.size.trans rfl) (by decide))
      · exact ⟨fun _ => Below.refl _ _, fun e => by cases e⟩
    | 10, ho =>
      obtain rfl := Option.some.inj ho
      try dsimp only at hd
      have hb0 := hb.1 (hbb (by kernel_rfl))
      have d7 : a'.tmps.getD 60 undef = .agg #[.string yn, .string yt, .int .i64 yc, .int .i64 yx] := hd 7 (by rfl)
      have g12 : a'.tmps.getD 12 undef = .pointer (some ⟨sb, 0, none⟩) := hsa.rest 12 (by rfl)
      obtain ⟨⟨z0, z1, z2, z3⟩, f0, f1, f2, f3⟩ := box4 (Below.at hb0 HS.out)
      refine wpOp_of rfl rfl ?_
      refine op_skip (w' := ((((w'.setCell ⟨sb, 0, none⟩ (.string yn)).setCell ⟨sb, 1, none⟩ (.string yt)).setCell ⟨sb, 2, none⟩ (.int .i64 yc)).setCell ⟨sb, 3, none⟩ (.int .i64 yx))) ?_ ⟨undef, rfl, ?_, ?_⟩
      · simp only [execOp, Act.eval, d7, g12]; first | (go_simp; done) | rfl
      · try dsimp only
        exact set4_box (Below.at hb0 HS.out)
      · exact ⟨fun e => absurd rfl e, fun _ => set4_touch _ _⟩
    | 11, ho =>
      obtain rfl := Option.some.inj ho
      try dsimp only at hd
      have d8 : ∃ ao cp, a'.tmps.getD 61 undef = .slice ao RL.length cp ∧ RecsAt w' (.slice ao RL.length cp) RL ∧ ∀ g, (Value.slice ao 0 cp).ownBlock = some g → wq.heap.size ≤ g := hd 8 (by rfl)
      obtain ⟨ao, cp, d8, r1, r2⟩ := d8
      refine wpOp_of rfl rfl ?_
      refine op_run (v := .slice ao RL.length cp) (w' := w') ?_ ⟨_, rfl, ?_, ?_⟩
      · simp only [execOp, Act.eval, List.map_toArray, List.map_cons, List.map_nil, d8]; first | (go_simp; done) | rfl
      · try dsimp only
        exact ⟨ao, cp, (slots_put (ns := 110) (hsa.size.trans rfl) (by decide)), r1, r2⟩
      · exact ⟨fun _ => Below.refl _ _, fun e => by cases e⟩
    | 12, ho =>
      obtain rfl := Option.some.inj ho
      try dsimp only at hd
      have d9 : a'.tmps.getD 62 undef = .int .i64 cd := hd 9 (by rfl)
      refine wpOp_of rfl rfl ?_
      refine op_run (v := .int .i64 cd) (w' := w') ?_ ⟨_, rfl, ?_, ?_⟩
      · simp only [execOp, Act.eval, List.map_toArray, List.map_cons, List.map_nil, d9]; first | (go_simp; done) | rfl
      · try dsimp only
        exact (slots_put (ns := 110) (hsa.size.trans rfl) (by decide))
      · exact ⟨fun _ => Below.refl _ _, fun e => by cases e⟩
    | (n + 13), ho => exact absurd ho (by simp)
  case pdone =>
    intro a' w' hsa hb hd
    have d0 : a'.tmps.getD 54 undef = .agg #[.string xn, .string xt, .int .i64 xc, .int .i64 xx] := hd 0 (by decide)
    have d1 : a'.tmps.getD 55 undef = .pointer (some ⟨L.b, 0, none⟩) := hd 1 (by decide)
    have d2 : a'.tmps.getD 56 undef = .int .i64 m := hd 2 (by decide)
    have d3 : a'.tmps.getD 57 undef = .int .i64 pk := hd 3 (by decide)
    have d4 : a'.tmps.getD 58 undef = .int .i64 (1 + pk) := hd 4 (by decide)
    have d5 : ∃ ao cp, a'.tmps.getD 59 undef = .tuple #[.agg #[.string yn, .string yt, .int .i64 yc, .int .i64 yx], .slice ao RL.length cp, .int .i64 cd] ∧ RecsAt w' (.slice ao RL.length cp) RL ∧ ∀ g, (Value.slice ao 0 cp).ownBlock = some g → wq.heap.size ≤ g := hd 5 (by decide)
    have d6 : ∃ ao cp, a'.tmps.getD 53 undef = .tuple #[.agg #[.string yn, .string yt, .int .i64 yc, .int .i64 yx], .slice ao RL.length cp, .int .i64 cd] ∧ RecsAt w' (.slice ao RL.length cp) RL ∧ ∀ g, (Value.slice ao 0 cp).ownBlock = some g → wq.heap.size ≤ g := hd 6 (by decide)
    have d7 : a'.tmps.getD 60 undef = .agg #[.string yn, .string yt, .int .i64 yc, .int .i64 yx] := hd 7 (by decide)
    have d8 : ∃ ao cp, a'.tmps.getD 61 undef = .slice ao RL.length cp ∧ RecsAt w' (.slice ao RL.length cp) RL ∧ ∀ g, (Value.slice ao 0 cp).ownBlock = some g → wq.heap.size ≤ g := hd 8 (by decide)
    have d9 : a'.tmps.getD 62 undef = .int .i64 cd := hd 9 (by decide)
    have d10 : w'.heap[sb]? = some (.cells #[.string yn, .string yt, .int .i64 yc, .int .i64 yx] 33 (0, 0)) := hd 10 (by decide)
    have d11 : ∃ ao cp, a'.tmps.getD 16 undef = .slice ao RL.length cp ∧ RecsAt w' (.slice ao RL.length cp) RL ∧ ∀ g, (Value.slice ao 0 cp).ownBlock = some g → wq.heap.size ≤ g := hd 11 (by decide)
    have d12 : a'.tmps.getD 17 undef = .int .i64 cd := hd 12 (by decide)
    obtain ⟨ao, cp, d11, r1, r2⟩ := d11
    exact HQ.out _ _ ao cp ⟨hsa.size.trans rfl, hsa.defers.trans rfl, hsa.rest 0 (by rfl), hsa.rest 1 (by rfl), hsa.rest 2 (by rfl), hsa.rest 6 (by rfl), hsa.rest 7 (by rfl), hsa.rest 8 (by rfl), hsa.rest 10 (by rfl), hsa.rest 11 (by rfl), hsa.rest 12 (by rfl), hsa.rest 14 (by rfl), hsa.rest 15 (by rfl), d11, d12, hsa.rest 18 (by rfl)⟩ hb.2 d10 r1
set_option maxHeartbeats 8000000 in
set_option maxRecDepth 100000 in
theorem al_r19 {K : Act → World → Prop} {c : Code} (hc : regOf (Try.f4.body.getD .skip) 19 = some c) (a : Act) {v : Val} {wq : World} {cd : Int} (hF : Fal a v) (h17v : v.v17 = .int .i64 cd) (hQ : ∀ a', Fal a' v → a'.tmps.getD 64 undef = .bool (!(cd == 0)) → K a' wq) :
    Code.wp Try.prog c (Exit.then K fun _ _ _ => False) a wq := by
  have HQ := hide hQ
  clear hQ
  obtain ⟨t', d'⟩ := a
  obtain ⟨v0, v1, v2, v6, v7, v8, v10, v11, v12, v14, v15, v16, v17, v18⟩ := v
  simp only at h17v HQ
  subst h17v
  obtain ⟨hs1, hd1, q0, q1, q2, q6, q7, q8, q10, q11, q12, q14, q15, q16, q17, q18⟩ := hF
  obtain ⟨u, hu⟩ := frame_al t' hs1
  simp only at hd1 q0 q1 q2 q6 q7 q8 q10 q11 q12 q14 q15 q16 q17 q18
  subst hu hd1
  have e0 : u 0 = v0 := q0
  have e1 : u 1 = v1 := q1
  have e2 : u 2 = v2 := q2
  have e6 : u 6 = v6 := q6
  have e7 : u 7 = v7 := q7
  have e8 : u 8 = v8 := q8
  have e10 : u 10 = v10 := q10
  have e11 : u 11 = v11 := q11
  have e12 : u 12 = v12 := q12
  have e14 : u 14 = v14 := q14
  have e15 : u 15 = v15 := q15
  have e16 : u 16 = v16 := q16
  have e17 : u 17 = .int .i64 cd := q17
  have e18 : u 18 = v18 := q18
  rw [e0, e1, e2, e6, e7, e8, e10, e11, e12, e14, e15, e16, e17, e18]
  clear q0 e0 q1 e1 q2 e2 q6 e6 q7 e7 q8 e8 q10 e10 q11 e11 q12 e12 q14 e14 q15 e15 q16 e16 q17 e17 q18 e18 hs1
  simp only [Try.f4, Option.getD_some, regOf] at hc
  injection hc with hc
  subst hc
  generalize u 3 = u3
  generalize u 4 = u4
  generalize u 5 = u5
  generalize u 9 = u9
  generalize u 13 = u13
  generalize u 19 = u19
  generalize u 20 = u20
  generalize u 21 = u21
  generalize u 22 = u22
  generalize u 23 = u23
  generalize u 24 = u24
  generalize u 25 = u25
  generalize u 26 = u26
  generalize u 27 = u27
  generalize u 28 = u28
  generalize u 29 = u29
  generalize u 30 = u30
  generalize u 31 = u31
  generalize u 32 = u32
  generalize u 33 = u33
  generalize u 34 = u34
  generalize u 35 = u35
  generalize u 36 = u36
  generalize u 37 = u37
  generalize u 38 = u38
  generalize u 39 = u39
  generalize u 40 = u40
  generalize u 41 = u41
  generalize u 42 = u42
  generalize u 43 = u43
  generalize u 44 = u44
  generalize u 45 = u45
  generalize u 46 = u46
  generalize u 47 = u47
  generalize u 48 = u48
  generalize u 49 = u49
  generalize u 50 = u50
  generalize u 51 = u51
  generalize u 52 = u52
  generalize u 53 = u53
  generalize u 54 = u54
  generalize u 55 = u55
  generalize u 56 = u56
  generalize u 57 = u57
  generalize u 58 = u58
  generalize u 59 = u59
  generalize u 60 = u60
  generalize u 61 = u61
  generalize u 62 = u62
  generalize u 63 = u63
  generalize u 64 = u64
  generalize u 65 = u65
  generalize u 66 = u66
  generalize u 67 = u67
  generalize u 68 = u68
  generalize u 69 = u69
  generalize u 70 = u70
  generalize u 71 = u71
  generalize u 72 = u72
  generalize u 73 = u73
  generalize u 74 = u74
  generalize u 75 = u75
  generalize u 76 = u76
  generalize u 77 = u77
  generalize u 78 = u78
  generalize u 79 = u79
  generalize u 80 = u80
  generalize u 81 = u81
  generalize u 82 = u82
  generalize u 83 = u83
  generalize u 84 = u84
  generalize u 85 = u85
  generalize u 86 = u86
  generalize u 87 = u87
  generalize u 88 = u88
  generalize u 89 = u89
  generalize u 90 = u90
  generalize u 91 = u91
  generalize u 92 = u92
  generalize u 93 = u93
  generalize u 94 = u94
  generalize u 95 = u95
  generalize u 96 = u96
  generalize u 97 = u97
  generalize u 98 = u98
  generalize u 99 = u99
  generalize u 100 = u100
  generalize u 101 = u101
  generalize u 102 = u102
  generalize u 103 = u103
  generalize u 104 = u104
  generalize u 105 = u105
  generalize u 106 = u106
  generalize u 107 = u107
  generalize u 108 = u108
  generalize u 109 = u109
  clear u
  go_wp2
  exact HQ.out _ ⟨rfl, rfl, rfl, rfl, rfl, rfl, rfl, rfl, rfl, rfl, rfl, rfl, rfl, rfl, rfl, rfl⟩ (by first | rfl | (simp; done))
end Go.Proofs.Ytoafjgioknkeiaa.Y
