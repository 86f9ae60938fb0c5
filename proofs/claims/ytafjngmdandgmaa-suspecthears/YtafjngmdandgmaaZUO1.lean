/-
  SuspectOne: its regions (mkuo.py).
-/
import Derived.Test.YtafjngmdandgmaaZU2
import Derived.Test.YtafjngmdandgmaaZPhiG
import Derived.BigQuiet
namespace Go.Proofs.Ytafjngmdandgmaa
open Go.RowKit

attribute [local go_sem ↓] Go.wp_at_zero Go.wp_at_succ
set_option linter.unusedSimpArgs false
set_option linter.unusedVariables false
set_option maxRecDepth 100000 in
theorem frame_uo (t : Array Value) (h : t.size = 98) : ∃ u : Nat → Value, t = List.toArray (u 0 :: u 1 :: u 2 :: u 3 :: u 4 :: u 5 :: u 6 :: u 7 :: u 8 :: u 9 :: u 10 :: u 11 :: u 12 :: u 13 :: u 14 :: u 15 :: u 16 :: u 17 :: u 18 :: u 19 :: u 20 :: u 21 :: u 22 :: u 23 :: u 24 :: u 25 :: u 26 :: u 27 :: u 28 :: u 29 :: u 30 :: u 31 :: u 32 :: u 33 :: u 34 :: u 35 :: u 36 :: u 37 :: u 38 :: u 39 :: u 40 :: u 41 :: u 42 :: u 43 :: u 44 :: u 45 :: u 46 :: u 47 :: u 48 :: u 49 :: u 50 :: u 51 :: u 52 :: u 53 :: u 54 :: u 55 :: u 56 :: u 57 :: u 58 :: u 59 :: u 60 :: u 61 :: u 62 :: u 63 :: u 64 :: u 65 :: u 66 :: u 67 :: u 68 :: u 69 :: u 70 :: u 71 :: u 72 :: u 73 :: u 74 :: u 75 :: u 76 :: u 77 :: u 78 :: u 79 :: u 80 :: u 81 :: u 82 :: u 83 :: u 84 :: u 85 :: u 86 :: u 87 :: u 88 :: u 89 :: u 90 :: u 91 :: u 92 :: u 93 :: u 94 :: u 95 :: u 96 :: u 97 :: []) := by
  refine ⟨fun i => t.getD i undef, ?_⟩
  have e : (List.toArray ((fun i => t.getD i undef) 0 :: (fun i => t.getD i undef) 1 :: (fun i => t.getD i undef) 2 :: (fun i => t.getD i undef) 3 :: (fun i => t.getD i undef) 4 :: (fun i => t.getD i undef) 5 :: (fun i => t.getD i undef) 6 :: (fun i => t.getD i undef) 7 :: (fun i => t.getD i undef) 8 :: (fun i => t.getD i undef) 9 :: (fun i => t.getD i undef) 10 :: (fun i => t.getD i undef) 11 :: (fun i => t.getD i undef) 12 :: (fun i => t.getD i undef) 13 :: (fun i => t.getD i undef) 14 :: (fun i => t.getD i undef) 15 :: (fun i => t.getD i undef) 16 :: (fun i => t.getD i undef) 17 :: (fun i => t.getD i undef) 18 :: (fun i => t.getD i undef) 19 :: (fun i => t.getD i undef) 20 :: (fun i => t.getD i undef) 21 :: (fun i => t.getD i undef) 22 :: (fun i => t.getD i undef) 23 :: (fun i => t.getD i undef) 24 :: (fun i => t.getD i undef) 25 :: (fun i => t.getD i undef) 26 :: (fun i => t.getD i undef) 27 :: (fun i => t.getD i undef) 28 :: (fun i => t.getD i undef) 29 :: (fun i => t.getD i undef) 30 :: (fun i => t.getD i undef) 31 :: (fun i => t.getD i undef) 32 :: (fun i => t.getD i undef) 33 :: (fun i => t.getD i undef) 34 :: (fun i => t.getD i undef) 35 :: (fun i => t.getD i undef) 36 :: (fun i => t.getD i undef) 37 :: (fun i => t.getD i undef) 38 :: (fun i => t.getD i undef) 39 :: (fun i => t.getD i undef) 40 :: (fun i => t.getD i undef) 41 :: (fun i => t.getD i undef) 42 :: (fun i => t.getD i undef) 43 :: (fun i => t.getD i undef) 44 :: (fun i => t.getD i undef) 45 :: (fun i => t.getD i undef) 46 :: (fun i => t.getD i undef) 47 :: (fun i => t.getD i undef) 48 :: (fun i => t.getD i undef) 49 :: (fun i => t.getD i undef) 50 :: (fun i => t.getD i undef) 51 :: (fun i => t.getD i undef) 52 :: (fun i => t.getD i undef) 53 :: (fun i => t.getD i undef) 54 :: (fun i => t.getD i undef) 55 :: (fun i => t.getD i undef) 56 :: (fun i => t.getD i undef) 57 :: (fun i => t.getD i undef) 58 :: (fun i => t.getD i undef) 59 :: (fun i => t.getD i undef) 60 :: (fun i => t.getD i undef) 61 :: (fun i => t.getD i undef) 62 :: (fun i => t.getD i undef) 63 :: (fun i => t.getD i undef) 64 :: (fun i => t.getD i undef) 65 :: (fun i => t.getD i undef) 66 :: (fun i => t.getD i undef) 67 :: (fun i => t.getD i undef) 68 :: (fun i => t.getD i undef) 69 :: (fun i => t.getD i undef) 70 :: (fun i => t.getD i undef) 71 :: (fun i => t.getD i undef) 72 :: (fun i => t.getD i undef) 73 :: (fun i => t.getD i undef) 74 :: (fun i => t.getD i undef) 75 :: (fun i => t.getD i undef) 76 :: (fun i => t.getD i undef) 77 :: (fun i => t.getD i undef) 78 :: (fun i => t.getD i undef) 79 :: (fun i => t.getD i undef) 80 :: (fun i => t.getD i undef) 81 :: (fun i => t.getD i undef) 82 :: (fun i => t.getD i undef) 83 :: (fun i => t.getD i undef) 84 :: (fun i => t.getD i undef) 85 :: (fun i => t.getD i undef) 86 :: (fun i => t.getD i undef) 87 :: (fun i => t.getD i undef) 88 :: (fun i => t.getD i undef) 89 :: (fun i => t.getD i undef) 90 :: (fun i => t.getD i undef) 91 :: (fun i => t.getD i undef) 92 :: (fun i => t.getD i undef) 93 :: (fun i => t.getD i undef) 94 :: (fun i => t.getD i undef) 95 :: (fun i => t.getD i undef) 96 :: (fun i => t.getD i undef) 97 :: []) : Array Value) = ((List.range 98).map fun i => t.getD i undef).toArray := rfl
  refine Eq.trans ?_ e.symm
  apply Array.ext
  · simp [h]
  · intro k h1 h2
    simp [Array.getD, h1]
/-- The slots that matter. -/
structure Vuo where
  v1 : Value
  v2 : Value
  v4 : Value
  v5 : Value
  v6 : Value
  v7 : Value
  v8 : Value
  v9 : Value
  v10 : Value
  v11 : Value
structure Fuo (a : Act) (v : Vuo) : Prop where
  size : a.tmps.size = 98
  defers : a.defers = []
  s1 : a.tmps.getD 1 undef = v.v1
  s2 : a.tmps.getD 2 undef = v.v2
  s4 : a.tmps.getD 4 undef = v.v4
  s5 : a.tmps.getD 5 undef = v.v5
  s6 : a.tmps.getD 6 undef = v.v6
  s7 : a.tmps.getD 7 undef = v.v7
  s8 : a.tmps.getD 8 undef = v.v8
  s9 : a.tmps.getD 9 undef = v.v9
  s10 : a.tmps.getD 10 undef = v.v10
  s11 : a.tmps.getD 11 undef = v.v11
set_option maxHeartbeats 8000000 in
set_option maxRecDepth 100000 in
theorem uo_r1 {K : Act → World → Prop} {c : Code} (hc : regOf (Try.f5.body.getD .skip) 1 = some c) (a : Act) {v : Vuo} {wq : World} {r : Bool} (hF : Fuo a v) (hE : Calls Try.prog 6 #[] wq fun e w' => e = .returned (.bool r) ∧ Below wq.heap.size wq w')
    (hQ : ∀ a' w', Fuo a' { v with v5 := .bool r } → Below wq.heap.size wq w' → K a' w') :
    Code.wp Try.prog c (Exit.then K fun _ _ _ => False) a wq := by
  have HQ := hide hQ
  clear hQ
  obtain ⟨t', d'⟩ := a
  obtain ⟨v1, v2, v4, v5, v6, v7, v8, v9, v10, v11⟩ := v
  obtain ⟨hs1, hd1, q1, q2, q4, q5, q6, q7, q8, q9, q10, q11⟩ := hF
  obtain ⟨u, hu⟩ := frame_uo t' hs1
  simp only at hd1 q1 q2 q4 q5 q6 q7 q8 q9 q10 q11
  subst hu hd1
  have e1 : u 1 = v1 := q1
  have e2 : u 2 = v2 := q2
  have e4 : u 4 = v4 := q4
  have e5 : u 5 = v5 := q5
  have e6 : u 6 = v6 := q6
  have e7 : u 7 = v7 := q7
  have e8 : u 8 = v8 := q8
  have e9 : u 9 = v9 := q9
  have e10 : u 10 = v10 := q10
  have e11 : u 11 = v11 := q11
  rw [e1, e2, e4, e5, e6, e7, e8, e9, e10, e11]
  clear q1 e1 q2 e2 q4 e4 q5 e5 q6 e6 q7 e7 q8 e8 q9 e9 q10 e10 q11 e11 hs1
  simp only [Try.f5, Option.getD_some, regOf] at hc
  injection hc with hc
  subst hc
  generalize u 0 = u0
  generalize u 3 = u3
  generalize u 12 = u12
  generalize u 13 = u13
  generalize u 14 = u14
  generalize u 15 = u15
  generalize u 16 = u16
  generalize u 17 = u17
  generalize u 18 = u18
  generalize u 19 = u19
  generalize u 20 = u20
  generalize u 21 = u21
  generalize u 22 = u22
  generalize u 23 = u23
  generalize u 24 = u24
  generalize u 25 = u25
  generalize u 26 = u26
  generalize u 27 = u27
  generalize u 28 = u28
  generalize u 29 = u29
  generalize u 30 = u30
  generalize u 31 = u31
  generalize u 32 = u32
  generalize u 33 = u33
  generalize u 34 = u34
  generalize u 35 = u35
  generalize u 36 = u36
  generalize u 37 = u37
  generalize u 38 = u38
  generalize u 39 = u39
  generalize u 40 = u40
  generalize u 41 = u41
  generalize u 42 = u42
  generalize u 43 = u43
  generalize u 44 = u44
  generalize u 45 = u45
  generalize u 46 = u46
  generalize u 47 = u47
  generalize u 48 = u48
  generalize u 49 = u49
  generalize u 50 = u50
  generalize u 51 = u51
  generalize u 52 = u52
  generalize u 53 = u53
  generalize u 54 = u54
  generalize u 55 = u55
  generalize u 56 = u56
  generalize u 57 = u57
  generalize u 58 = u58
  generalize u 59 = u59
  generalize u 60 = u60
  generalize u 61 = u61
  generalize u 62 = u62
  generalize u 63 = u63
  generalize u 64 = u64
  generalize u 65 = u65
  generalize u 66 = u66
  generalize u 67 = u67
  generalize u 68 = u68
  generalize u 69 = u69
  generalize u 70 = u70
  generalize u 71 = u71
  generalize u 72 = u72
  generalize u 73 = u73
  generalize u 74 = u74
  generalize u 75 = u75
  generalize u 76 = u76
  generalize u 77 = u77
  generalize u 78 = u78
  generalize u 79 = u79
  generalize u 80 = u80
  generalize u 81 = u81
  generalize u 82 = u82
  generalize u 83 = u83
  generalize u 84 = u84
  generalize u 85 = u85
  generalize u 86 = u86
  generalize u 87 = u87
  generalize u 88 = u88
  generalize u 89 = u89
  generalize u 90 = u90
  generalize u 91 = u91
  generalize u 92 = u92
  generalize u 93 = u93
  generalize u 94 = u94
  generalize u 95 = u95
  generalize u 96 = u96
  generalize u 97 = u97
  clear u
  have HE := hide hE
  clear hE
  go_wp2_with fail
  refine HE.out.mono ?_
  rintro e w1 ⟨rfl, b1⟩
  have B1 := hide b1
  clear b1 HE
  go_wp2
  exact HQ.out _ _ ⟨rfl, rfl, rfl, rfl, rfl, rfl, rfl, rfl, rfl, rfl, rfl, rfl⟩ B1.out
set_option maxHeartbeats 8000000 in
set_option maxRecDepth 100000 in
theorem uo_r2 {K : Act → World → Prop} {c : Code} (hc : regOf (Try.f5.body.getD .skip) 2 = some c) (a : Act) {v : Vuo} {wq : World} {d : Nat} {m : MB} {R : Value → Int → World → Prop} (hF : Fuo a v) (h2v : v.v2 = .pointer (some ⟨d, 0, none⟩)) (hD : wq.heap[d]? = some (.cells #[.int .i64 m.node, .int .i64 m.life] tMember (0, 0))) (hE : Calls Try.prog 7 #[m.v] wq fun e w' => ∃ p z, e = .returned (.tuple #[p, .int .i64 z]) ∧ R p z w')
    (hQ : ∀ a' w' p z, Fuo a' { v with v6 := p, v7 := .int .i64 z } → R p z w' → K a' w') :
    Code.wp Try.prog c (Exit.then K fun _ _ _ => False) a wq := by
  have HQ := hide hQ
  clear hQ
  obtain ⟨t', d'⟩ := a
  obtain ⟨v1, v2, v4, v5, v6, v7, v8, v9, v10, v11⟩ := v
  simp only at h2v HQ
  subst h2v
  obtain ⟨hs1, hd1, q1, q2, q4, q5, q6, q7, q8, q9, q10, q11⟩ := hF
  obtain ⟨u, hu⟩ := frame_uo t' hs1
  simp only at hd1 q1 q2 q4 q5 q6 q7 q8 q9 q10 q11
  subst hu hd1
  have e1 : u 1 = v1 := q1
  have e2 : u 2 = .pointer (some ⟨d, 0, none⟩) := q2
  have e4 : u 4 = v4 := q4
  have e5 : u 5 = v5 := q5
  have e6 : u 6 = v6 := q6
  have e7 : u 7 = v7 := q7
  have e8 : u 8 = v8 := q8
  have e9 : u 9 = v9 := q9
  have e10 : u 10 = v10 := q10
  have e11 : u 11 = v11 := q11
  rw [e1, e2, e4, e5, e6, e7, e8, e9, e10, e11]
  clear q1 e1 q2 e2 q4 e4 q5 e5 q6 e6 q7 e7 q8 e8 q9 e9 q10 e10 q11 e11 hs1
  simp only [Try.f5, Option.getD_some, regOf] at hc
  injection hc with hc
  subst hc
  generalize u 0 = u0
  generalize u 3 = u3
  generalize u 12 = u12
  generalize u 13 = u13
  generalize u 14 = u14
  generalize u 15 = u15
  generalize u 16 = u16
  generalize u 17 = u17
  generalize u 18 = u18
  generalize u 19 = u19
  generalize u 20 = u20
  generalize u 21 = u21
  generalize u 22 = u22
  generalize u 23 = u23
  generalize u 24 = u24
  generalize u 25 = u25
  generalize u 26 = u26
  generalize u 27 = u27
  generalize u 28 = u28
  generalize u 29 = u29
  generalize u 30 = u30
  generalize u 31 = u31
  generalize u 32 = u32
  generalize u 33 = u33
  generalize u 34 = u34
  generalize u 35 = u35
  generalize u 36 = u36
  generalize u 37 = u37
  generalize u 38 = u38
  generalize u 39 = u39
  generalize u 40 = u40
  generalize u 41 = u41
  generalize u 42 = u42
  generalize u 43 = u43
  generalize u 44 = u44
  generalize u 45 = u45
  generalize u 46 = u46
  generalize u 47 = u47
  generalize u 48 = u48
  generalize u 49 = u49
  generalize u 50 = u50
  generalize u 51 = u51
  generalize u 52 = u52
  generalize u 53 = u53
  generalize u 54 = u54
  generalize u 55 = u55
  generalize u 56 = u56
  generalize u 57 = u57
  generalize u 58 = u58
  generalize u 59 = u59
  generalize u 60 = u60
  generalize u 61 = u61
  generalize u 62 = u62
  generalize u 63 = u63
  generalize u 64 = u64
  generalize u 65 = u65
  generalize u 66 = u66
  generalize u 67 = u67
  generalize u 68 = u68
  generalize u 69 = u69
  generalize u 70 = u70
  generalize u 71 = u71
  generalize u 72 = u72
  generalize u 73 = u73
  generalize u 74 = u74
  generalize u 75 = u75
  generalize u 76 = u76
  generalize u 77 = u77
  generalize u 78 = u78
  generalize u 79 = u79
  generalize u 80 = u80
  generalize u 81 = u81
  generalize u 82 = u82
  generalize u 83 = u83
  generalize u 84 = u84
  generalize u 85 = u85
  generalize u 86 = u86
  generalize u 87 = u87
  generalize u 88 = u88
  generalize u 89 = u89
  generalize u 90 = u90
  generalize u 91 = u91
  generalize u 92 = u92
  generalize u 93 = u93
  generalize u 94 = u94
  generalize u 95 = u95
  generalize u 96 = u96
  generalize u 97 = u97
  clear u
  have HE := hide hE
  clear hE
  have c0 := box_cell hD 0 rfl
  have c1 := box_cell hD 1 rfl
  clear hD
  unfold MB.v at HE
  go_wp2_with fail
  refine HE.out.mono ?_
  rintro e w1 ⟨p, z, rfl, r1⟩
  have R1 := hide r1
  clear r1 HE
  go_wp2
  exact HQ.out _ _ p z ⟨rfl, rfl, rfl, rfl, rfl, rfl, rfl, rfl, rfl, rfl, rfl, rfl⟩ R1.out
set_option maxHeartbeats 8000000 in
set_option maxRecDepth 100000 in
theorem uo_r3n {K : Act → World → Prop} {c : Code} (hc : regOf (Try.f5.body.getD .skip) 3 = some c) (a : Act) {v : Vuo} {wq : World}  (hF : Fuo a v) (h7v : v.v7 = .int .i64 1) (hQ : ∀ a', Fuo a' v → a'.tmps.getD 23 undef = .bool true → K a' wq) :
    Code.wp Try.prog c (Exit.then K fun _ _ _ => False) a wq := by
  have HQ := hide hQ
  clear hQ
  obtain ⟨t', d'⟩ := a
  obtain ⟨v1, v2, v4, v5, v6, v7, v8, v9, v10, v11⟩ := v
  simp only at h7v HQ
  subst h7v
  obtain ⟨hs1, hd1, q1, q2, q4, q5, q6, q7, q8, q9, q10, q11⟩ := hF
  obtain ⟨u, hu⟩ := frame_uo t' hs1
  simp only at hd1 q1 q2 q4 q5 q6 q7 q8 q9 q10 q11
  subst hu hd1
  have e1 : u 1 = v1 := q1
  have e2 : u 2 = v2 := q2
  have e4 : u 4 = v4 := q4
  have e5 : u 5 = v5 := q5
  have e6 : u 6 = v6 := q6
  have e7 : u 7 = .int .i64 1 := q7
  have e8 : u 8 = v8 := q8
  have e9 : u 9 = v9 := q9
  have e10 : u 10 = v10 := q10
  have e11 : u 11 = v11 := q11
  rw [e1, e2, e4, e5, e6, e7, e8, e9, e10, e11]
  clear q1 e1 q2 e2 q4 e4 q5 e5 q6 e6 q7 e7 q8 e8 q9 e9 q10 e10 q11 e11 hs1
  simp only [Try.f5, Option.getD_some, regOf] at hc
  injection hc with hc
  subst hc
  generalize u 0 = u0
  generalize u 3 = u3
  generalize u 12 = u12
  generalize u 13 = u13
  generalize u 14 = u14
  generalize u 15 = u15
  generalize u 16 = u16
  generalize u 17 = u17
  generalize u 18 = u18
  generalize u 19 = u19
  generalize u 20 = u20
  generalize u 21 = u21
  generalize u 22 = u22
  generalize u 23 = u23
  generalize u 24 = u24
  generalize u 25 = u25
  generalize u 26 = u26
  generalize u 27 = u27
  generalize u 28 = u28
  generalize u 29 = u29
  generalize u 30 = u30
  generalize u 31 = u31
  generalize u 32 = u32
  generalize u 33 = u33
  generalize u 34 = u34
  generalize u 35 = u35
  generalize u 36 = u36
  generalize u 37 = u37
  generalize u 38 = u38
  generalize u 39 = u39
  generalize u 40 = u40
  generalize u 41 = u41
  generalize u 42 = u42
  generalize u 43 = u43
  generalize u 44 = u44
  generalize u 45 = u45
  generalize u 46 = u46
  generalize u 47 = u47
  generalize u 48 = u48
  generalize u 49 = u49
  generalize u 50 = u50
  generalize u 51 = u51
  generalize u 52 = u52
  generalize u 53 = u53
  generalize u 54 = u54
  generalize u 55 = u55
  generalize u 56 = u56
  generalize u 57 = u57
  generalize u 58 = u58
  generalize u 59 = u59
  generalize u 60 = u60
  generalize u 61 = u61
  generalize u 62 = u62
  generalize u 63 = u63
  generalize u 64 = u64
  generalize u 65 = u65
  generalize u 66 = u66
  generalize u 67 = u67
  generalize u 68 = u68
  generalize u 69 = u69
  generalize u 70 = u70
  generalize u 71 = u71
  generalize u 72 = u72
  generalize u 73 = u73
  generalize u 74 = u74
  generalize u 75 = u75
  generalize u 76 = u76
  generalize u 77 = u77
  generalize u 78 = u78
  generalize u 79 = u79
  generalize u 80 = u80
  generalize u 81 = u81
  generalize u 82 = u82
  generalize u 83 = u83
  generalize u 84 = u84
  generalize u 85 = u85
  generalize u 86 = u86
  generalize u 87 = u87
  generalize u 88 = u88
  generalize u 89 = u89
  generalize u 90 = u90
  generalize u 91 = u91
  generalize u 92 = u92
  generalize u 93 = u93
  generalize u 94 = u94
  generalize u 95 = u95
  generalize u 96 = u96
  generalize u 97 = u97
  clear u
  go_wp2
  exact HQ.out _ ⟨rfl, rfl, rfl, rfl, rfl, rfl, rfl, rfl, rfl, rfl, rfl, rfl⟩ (by simp)
set_option maxHeartbeats 8000000 in
set_option maxRecDepth 100000 in
theorem uo_r3 {K : Act → World → Prop} {c : Code} (hc : regOf (Try.f5.body.getD .skip) 3 = some c) (a : Act) {v : Vuo} {wq : World} {ad : Addr} (hF : Fuo a v) (h6v : v.v6 = .pointer (some ad)) (h7v : v.v7 = .int .i64 0) (hQ : ∀ a', Fuo a' v → a'.tmps.getD 23 undef = .bool false → K a' wq) :
    Code.wp Try.prog c (Exit.then K fun _ _ _ => False) a wq := by
  have HQ := hide hQ
  clear hQ
  obtain ⟨t', d'⟩ := a
  obtain ⟨v1, v2, v4, v5, v6, v7, v8, v9, v10, v11⟩ := v
  simp only at h6v h7v HQ
  subst h6v h7v
  obtain ⟨hs1, hd1, q1, q2, q4, q5, q6, q7, q8, q9, q10, q11⟩ := hF
  obtain ⟨u, hu⟩ := frame_uo t' hs1
  simp only at hd1 q1 q2 q4 q5 q6 q7 q8 q9 q10 q11
  subst hu hd1
  have e1 : u 1 = v1 := q1
  have e2 : u 2 = v2 := q2
  have e4 : u 4 = v4 := q4
  have e5 : u 5 = v5 := q5
  have e6 : u 6 = .pointer (some ad) := q6
  have e7 : u 7 = .int .i64 0 := q7
  have e8 : u 8 = v8 := q8
  have e9 : u 9 = v9 := q9
  have e10 : u 10 = v10 := q10
  have e11 : u 11 = v11 := q11
  rw [e1, e2, e4, e5, e6, e7, e8, e9, e10, e11]
  clear q1 e1 q2 e2 q4 e4 q5 e5 q6 e6 q7 e7 q8 e8 q9 e9 q10 e10 q11 e11 hs1
  simp only [Try.f5, Option.getD_some, regOf] at hc
  injection hc with hc
  subst hc
  generalize u 0 = u0
  generalize u 3 = u3
  generalize u 12 = u12
  generalize u 13 = u13
  generalize u 14 = u14
  generalize u 15 = u15
  generalize u 16 = u16
  generalize u 17 = u17
  generalize u 18 = u18
  generalize u 19 = u19
  generalize u 20 = u20
  generalize u 21 = u21
  generalize u 22 = u22
  generalize u 23 = u23
  generalize u 24 = u24
  generalize u 25 = u25
  generalize u 26 = u26
  generalize u 27 = u27
  generalize u 28 = u28
  generalize u 29 = u29
  generalize u 30 = u30
  generalize u 31 = u31
  generalize u 32 = u32
  generalize u 33 = u33
  generalize u 34 = u34
  generalize u 35 = u35
  generalize u 36 = u36
  generalize u 37 = u37
  generalize u 38 = u38
  generalize u 39 = u39
  generalize u 40 = u40
  generalize u 41 = u41
  generalize u 42 = u42
  generalize u 43 = u43
  generalize u 44 = u44
  generalize u 45 = u45
  generalize u 46 = u46
  generalize u 47 = u47
  generalize u 48 = u48
  generalize u 49 = u49
  generalize u 50 = u50
  generalize u 51 = u51
  generalize u 52 = u52
  generalize u 53 = u53
  generalize u 54 = u54
  generalize u 55 = u55
  generalize u 56 = u56
  generalize u 57 = u57
  generalize u 58 = u58
  generalize u 59 = u59
  generalize u 60 = u60
  generalize u 61 = u61
  generalize u 62 = u62
  generalize u 63 = u63
  generalize u 64 = u64
  generalize u 65 = u65
  generalize u 66 = u66
  generalize u 67 = u67
  generalize u 68 = u68
  generalize u 69 = u69
  generalize u 70 = u70
  generalize u 71 = u71
  generalize u 72 = u72
  generalize u 73 = u73
  generalize u 74 = u74
  generalize u 75 = u75
  generalize u 76 = u76
  generalize u 77 = u77
  generalize u 78 = u78
  generalize u 79 = u79
  generalize u 80 = u80
  generalize u 81 = u81
  generalize u 82 = u82
  generalize u 83 = u83
  generalize u 84 = u84
  generalize u 85 = u85
  generalize u 86 = u86
  generalize u 87 = u87
  generalize u 88 = u88
  generalize u 89 = u89
  generalize u 90 = u90
  generalize u 91 = u91
  generalize u 92 = u92
  generalize u 93 = u93
  generalize u 94 = u94
  generalize u 95 = u95
  generalize u 96 = u96
  generalize u 97 = u97
  clear u
  go_wp2
  exact HQ.out _ ⟨rfl, rfl, rfl, rfl, rfl, rfl, rfl, rfl, rfl, rfl, rfl, rfl⟩ (by simp)
set_option maxHeartbeats 8000000 in
set_option maxRecDepth 100000 in
theorem uo_r4 {K : Act → World → Prop} {c : Code} (hc : regOf (Try.f5.body.getD .skip) 4 = some c) (a : Act) {v : Vuo} {wq : World}  (hF : Fuo a v) (h5v : v.v5 = .bool true) (h6v : v.v6 = .pointer none) (hQ : ∀ a', Fuo a' { v with v4 := .bool true } → K a' wq) :
    Code.wp Try.prog c (Exit.then K fun _ _ _ => False) a wq := by
  have HQ := hide hQ
  clear hQ
  obtain ⟨t', d'⟩ := a
  obtain ⟨v1, v2, v4, v5, v6, v7, v8, v9, v10, v11⟩ := v
  simp only at h5v h6v HQ
  subst h5v h6v
  obtain ⟨hs1, hd1, q1, q2, q4, q5, q6, q7, q8, q9, q10, q11⟩ := hF
  obtain ⟨u, hu⟩ := frame_uo t' hs1
  simp only at hd1 q1 q2 q4 q5 q6 q7 q8 q9 q10 q11
  subst hu hd1
  have e1 : u 1 = v1 := q1
  have e2 : u 2 = v2 := q2
  have e4 : u 4 = v4 := q4
  have e5 : u 5 = .bool true := q5
  have e6 : u 6 = .pointer none := q6
  have e7 : u 7 = v7 := q7
  have e8 : u 8 = v8 := q8
  have e9 : u 9 = v9 := q9
  have e10 : u 10 = v10 := q10
  have e11 : u 11 = v11 := q11
  rw [e1, e2, e4, e5, e6, e7, e8, e9, e10, e11]
  clear q1 e1 q2 e2 q4 e4 q5 e5 q6 e6 q7 e7 q8 e8 q9 e9 q10 e10 q11 e11 hs1
  simp only [Try.f5, Option.getD_some, regOf] at hc
  injection hc with hc
  subst hc
  generalize u 0 = u0
  generalize u 3 = u3
  generalize u 12 = u12
  generalize u 13 = u13
  generalize u 14 = u14
  generalize u 15 = u15
  generalize u 16 = u16
  generalize u 17 = u17
  generalize u 18 = u18
  generalize u 19 = u19
  generalize u 20 = u20
  generalize u 21 = u21
  generalize u 22 = u22
  generalize u 23 = u23
  generalize u 24 = u24
  generalize u 25 = u25
  generalize u 26 = u26
  generalize u 27 = u27
  generalize u 28 = u28
  generalize u 29 = u29
  generalize u 30 = u30
  generalize u 31 = u31
  generalize u 32 = u32
  generalize u 33 = u33
  generalize u 34 = u34
  generalize u 35 = u35
  generalize u 36 = u36
  generalize u 37 = u37
  generalize u 38 = u38
  generalize u 39 = u39
  generalize u 40 = u40
  generalize u 41 = u41
  generalize u 42 = u42
  generalize u 43 = u43
  generalize u 44 = u44
  generalize u 45 = u45
  generalize u 46 = u46
  generalize u 47 = u47
  generalize u 48 = u48
  generalize u 49 = u49
  generalize u 50 = u50
  generalize u 51 = u51
  generalize u 52 = u52
  generalize u 53 = u53
  generalize u 54 = u54
  generalize u 55 = u55
  generalize u 56 = u56
  generalize u 57 = u57
  generalize u 58 = u58
  generalize u 59 = u59
  generalize u 60 = u60
  generalize u 61 = u61
  generalize u 62 = u62
  generalize u 63 = u63
  generalize u 64 = u64
  generalize u 65 = u65
  generalize u 66 = u66
  generalize u 67 = u67
  generalize u 68 = u68
  generalize u 69 = u69
  generalize u 70 = u70
  generalize u 71 = u71
  generalize u 72 = u72
  generalize u 73 = u73
  generalize u 74 = u74
  generalize u 75 = u75
  generalize u 76 = u76
  generalize u 77 = u77
  generalize u 78 = u78
  generalize u 79 = u79
  generalize u 80 = u80
  generalize u 81 = u81
  generalize u 82 = u82
  generalize u 83 = u83
  generalize u 84 = u84
  generalize u 85 = u85
  generalize u 86 = u86
  generalize u 87 = u87
  generalize u 88 = u88
  generalize u 89 = u89
  generalize u 90 = u90
  generalize u 91 = u91
  generalize u 92 = u92
  generalize u 93 = u93
  generalize u 94 = u94
  generalize u 95 = u95
  generalize u 96 = u96
  generalize u 97 = u97
  clear u
  go_wp2
  exact HQ.out _ ⟨rfl, rfl, rfl, rfl, (by simp), rfl, rfl, rfl, rfl, rfl, rfl, rfl⟩
set_option maxHeartbeats 8000000 in
set_option maxRecDepth 100000 in
theorem uo_r5 {K : Act → World → Prop} {c : Code} (hc : regOf (Try.f5.body.getD .skip) 5 = some c) (a : Act) {v : Vuo} {wq : World}  (hF : Fuo a v) (hQ : ∀ a', Fuo a' { v with v8 := .int .i64 ((0 : Nat) : Int) } → K a' wq) :
    Code.wp Try.prog c (Exit.then K fun _ _ _ => False) a wq := by
  have HQ := hide hQ
  clear hQ
  obtain ⟨t', d'⟩ := a
  obtain ⟨v1, v2, v4, v5, v6, v7, v8, v9, v10, v11⟩ := v
  obtain ⟨hs1, hd1, q1, q2, q4, q5, q6, q7, q8, q9, q10, q11⟩ := hF
  obtain ⟨u, hu⟩ := frame_uo t' hs1
  simp only at hd1 q1 q2 q4 q5 q6 q7 q8 q9 q10 q11
  subst hu hd1
  have e1 : u 1 = v1 := q1
  have e2 : u 2 = v2 := q2
  have e4 : u 4 = v4 := q4
  have e5 : u 5 = v5 := q5
  have e6 : u 6 = v6 := q6
  have e7 : u 7 = v7 := q7
  have e8 : u 8 = v8 := q8
  have e9 : u 9 = v9 := q9
  have e10 : u 10 = v10 := q10
  have e11 : u 11 = v11 := q11
  rw [e1, e2, e4, e5, e6, e7, e8, e9, e10, e11]
  clear q1 e1 q2 e2 q4 e4 q5 e5 q6 e6 q7 e7 q8 e8 q9 e9 q10 e10 q11 e11 hs1
  simp only [Try.f5, Option.getD_some, regOf] at hc
  injection hc with hc
  subst hc
  generalize u 0 = u0
  generalize u 3 = u3
  generalize u 12 = u12
  generalize u 13 = u13
  generalize u 14 = u14
  generalize u 15 = u15
  generalize u 16 = u16
  generalize u 17 = u17
  generalize u 18 = u18
  generalize u 19 = u19
  generalize u 20 = u20
  generalize u 21 = u21
  generalize u 22 = u22
  generalize u 23 = u23
  generalize u 24 = u24
  generalize u 25 = u25
  generalize u 26 = u26
  generalize u 27 = u27
  generalize u 28 = u28
  generalize u 29 = u29
  generalize u 30 = u30
  generalize u 31 = u31
  generalize u 32 = u32
  generalize u 33 = u33
  generalize u 34 = u34
  generalize u 35 = u35
  generalize u 36 = u36
  generalize u 37 = u37
  generalize u 38 = u38
  generalize u 39 = u39
  generalize u 40 = u40
  generalize u 41 = u41
  generalize u 42 = u42
  generalize u 43 = u43
  generalize u 44 = u44
  generalize u 45 = u45
  generalize u 46 = u46
  generalize u 47 = u47
  generalize u 48 = u48
  generalize u 49 = u49
  generalize u 50 = u50
  generalize u 51 = u51
  generalize u 52 = u52
  generalize u 53 = u53
  generalize u 54 = u54
  generalize u 55 = u55
  generalize u 56 = u56
  generalize u 57 = u57
  generalize u 58 = u58
  generalize u 59 = u59
  generalize u 60 = u60
  generalize u 61 = u61
  generalize u 62 = u62
  generalize u 63 = u63
  generalize u 64 = u64
  generalize u 65 = u65
  generalize u 66 = u66
  generalize u 67 = u67
  generalize u 68 = u68
  generalize u 69 = u69
  generalize u 70 = u70
  generalize u 71 = u71
  generalize u 72 = u72
  generalize u 73 = u73
  generalize u 74 = u74
  generalize u 75 = u75
  generalize u 76 = u76
  generalize u 77 = u77
  generalize u 78 = u78
  generalize u 79 = u79
  generalize u 80 = u80
  generalize u 81 = u81
  generalize u 82 = u82
  generalize u 83 = u83
  generalize u 84 = u84
  generalize u 85 = u85
  generalize u 86 = u86
  generalize u 87 = u87
  generalize u 88 = u88
  generalize u 89 = u89
  generalize u 90 = u90
  generalize u 91 = u91
  generalize u 92 = u92
  generalize u 93 = u93
  generalize u 94 = u94
  generalize u 95 = u95
  generalize u 96 = u96
  generalize u 97 = u97
  clear u
  go_wp2
  exact HQ.out _ ⟨rfl, rfl, rfl, rfl, rfl, rfl, rfl, rfl, rfl, rfl, rfl, rfl⟩
set_option maxHeartbeats 8000000 in
set_option maxRecDepth 100000 in
theorem uo_r12 {K : Act → World → Prop} {c : Code} (hc : regOf (Try.f5.body.getD .skip) 12 = some c) (a : Act) {v : Vuo} {wq : World}  (hF : Fuo a v) (hQ : ∀ a', Fuo a' { v with v10 := .bool false } → K a' wq) :
    Code.wp Try.prog c (Exit.then K fun _ _ _ => False) a wq := by
  have HQ := hide hQ
  clear hQ
  obtain ⟨t', d'⟩ := a
  obtain ⟨v1, v2, v4, v5, v6, v7, v8, v9, v10, v11⟩ := v
  obtain ⟨hs1, hd1, q1, q2, q4, q5, q6, q7, q8, q9, q10, q11⟩ := hF
  obtain ⟨u, hu⟩ := frame_uo t' hs1
  simp only at hd1 q1 q2 q4 q5 q6 q7 q8 q9 q10 q11
  subst hu hd1
  have e1 : u 1 = v1 := q1
  have e2 : u 2 = v2 := q2
  have e4 : u 4 = v4 := q4
  have e5 : u 5 = v5 := q5
  have e6 : u 6 = v6 := q6
  have e7 : u 7 = v7 := q7
  have e8 : u 8 = v8 := q8
  have e9 : u 9 = v9 := q9
  have e10 : u 10 = v10 := q10
  have e11 : u 11 = v11 := q11
  rw [e1, e2, e4, e5, e6, e7, e8, e9, e10, e11]
  clear q1 e1 q2 e2 q4 e4 q5 e5 q6 e6 q7 e7 q8 e8 q9 e9 q10 e10 q11 e11 hs1
  simp only [Try.f5, Option.getD_some, regOf] at hc
  injection hc with hc
  subst hc
  generalize u 0 = u0
  generalize u 3 = u3
  generalize u 12 = u12
  generalize u 13 = u13
  generalize u 14 = u14
  generalize u 15 = u15
  generalize u 16 = u16
  generalize u 17 = u17
  generalize u 18 = u18
  generalize u 19 = u19
  generalize u 20 = u20
  generalize u 21 = u21
  generalize u 22 = u22
  generalize u 23 = u23
  generalize u 24 = u24
  generalize u 25 = u25
  generalize u 26 = u26
  generalize u 27 = u27
  generalize u 28 = u28
  generalize u 29 = u29
  generalize u 30 = u30
  generalize u 31 = u31
  generalize u 32 = u32
  generalize u 33 = u33
  generalize u 34 = u34
  generalize u 35 = u35
  generalize u 36 = u36
  generalize u 37 = u37
  generalize u 38 = u38
  generalize u 39 = u39
  generalize u 40 = u40
  generalize u 41 = u41
  generalize u 42 = u42
  generalize u 43 = u43
  generalize u 44 = u44
  generalize u 45 = u45
  generalize u 46 = u46
  generalize u 47 = u47
  generalize u 48 = u48
  generalize u 49 = u49
  generalize u 50 = u50
  generalize u 51 = u51
  generalize u 52 = u52
  generalize u 53 = u53
  generalize u 54 = u54
  generalize u 55 = u55
  generalize u 56 = u56
  generalize u 57 = u57
  generalize u 58 = u58
  generalize u 59 = u59
  generalize u 60 = u60
  generalize u 61 = u61
  generalize u 62 = u62
  generalize u 63 = u63
  generalize u 64 = u64
  generalize u 65 = u65
  generalize u 66 = u66
  generalize u 67 = u67
  generalize u 68 = u68
  generalize u 69 = u69
  generalize u 70 = u70
  generalize u 71 = u71
  generalize u 72 = u72
  generalize u 73 = u73
  generalize u 74 = u74
  generalize u 75 = u75
  generalize u 76 = u76
  generalize u 77 = u77
  generalize u 78 = u78
  generalize u 79 = u79
  generalize u 80 = u80
  generalize u 81 = u81
  generalize u 82 = u82
  generalize u 83 = u83
  generalize u 84 = u84
  generalize u 85 = u85
  generalize u 86 = u86
  generalize u 87 = u87
  generalize u 88 = u88
  generalize u 89 = u89
  generalize u 90 = u90
  generalize u 91 = u91
  generalize u 92 = u92
  generalize u 93 = u93
  generalize u 94 = u94
  generalize u 95 = u95
  generalize u 96 = u96
  generalize u 97 = u97
  clear u
  go_wp2
  exact HQ.out _ ⟨rfl, rfl, rfl, rfl, rfl, rfl, rfl, rfl, rfl, rfl, rfl, rfl⟩
set_option maxHeartbeats 8000000 in
set_option maxRecDepth 100000 in
theorem uo_r13 {K : Act → World → Prop} {c : Code} (hc : regOf (Try.f5.body.getD .skip) 13 = some c) (a : Act) {v : Vuo} {wq : World}  (hF : Fuo a v) (hQ : ∀ a', Fuo a' { v with v11 := .int .i64 ((0 : Nat) : Int) } → K a' wq) :
    Code.wp Try.prog c (Exit.then K fun _ _ _ => False) a wq := by
  have HQ := hide hQ
  clear hQ
  obtain ⟨t', d'⟩ := a
  obtain ⟨v1, v2, v4, v5, v6, v7, v8, v9, v10, v11⟩ := v
  obtain ⟨hs1, hd1, q1, q2, q4, q5, q6, q7, q8, q9, q10, q11⟩ := hF
  obtain ⟨u, hu⟩ := frame_uo t' hs1
  simp only at hd1 q1 q2 q4 q5 q6 q7 q8 q9 q10 q11
  subst hu hd1
  have e1 : u 1 = v1 := q1
  have e2 : u 2 = v2 := q2
  have e4 : u 4 = v4 := q4
  have e5 : u 5 = v5 := q5
  have e6 : u 6 = v6 := q6
  have e7 : u 7 = v7 := q7
  have e8 : u 8 = v8 := q8
  have e9 : u 9 = v9 := q9
  have e10 : u 10 = v10 := q10
  have e11 : u 11 = v11 := q11
  rw [e1, e2, e4, e5, e6, e7, e8, e9, e10, e11]
  clear q1 e1 q2 e2 q4 e4 q5 e5 q6 e6 q7 e7 q8 e8 q9 e9 q10 e10 q11 e11 hs1
  simp only [Try.f5, Option.getD_some, regOf] at hc
  injection hc with hc
  subst hc
  generalize u 0 = u0
  generalize u 3 = u3
  generalize u 12 = u12
  generalize u 13 = u13
  generalize u 14 = u14
  generalize u 15 = u15
  generalize u 16 = u16
  generalize u 17 = u17
  generalize u 18 = u18
  generalize u 19 = u19
  generalize u 20 = u20
  generalize u 21 = u21
  generalize u 22 = u22
  generalize u 23 = u23
  generalize u 24 = u24
  generalize u 25 = u25
  generalize u 26 = u26
  generalize u 27 = u27
  generalize u 28 = u28
  generalize u 29 = u29
  generalize u 30 = u30
  generalize u 31 = u31
  generalize u 32 = u32
  generalize u 33 = u33
  generalize u 34 = u34
  generalize u 35 = u35
  generalize u 36 = u36
  generalize u 37 = u37
  generalize u 38 = u38
  generalize u 39 = u39
  generalize u 40 = u40
  generalize u 41 = u41
  generalize u 42 = u42
  generalize u 43 = u43
  generalize u 44 = u44
  generalize u 45 = u45
  generalize u 46 = u46
  generalize u 47 = u47
  generalize u 48 = u48
  generalize u 49 = u49
  generalize u 50 = u50
  generalize u 51 = u51
  generalize u 52 = u52
  generalize u 53 = u53
  generalize u 54 = u54
  generalize u 55 = u55
  generalize u 56 = u56
  generalize u 57 = u57
  generalize u 58 = u58
  generalize u 59 = u59
  generalize u 60 = u60
  generalize u 61 = u61
  generalize u 62 = u62
  generalize u 63 = u63
  generalize u 64 = u64
  generalize u 65 = u65
  generalize u 66 = u66
  generalize u 67 = u67
  generalize u 68 = u68
  generalize u 69 = u69
  generalize u 70 = u70
  generalize u 71 = u71
  generalize u 72 = u72
  generalize u 73 = u73
  generalize u 74 = u74
  generalize u 75 = u75
  generalize u 76 = u76
  generalize u 77 = u77
  generalize u 78 = u78
  generalize u 79 = u79
  generalize u 80 = u80
  generalize u 81 = u81
  generalize u 82 = u82
  generalize u 83 = u83
  generalize u 84 = u84
  generalize u 85 = u85
  generalize u 86 = u86
  generalize u 87 = u87
  generalize u 88 = u88
  generalize u 89 = u89
  generalize u 90 = u90
  generalize u 91 = u91
  generalize u 92 = u92
  generalize u 93 = u93
  generalize u 94 = u94
  generalize u 95 = u95
  generalize u 96 = u96
  generalize u 97 = u97
  clear u
  go_wp2
  exact HQ.out _ ⟨rfl, rfl, rfl, rfl, rfl, rfl, rfl, rfl, rfl, rfl, rfl, rfl⟩
set_option maxHeartbeats 8000000 in
set_option maxRecDepth 100000 in
theorem uo_r7 {K : Act → World → Prop} {c : Code} (hc : regOf (Try.f5.body.getD .skip) 7 = some c) (a : Act) {v : Vuo} {wq : World} {i : Nat} (hF : Fuo a v) (h8v : v.v8 = .int .i64 (i : Int)) (hn : i ≤ 4611686018427387904) (hQ : ∀ a', Fuo a' { v with v8 := .int .i64 ((i + 1 : Nat) : Int) } → K a' wq) :
    Code.wp Try.prog c (Exit.then K fun _ _ _ => False) a wq := by
  have HQ := hide hQ
  clear hQ
  obtain ⟨t', d'⟩ := a
  obtain ⟨v1, v2, v4, v5, v6, v7, v8, v9, v10, v11⟩ := v
  simp only at h8v HQ
  subst h8v
  obtain ⟨hs1, hd1, q1, q2, q4, q5, q6, q7, q8, q9, q10, q11⟩ := hF
  obtain ⟨u, hu⟩ := frame_uo t' hs1
  simp only at hd1 q1 q2 q4 q5 q6 q7 q8 q9 q10 q11
  subst hu hd1
  have e1 : u 1 = v1 := q1
  have e2 : u 2 = v2 := q2
  have e4 : u 4 = v4 := q4
  have e5 : u 5 = v5 := q5
  have e6 : u 6 = v6 := q6
  have e7 : u 7 = v7 := q7
  have e8 : u 8 = .int .i64 (i : Int) := q8
  have e9 : u 9 = v9 := q9
  have e10 : u 10 = v10 := q10
  have e11 : u 11 = v11 := q11
  rw [e1, e2, e4, e5, e6, e7, e8, e9, e10, e11]
  clear q1 e1 q2 e2 q4 e4 q5 e5 q6 e6 q7 e7 q8 e8 q9 e9 q10 e10 q11 e11 hs1
  simp only [Try.f5, Option.getD_some, regOf] at hc
  injection hc with hc
  subst hc
  generalize u 0 = u0
  generalize u 3 = u3
  generalize u 12 = u12
  generalize u 13 = u13
  generalize u 14 = u14
  generalize u 15 = u15
  generalize u 16 = u16
  generalize u 17 = u17
  generalize u 18 = u18
  generalize u 19 = u19
  generalize u 20 = u20
  generalize u 21 = u21
  generalize u 22 = u22
  generalize u 23 = u23
  generalize u 24 = u24
  generalize u 25 = u25
  generalize u 26 = u26
  generalize u 27 = u27
  generalize u 28 = u28
  generalize u 29 = u29
  generalize u 30 = u30
  generalize u 31 = u31
  generalize u 32 = u32
  generalize u 33 = u33
  generalize u 34 = u34
  generalize u 35 = u35
  generalize u 36 = u36
  generalize u 37 = u37
  generalize u 38 = u38
  generalize u 39 = u39
  generalize u 40 = u40
  generalize u 41 = u41
  generalize u 42 = u42
  generalize u 43 = u43
  generalize u 44 = u44
  generalize u 45 = u45
  generalize u 46 = u46
  generalize u 47 = u47
  generalize u 48 = u48
  generalize u 49 = u49
  generalize u 50 = u50
  generalize u 51 = u51
  generalize u 52 = u52
  generalize u 53 = u53
  generalize u 54 = u54
  generalize u 55 = u55
  generalize u 56 = u56
  generalize u 57 = u57
  generalize u 58 = u58
  generalize u 59 = u59
  generalize u 60 = u60
  generalize u 61 = u61
  generalize u 62 = u62
  generalize u 63 = u63
  generalize u 64 = u64
  generalize u 65 = u65
  generalize u 66 = u66
  generalize u 67 = u67
  generalize u 68 = u68
  generalize u 69 = u69
  generalize u 70 = u70
  generalize u 71 = u71
  generalize u 72 = u72
  generalize u 73 = u73
  generalize u 74 = u74
  generalize u 75 = u75
  generalize u 76 = u76
  generalize u 77 = u77
  generalize u 78 = u78
  generalize u 79 = u79
  generalize u 80 = u80
  generalize u 81 = u81
  generalize u 82 = u82
  generalize u 83 = u83
  generalize u 84 = u84
  generalize u 85 = u85
  generalize u 86 = u86
  generalize u 87 = u87
  generalize u 88 = u88
  generalize u 89 = u89
  generalize u 90 = u90
  generalize u 91 = u91
  generalize u 92 = u92
  generalize u 93 = u93
  generalize u 94 = u94
  generalize u 95 = u95
  generalize u 96 = u96
  generalize u 97 = u97
  clear u
  have hj1 : ((i + 1 : Nat) : Int) = (i : Int) + 1 := by omega
  rw [hj1] at HQ
  clear hj1
  go_wp2
  exact HQ.out _ ⟨rfl, rfl, rfl, rfl, rfl, rfl, rfl, rfl, rfl, rfl, rfl, rfl⟩
set_option maxHeartbeats 8000000 in
set_option maxRecDepth 100000 in
theorem uo_r15 {K : Act → World → Prop} {c : Code} (hc : regOf (Try.f5.body.getD .skip) 15 = some c) (a : Act) {v : Vuo} {wq : World} {i : Nat} (hF : Fuo a v) (h11v : v.v11 = .int .i64 (i : Int)) (hn : i ≤ 4611686018427387904) (hQ : ∀ a', Fuo a' { v with v11 := .int .i64 ((i + 1 : Nat) : Int) } → K a' wq) :
    Code.wp Try.prog c (Exit.then K fun _ _ _ => False) a wq := by
  have HQ := hide hQ
  clear hQ
  obtain ⟨t', d'⟩ := a
  obtain ⟨v1, v2, v4, v5, v6, v7, v8, v9, v10, v11⟩ := v
  simp only at h11v HQ
  subst h11v
  obtain ⟨hs1, hd1, q1, q2, q4, q5, q6, q7, q8, q9, q10, q11⟩ := hF
  obtain ⟨u, hu⟩ := frame_uo t' hs1
  simp only at hd1 q1 q2 q4 q5 q6 q7 q8 q9 q10 q11
  subst hu hd1
  have e1 : u 1 = v1 := q1
  have e2 : u 2 = v2 := q2
  have e4 : u 4 = v4 := q4
  have e5 : u 5 = v5 := q5
  have e6 : u 6 = v6 := q6
  have e7 : u 7 = v7 := q7
  have e8 : u 8 = v8 := q8
  have e9 : u 9 = v9 := q9
  have e10 : u 10 = v10 := q10
  have e11 : u 11 = .int .i64 (i : Int) := q11
  rw [e1, e2, e4, e5, e6, e7, e8, e9, e10, e11]
  clear q1 e1 q2 e2 q4 e4 q5 e5 q6 e6 q7 e7 q8 e8 q9 e9 q10 e10 q11 e11 hs1
  simp only [Try.f5, Option.getD_some, regOf] at hc
  injection hc with hc
  subst hc
  generalize u 0 = u0
  generalize u 3 = u3
  generalize u 12 = u12
  generalize u 13 = u13
  generalize u 14 = u14
  generalize u 15 = u15
  generalize u 16 = u16
  generalize u 17 = u17
  generalize u 18 = u18
  generalize u 19 = u19
  generalize u 20 = u20
  generalize u 21 = u21
  generalize u 22 = u22
  generalize u 23 = u23
  generalize u 24 = u24
  generalize u 25 = u25
  generalize u 26 = u26
  generalize u 27 = u27
  generalize u 28 = u28
  generalize u 29 = u29
  generalize u 30 = u30
  generalize u 31 = u31
  generalize u 32 = u32
  generalize u 33 = u33
  generalize u 34 = u34
  generalize u 35 = u35
  generalize u 36 = u36
  generalize u 37 = u37
  generalize u 38 = u38
  generalize u 39 = u39
  generalize u 40 = u40
  generalize u 41 = u41
  generalize u 42 = u42
  generalize u 43 = u43
  generalize u 44 = u44
  generalize u 45 = u45
  generalize u 46 = u46
  generalize u 47 = u47
  generalize u 48 = u48
  generalize u 49 = u49
  generalize u 50 = u50
  generalize u 51 = u51
  generalize u 52 = u52
  generalize u 53 = u53
  generalize u 54 = u54
  generalize u 55 = u55
  generalize u 56 = u56
  generalize u 57 = u57
  generalize u 58 = u58
  generalize u 59 = u59
  generalize u 60 = u60
  generalize u 61 = u61
  generalize u 62 = u62
  generalize u 63 = u63
  generalize u 64 = u64
  generalize u 65 = u65
  generalize u 66 = u66
  generalize u 67 = u67
  generalize u 68 = u68
  generalize u 69 = u69
  generalize u 70 = u70
  generalize u 71 = u71
  generalize u 72 = u72
  generalize u 73 = u73
  generalize u 74 = u74
  generalize u 75 = u75
  generalize u 76 = u76
  generalize u 77 = u77
  generalize u 78 = u78
  generalize u 79 = u79
  generalize u 80 = u80
  generalize u 81 = u81
  generalize u 82 = u82
  generalize u 83 = u83
  generalize u 84 = u84
  generalize u 85 = u85
  generalize u 86 = u86
  generalize u 87 = u87
  generalize u 88 = u88
  generalize u 89 = u89
  generalize u 90 = u90
  generalize u 91 = u91
  generalize u 92 = u92
  generalize u 93 = u93
  generalize u 94 = u94
  generalize u 95 = u95
  generalize u 96 = u96
  generalize u 97 = u97
  clear u
  have hj1 : ((i + 1 : Nat) : Int) = (i : Int) + 1 := by omega
  rw [hj1] at HQ
  clear hj1
  go_wp2
  exact HQ.out _ ⟨rfl, rfl, rfl, rfl, rfl, rfl, rfl, rfl, rfl, rfl, rfl, rfl⟩
set_option maxHeartbeats 8000000 in
set_option maxRecDepth 100000 in
theorem uo_r6 {K : Act → World → Prop} {c : Code} (hc : regOf (Try.f5.body.getD .skip) 6 = some c) (a : Act) {v : Vuo} {wq : World} {n cp i : Nat} {ao : Option Addr} (hF : Fuo a v) (h1v : v.v1 = .slice ao n cp) (h8v : v.v8 = .int .i64 (i : Int)) (hQ : ∀ a', Fuo a' v → a'.tmps.getD 36 undef = .bool (decide (i < n ∧ i < 100)) → K a' wq) :
    Code.wp Try.prog c (Exit.then K fun _ _ _ => False) a wq := by
  have HQ := hide hQ
  clear hQ
  obtain ⟨t', d'⟩ := a
  obtain ⟨v1, v2, v4, v5, v6, v7, v8, v9, v10, v11⟩ := v
  simp only at h1v h8v HQ
  subst h1v h8v
  obtain ⟨hs1, hd1, q1, q2, q4, q5, q6, q7, q8, q9, q10, q11⟩ := hF
  obtain ⟨u, hu⟩ := frame_uo t' hs1
  simp only at hd1 q1 q2 q4 q5 q6 q7 q8 q9 q10 q11
  subst hu hd1
  have e1 : u 1 = .slice ao n cp := q1
  have e2 : u 2 = v2 := q2
  have e4 : u 4 = v4 := q4
  have e5 : u 5 = v5 := q5
  have e6 : u 6 = v6 := q6
  have e7 : u 7 = v7 := q7
  have e8 : u 8 = .int .i64 (i : Int) := q8
  have e9 : u 9 = v9 := q9
  have e10 : u 10 = v10 := q10
  have e11 : u 11 = v11 := q11
  rw [e1, e2, e4, e5, e6, e7, e8, e9, e10, e11]
  clear q1 e1 q2 e2 q4 e4 q5 e5 q6 e6 q7 e7 q8 e8 q9 e9 q10 e10 q11 e11 hs1
  simp only [Try.f5, Option.getD_some, regOf] at hc
  injection hc with hc
  subst hc
  generalize u 0 = u0
  generalize u 3 = u3
  generalize u 12 = u12
  generalize u 13 = u13
  generalize u 14 = u14
  generalize u 15 = u15
  generalize u 16 = u16
  generalize u 17 = u17
  generalize u 18 = u18
  generalize u 19 = u19
  generalize u 20 = u20
  generalize u 21 = u21
  generalize u 22 = u22
  generalize u 23 = u23
  generalize u 24 = u24
  generalize u 25 = u25
  generalize u 26 = u26
  generalize u 27 = u27
  generalize u 28 = u28
  generalize u 29 = u29
  generalize u 30 = u30
  generalize u 31 = u31
  generalize u 32 = u32
  generalize u 33 = u33
  generalize u 34 = u34
  generalize u 35 = u35
  generalize u 36 = u36
  generalize u 37 = u37
  generalize u 38 = u38
  generalize u 39 = u39
  generalize u 40 = u40
  generalize u 41 = u41
  generalize u 42 = u42
  generalize u 43 = u43
  generalize u 44 = u44
  generalize u 45 = u45
  generalize u 46 = u46
  generalize u 47 = u47
  generalize u 48 = u48
  generalize u 49 = u49
  generalize u 50 = u50
  generalize u 51 = u51
  generalize u 52 = u52
  generalize u 53 = u53
  generalize u 54 = u54
  generalize u 55 = u55
  generalize u 56 = u56
  generalize u 57 = u57
  generalize u 58 = u58
  generalize u 59 = u59
  generalize u 60 = u60
  generalize u 61 = u61
  generalize u 62 = u62
  generalize u 63 = u63
  generalize u 64 = u64
  generalize u 65 = u65
  generalize u 66 = u66
  generalize u 67 = u67
  generalize u 68 = u68
  generalize u 69 = u69
  generalize u 70 = u70
  generalize u 71 = u71
  generalize u 72 = u72
  generalize u 73 = u73
  generalize u 74 = u74
  generalize u 75 = u75
  generalize u 76 = u76
  generalize u 77 = u77
  generalize u 78 = u78
  generalize u 79 = u79
  generalize u 80 = u80
  generalize u 81 = u81
  generalize u 82 = u82
  generalize u 83 = u83
  generalize u 84 = u84
  generalize u 85 = u85
  generalize u 86 = u86
  generalize u 87 = u87
  generalize u 88 = u88
  generalize u 89 = u89
  generalize u 90 = u90
  generalize u 91 = u91
  generalize u 92 = u92
  generalize u 93 = u93
  generalize u 94 = u94
  generalize u 95 = u95
  generalize u 96 = u96
  generalize u 97 = u97
  clear u
  by_cases h1 : i < n
  · have g1 : (i : Int) < (n : Int) := by omega
    by_cases h2 : i < 100
    · rw [decide_eq_true (And.intro h1 h2)] at HQ
      have g : (i : Int) < 100 := by omega
      go_wp2
      exact HQ.out _ ⟨rfl, rfl, rfl, rfl, rfl, rfl, rfl, rfl, rfl, rfl, rfl, rfl⟩ (by simp)
    · rw [decide_eq_false (fun e => h2 e.2)] at HQ
      have g : ¬ (i : Int) < 100 := by omega
      go_wp2
      exact HQ.out _ ⟨rfl, rfl, rfl, rfl, rfl, rfl, rfl, rfl, rfl, rfl, rfl, rfl⟩ (by simp)
  · rw [decide_eq_false (fun e => h1 e.1)] at HQ
    have g : ¬ (i : Int) < (n : Int) := by omega
    go_wp2
    exact HQ.out _ ⟨rfl, rfl, rfl, rfl, rfl, rfl, rfl, rfl, rfl, rfl, rfl, rfl⟩ (by simp)
set_option maxHeartbeats 8000000 in
set_option maxRecDepth 100000 in
theorem uo_r8 {K : Act → World → Prop} {c : Code} (hc : regOf (Try.f5.body.getD .skip) 8 = some c) (a : Act) {v : Vuo} {wq : World} {n cp i b off : Nat} {t : Bool} (hF : Fuo a v) (h1v : v.v1 = .slice (some ⟨b, off, none⟩) n cp) (h8v : v.v8 = .int .i64 (i : Int)) (hi : i < n) (y0 : wq.cell? ⟨b, off + i * 3, none⟩ = some (.bool t)) (hQ : ∀ a', Fuo a' v → a'.tmps.getD 43 undef = .bool t → K a' wq) :
    Code.wp Try.prog c (Exit.then K fun _ _ _ => False) a wq := by
  have HQ := hide hQ
  clear hQ
  obtain ⟨t', d'⟩ := a
  obtain ⟨v1, v2, v4, v5, v6, v7, v8, v9, v10, v11⟩ := v
  simp only at h1v h8v HQ
  subst h1v h8v
  obtain ⟨hs1, hd1, q1, q2, q4, q5, q6, q7, q8, q9, q10, q11⟩ := hF
  obtain ⟨u, hu⟩ := frame_uo t' hs1
  simp only at hd1 q1 q2 q4 q5 q6 q7 q8 q9 q10 q11
  subst hu hd1
  have e1 : u 1 = .slice (some ⟨b, off, none⟩) n cp := q1
  have e2 : u 2 = v2 := q2
  have e4 : u 4 = v4 := q4
  have e5 : u 5 = v5 := q5
  have e6 : u 6 = v6 := q6
  have e7 : u 7 = v7 := q7
  have e8 : u 8 = .int .i64 (i : Int) := q8
  have e9 : u 9 = v9 := q9
  have e10 : u 10 = v10 := q10
  have e11 : u 11 = v11 := q11
  rw [e1, e2, e4, e5, e6, e7, e8, e9, e10, e11]
  clear q1 e1 q2 e2 q4 e4 q5 e5 q6 e6 q7 e7 q8 e8 q9 e9 q10 e10 q11 e11 hs1
  simp only [Try.f5, Option.getD_some, regOf] at hc
  injection hc with hc
  subst hc
  generalize u 0 = u0
  generalize u 3 = u3
  generalize u 12 = u12
  generalize u 13 = u13
  generalize u 14 = u14
  generalize u 15 = u15
  generalize u 16 = u16
  generalize u 17 = u17
  generalize u 18 = u18
  generalize u 19 = u19
  generalize u 20 = u20
  generalize u 21 = u21
  generalize u 22 = u22
  generalize u 23 = u23
  generalize u 24 = u24
  generalize u 25 = u25
  generalize u 26 = u26
  generalize u 27 = u27
  generalize u 28 = u28
  generalize u 29 = u29
  generalize u 30 = u30
  generalize u 31 = u31
  generalize u 32 = u32
  generalize u 33 = u33
  generalize u 34 = u34
  generalize u 35 = u35
  generalize u 36 = u36
  generalize u 37 = u37
  generalize u 38 = u38
  generalize u 39 = u39
  generalize u 40 = u40
  generalize u 41 = u41
  generalize u 42 = u42
  generalize u 43 = u43
  generalize u 44 = u44
  generalize u 45 = u45
  generalize u 46 = u46
  generalize u 47 = u47
  generalize u 48 = u48
  generalize u 49 = u49
  generalize u 50 = u50
  generalize u 51 = u51
  generalize u 52 = u52
  generalize u 53 = u53
  generalize u 54 = u54
  generalize u 55 = u55
  generalize u 56 = u56
  generalize u 57 = u57
  generalize u 58 = u58
  generalize u 59 = u59
  generalize u 60 = u60
  generalize u 61 = u61
  generalize u 62 = u62
  generalize u 63 = u63
  generalize u 64 = u64
  generalize u 65 = u65
  generalize u 66 = u66
  generalize u 67 = u67
  generalize u 68 = u68
  generalize u 69 = u69
  generalize u 70 = u70
  generalize u 71 = u71
  generalize u 72 = u72
  generalize u 73 = u73
  generalize u 74 = u74
  generalize u 75 = u75
  generalize u 76 = u76
  generalize u 77 = u77
  generalize u 78 = u78
  generalize u 79 = u79
  generalize u 80 = u80
  generalize u 81 = u81
  generalize u 82 = u82
  generalize u 83 = u83
  generalize u 84 = u84
  generalize u 85 = u85
  generalize u 86 = u86
  generalize u 87 = u87
  generalize u 88 = u88
  generalize u 89 = u89
  generalize u 90 = u90
  generalize u 91 = u91
  generalize u 92 = u92
  generalize u 93 = u93
  generalize u 94 = u94
  generalize u 95 = u95
  generalize u 96 = u96
  generalize u 97 = u97
  clear u
  have hi0 : (0 : Int) ≤ (i : Int) := by omega
  have hi1 : (i : Int) < (n : Int) := by omega
  go_wp2
  exact HQ.out _ ⟨rfl, rfl, rfl, rfl, rfl, rfl, rfl, rfl, rfl, rfl, rfl, rfl⟩ (by simp)
set_option maxHeartbeats 8000000 in
set_option maxRecDepth 100000 in
theorem uo_r9 {K : Act → World → Prop} {c : Code} (hc : regOf (Try.f5.body.getD .skip) 9 = some c) (a : Act) {v : Vuo} {wq : World} {ad : Addr} {R : World → Prop} (hF : Fuo a v) (h6v : v.v6 = .pointer (some ad))  (hE : Calls Try.prog 9 #[.pointer (some ad)] wq fun e w' => (∃ x, e = .returned x) ∧ R w')
    (hQ : ∀ a' w' , Fuo a' v → R w' → K a' w') :
    Code.wp Try.prog c (Exit.then K fun _ _ _ => False) a wq := by
  have HQ := hide hQ
  clear hQ
  obtain ⟨t', d'⟩ := a
  obtain ⟨v1, v2, v4, v5, v6, v7, v8, v9, v10, v11⟩ := v
  simp only at h6v HQ
  subst h6v
  obtain ⟨hs1, hd1, q1, q2, q4, q5, q6, q7, q8, q9, q10, q11⟩ := hF
  obtain ⟨u, hu⟩ := frame_uo t' hs1
  simp only at hd1 q1 q2 q4 q5 q6 q7 q8 q9 q10 q11
  subst hu hd1
  have e1 : u 1 = v1 := q1
  have e2 : u 2 = v2 := q2
  have e4 : u 4 = v4 := q4
  have e5 : u 5 = v5 := q5
  have e6 : u 6 = .pointer (some ad) := q6
  have e7 : u 7 = v7 := q7
  have e8 : u 8 = v8 := q8
  have e9 : u 9 = v9 := q9
  have e10 : u 10 = v10 := q10
  have e11 : u 11 = v11 := q11
  rw [e1, e2, e4, e5, e6, e7, e8, e9, e10, e11]
  clear q1 e1 q2 e2 q4 e4 q5 e5 q6 e6 q7 e7 q8 e8 q9 e9 q10 e10 q11 e11 hs1
  simp only [Try.f5, Option.getD_some, regOf] at hc
  injection hc with hc
  subst hc
  generalize u 0 = u0
  generalize u 3 = u3
  generalize u 12 = u12
  generalize u 13 = u13
  generalize u 14 = u14
  generalize u 15 = u15
  generalize u 16 = u16
  generalize u 17 = u17
  generalize u 18 = u18
  generalize u 19 = u19
  generalize u 20 = u20
  generalize u 21 = u21
  generalize u 22 = u22
  generalize u 23 = u23
  generalize u 24 = u24
  generalize u 25 = u25
  generalize u 26 = u26
  generalize u 27 = u27
  generalize u 28 = u28
  generalize u 29 = u29
  generalize u 30 = u30
  generalize u 31 = u31
  generalize u 32 = u32
  generalize u 33 = u33
  generalize u 34 = u34
  generalize u 35 = u35
  generalize u 36 = u36
  generalize u 37 = u37
  generalize u 38 = u38
  generalize u 39 = u39
  generalize u 40 = u40
  generalize u 41 = u41
  generalize u 42 = u42
  generalize u 43 = u43
  generalize u 44 = u44
  generalize u 45 = u45
  generalize u 46 = u46
  generalize u 47 = u47
  generalize u 48 = u48
  generalize u 49 = u49
  generalize u 50 = u50
  generalize u 51 = u51
  generalize u 52 = u52
  generalize u 53 = u53
  generalize u 54 = u54
  generalize u 55 = u55
  generalize u 56 = u56
  generalize u 57 = u57
  generalize u 58 = u58
  generalize u 59 = u59
  generalize u 60 = u60
  generalize u 61 = u61
  generalize u 62 = u62
  generalize u 63 = u63
  generalize u 64 = u64
  generalize u 65 = u65
  generalize u 66 = u66
  generalize u 67 = u67
  generalize u 68 = u68
  generalize u 69 = u69
  generalize u 70 = u70
  generalize u 71 = u71
  generalize u 72 = u72
  generalize u 73 = u73
  generalize u 74 = u74
  generalize u 75 = u75
  generalize u 76 = u76
  generalize u 77 = u77
  generalize u 78 = u78
  generalize u 79 = u79
  generalize u 80 = u80
  generalize u 81 = u81
  generalize u 82 = u82
  generalize u 83 = u83
  generalize u 84 = u84
  generalize u 85 = u85
  generalize u 86 = u86
  generalize u 87 = u87
  generalize u 88 = u88
  generalize u 89 = u89
  generalize u 90 = u90
  generalize u 91 = u91
  generalize u 92 = u92
  generalize u 93 = u93
  generalize u 94 = u94
  generalize u 95 = u95
  generalize u 96 = u96
  generalize u 97 = u97
  clear u
  have HE := hide hE
  clear hE
  go_wp2_with fail
  refine HE.out.mono ?_
  rintro e w1 ⟨⟨x, rfl⟩, r1⟩
  have R1 := hide r1
  clear r1 HE
  go_wp2
  exact HQ.out _ _ ⟨rfl, rfl, rfl, rfl, rfl, rfl, rfl, rfl, rfl, rfl, rfl, rfl⟩ R1.out
set_option maxHeartbeats 8000000 in
set_option maxRecDepth 100000 in
theorem uo_r10 {K : Act → World → Prop} {c : Code} (hc : regOf (Try.f5.body.getD .skip) 10 = some c) (a : Act) {v : Vuo} {wq : World} {n cp i b off : Nat} {ad : Addr} {m : MB} {r : Bool} {R : World → Prop} (hF : Fuo a v) (h1v : v.v1 = .slice (some ⟨b, off, none⟩) n cp) (h6v : v.v6 = .pointer (some ad)) (h8v : v.v8 = .int .i64 (i : Int)) (hi : i < n) (y0 : wq.cell? ⟨b, off + i * 3 + 1, none⟩ = some (.int .i64 m.node)) (y1 : wq.cell? ⟨b, off + i * 3 + 2, none⟩ = some (.int .i64 m.life)) (hE : Calls Try.prog 11 #[.pointer (some ad), m.v] wq fun e w' => e = .returned (.bool r) ∧ R w')
    (hQ : ∀ a' w' , Fuo a' v → R w' → K a' w') :
    Code.wp Try.prog c (Exit.then K fun _ _ _ => False) a wq := by
  have HQ := hide hQ
  clear hQ
  obtain ⟨t', d'⟩ := a
  obtain ⟨v1, v2, v4, v5, v6, v7, v8, v9, v10, v11⟩ := v
  simp only at h1v h6v h8v HQ
  subst h1v h6v h8v
  obtain ⟨hs1, hd1, q1, q2, q4, q5, q6, q7, q8, q9, q10, q11⟩ := hF
  obtain ⟨u, hu⟩ := frame_uo t' hs1
  simp only at hd1 q1 q2 q4 q5 q6 q7 q8 q9 q10 q11
  subst hu hd1
  have e1 : u 1 = .slice (some ⟨b, off, none⟩) n cp := q1
  have e2 : u 2 = v2 := q2
  have e4 : u 4 = v4 := q4
  have e5 : u 5 = v5 := q5
  have e6 : u 6 = .pointer (some ad) := q6
  have e7 : u 7 = v7 := q7
  have e8 : u 8 = .int .i64 (i : Int) := q8
  have e9 : u 9 = v9 := q9
  have e10 : u 10 = v10 := q10
  have e11 : u 11 = v11 := q11
  rw [e1, e2, e4, e5, e6, e7, e8, e9, e10, e11]
  clear q1 e1 q2 e2 q4 e4 q5 e5 q6 e6 q7 e7 q8 e8 q9 e9 q10 e10 q11 e11 hs1
  simp only [Try.f5, Option.getD_some, regOf] at hc
  injection hc with hc
  subst hc
  generalize u 0 = u0
  generalize u 3 = u3
  generalize u 12 = u12
  generalize u 13 = u13
  generalize u 14 = u14
  generalize u 15 = u15
  generalize u 16 = u16
  generalize u 17 = u17
  generalize u 18 = u18
  generalize u 19 = u19
  generalize u 20 = u20
  generalize u 21 = u21
  generalize u 22 = u22
  generalize u 23 = u23
  generalize u 24 = u24
  generalize u 25 = u25
  generalize u 26 = u26
  generalize u 27 = u27
  generalize u 28 = u28
  generalize u 29 = u29
  generalize u 30 = u30
  generalize u 31 = u31
  generalize u 32 = u32
  generalize u 33 = u33
  generalize u 34 = u34
  generalize u 35 = u35
  generalize u 36 = u36
  generalize u 37 = u37
  generalize u 38 = u38
  generalize u 39 = u39
  generalize u 40 = u40
  generalize u 41 = u41
  generalize u 42 = u42
  generalize u 43 = u43
  generalize u 44 = u44
  generalize u 45 = u45
  generalize u 46 = u46
  generalize u 47 = u47
  generalize u 48 = u48
  generalize u 49 = u49
  generalize u 50 = u50
  generalize u 51 = u51
  generalize u 52 = u52
  generalize u 53 = u53
  generalize u 54 = u54
  generalize u 55 = u55
  generalize u 56 = u56
  generalize u 57 = u57
  generalize u 58 = u58
  generalize u 59 = u59
  generalize u 60 = u60
  generalize u 61 = u61
  generalize u 62 = u62
  generalize u 63 = u63
  generalize u 64 = u64
  generalize u 65 = u65
  generalize u 66 = u66
  generalize u 67 = u67
  generalize u 68 = u68
  generalize u 69 = u69
  generalize u 70 = u70
  generalize u 71 = u71
  generalize u 72 = u72
  generalize u 73 = u73
  generalize u 74 = u74
  generalize u 75 = u75
  generalize u 76 = u76
  generalize u 77 = u77
  generalize u 78 = u78
  generalize u 79 = u79
  generalize u 80 = u80
  generalize u 81 = u81
  generalize u 82 = u82
  generalize u 83 = u83
  generalize u 84 = u84
  generalize u 85 = u85
  generalize u 86 = u86
  generalize u 87 = u87
  generalize u 88 = u88
  generalize u 89 = u89
  generalize u 90 = u90
  generalize u 91 = u91
  generalize u 92 = u92
  generalize u 93 = u93
  generalize u 94 = u94
  generalize u 95 = u95
  generalize u 96 = u96
  generalize u 97 = u97
  clear u
  have HE := hide hE
  clear hE
  have hi0 : (0 : Int) ≤ (i : Int) := by omega
  have hi1 : (i : Int) < (n : Int) := by omega
  unfold MB.v at HE
  go_wp2_with fail
  refine HE.out.mono ?_
  rintro e w1 ⟨rfl, r1⟩
  have R1 := hide r1
  clear r1 HE
  go_wp2
  exact HQ.out _ _ ⟨rfl, rfl, rfl, rfl, rfl, rfl, rfl, rfl, rfl, rfl, rfl, rfl⟩ R1.out
set_option maxHeartbeats 8000000 in
set_option maxRecDepth 100000 in
theorem uo_r11 {K : Act → World → Prop} {c : Code} (hc : regOf (Try.f5.body.getD .skip) 11 = some c) (a : Act) {v : Vuo} {wq : World} {ad : Addr} {n : Nat} {R : Option Addr → World → Prop} (hF : Fuo a v) (h6v : v.v6 = .pointer (some ad))  (hE : Calls Try.prog 13 #[.pointer (some ad)] wq fun e w' => ∃ ro rc, e = .returned (.slice ro n rc) ∧ R ro w')
    (hQ : ∀ a' w' ro rc, Fuo a' { v with v9 := .slice ro n rc } → R ro w' → K a' w') :
    Code.wp Try.prog c (Exit.then K fun _ _ _ => False) a wq := by
  have HQ := hide hQ
  clear hQ
  obtain ⟨t', d'⟩ := a
  obtain ⟨v1, v2, v4, v5, v6, v7, v8, v9, v10, v11⟩ := v
  simp only at h6v HQ
  subst h6v
  obtain ⟨hs1, hd1, q1, q2, q4, q5, q6, q7, q8, q9, q10, q11⟩ := hF
  obtain ⟨u, hu⟩ := frame_uo t' hs1
  simp only at hd1 q1 q2 q4 q5 q6 q7 q8 q9 q10 q11
  subst hu hd1
  have e1 : u 1 = v1 := q1
  have e2 : u 2 = v2 := q2
  have e4 : u 4 = v4 := q4
  have e5 : u 5 = v5 := q5
  have e6 : u 6 = .pointer (some ad) := q6
  have e7 : u 7 = v7 := q7
  have e8 : u 8 = v8 := q8
  have e9 : u 9 = v9 := q9
  have e10 : u 10 = v10 := q10
  have e11 : u 11 = v11 := q11
  rw [e1, e2, e4, e5, e6, e7, e8, e9, e10, e11]
  clear q1 e1 q2 e2 q4 e4 q5 e5 q6 e6 q7 e7 q8 e8 q9 e9 q10 e10 q11 e11 hs1
  simp only [Try.f5, Option.getD_some, regOf] at hc
  injection hc with hc
  subst hc
  generalize u 0 = u0
  generalize u 3 = u3
  generalize u 12 = u12
  generalize u 13 = u13
  generalize u 14 = u14
  generalize u 15 = u15
  generalize u 16 = u16
  generalize u 17 = u17
  generalize u 18 = u18
  generalize u 19 = u19
  generalize u 20 = u20
  generalize u 21 = u21
  generalize u 22 = u22
  generalize u 23 = u23
  generalize u 24 = u24
  generalize u 25 = u25
  generalize u 26 = u26
  generalize u 27 = u27
  generalize u 28 = u28
  generalize u 29 = u29
  generalize u 30 = u30
  generalize u 31 = u31
  generalize u 32 = u32
  generalize u 33 = u33
  generalize u 34 = u34
  generalize u 35 = u35
  generalize u 36 = u36
  generalize u 37 = u37
  generalize u 38 = u38
  generalize u 39 = u39
  generalize u 40 = u40
  generalize u 41 = u41
  generalize u 42 = u42
  generalize u 43 = u43
  generalize u 44 = u44
  generalize u 45 = u45
  generalize u 46 = u46
  generalize u 47 = u47
  generalize u 48 = u48
  generalize u 49 = u49
  generalize u 50 = u50
  generalize u 51 = u51
  generalize u 52 = u52
  generalize u 53 = u53
  generalize u 54 = u54
  generalize u 55 = u55
  generalize u 56 = u56
  generalize u 57 = u57
  generalize u 58 = u58
  generalize u 59 = u59
  generalize u 60 = u60
  generalize u 61 = u61
  generalize u 62 = u62
  generalize u 63 = u63
  generalize u 64 = u64
  generalize u 65 = u65
  generalize u 66 = u66
  generalize u 67 = u67
  generalize u 68 = u68
  generalize u 69 = u69
  generalize u 70 = u70
  generalize u 71 = u71
  generalize u 72 = u72
  generalize u 73 = u73
  generalize u 74 = u74
  generalize u 75 = u75
  generalize u 76 = u76
  generalize u 77 = u77
  generalize u 78 = u78
  generalize u 79 = u79
  generalize u 80 = u80
  generalize u 81 = u81
  generalize u 82 = u82
  generalize u 83 = u83
  generalize u 84 = u84
  generalize u 85 = u85
  generalize u 86 = u86
  generalize u 87 = u87
  generalize u 88 = u88
  generalize u 89 = u89
  generalize u 90 = u90
  generalize u 91 = u91
  generalize u 92 = u92
  generalize u 93 = u93
  generalize u 94 = u94
  generalize u 95 = u95
  generalize u 96 = u96
  generalize u 97 = u97
  clear u
  have HE := hide hE
  clear hE
  go_wp2_with fail
  refine HE.out.mono ?_
  rintro e w1 ⟨ro, rc, rfl, r1⟩
  have R1 := hide r1
  clear r1 HE
  go_wp2
  exact HQ.out _ _ ro rc ⟨rfl, rfl, rfl, rfl, rfl, rfl, rfl, rfl, rfl, rfl, rfl, rfl⟩ R1.out
set_option maxHeartbeats 8000000 in
set_option maxRecDepth 100000 in
theorem uo_r14 {K : Act → World → Prop} {c : Code} (hc : regOf (Try.f5.body.getD .skip) 14 = some c) (a : Act) {v : Vuo} {wq : World} {n cp i : Nat} {ao : Option Addr} (hF : Fuo a v) (h9v : v.v9 = .slice ao n cp) (h11v : v.v11 = .int .i64 (i : Int)) (hQ : ∀ a', Fuo a' v → a'.tmps.getD 58 undef = .bool (decide (i < n)) → K a' wq) :
    Code.wp Try.prog c (Exit.then K fun _ _ _ => False) a wq := by
  have HQ := hide hQ
  clear hQ
  obtain ⟨t', d'⟩ := a
  obtain ⟨v1, v2, v4, v5, v6, v7, v8, v9, v10, v11⟩ := v
  simp only at h9v h11v HQ
  subst h9v h11v
  obtain ⟨hs1, hd1, q1, q2, q4, q5, q6, q7, q8, q9, q10, q11⟩ := hF
  obtain ⟨u, hu⟩ := frame_uo t' hs1
  simp only at hd1 q1 q2 q4 q5 q6 q7 q8 q9 q10 q11
  subst hu hd1
  have e1 : u 1 = v1 := q1
  have e2 : u 2 = v2 := q2
  have e4 : u 4 = v4 := q4
  have e5 : u 5 = v5 := q5
  have e6 : u 6 = v6 := q6
  have e7 : u 7 = v7 := q7
  have e8 : u 8 = v8 := q8
  have e9 : u 9 = .slice ao n cp := q9
  have e10 : u 10 = v10 := q10
  have e11 : u 11 = .int .i64 (i : Int) := q11
  rw [e1, e2, e4, e5, e6, e7, e8, e9, e10, e11]
  clear q1 e1 q2 e2 q4 e4 q5 e5 q6 e6 q7 e7 q8 e8 q9 e9 q10 e10 q11 e11 hs1
  simp only [Try.f5, Option.getD_some, regOf] at hc
  injection hc with hc
  subst hc
  generalize u 0 = u0
  generalize u 3 = u3
  generalize u 12 = u12
  generalize u 13 = u13
  generalize u 14 = u14
  generalize u 15 = u15
  generalize u 16 = u16
  generalize u 17 = u17
  generalize u 18 = u18
  generalize u 19 = u19
  generalize u 20 = u20
  generalize u 21 = u21
  generalize u 22 = u22
  generalize u 23 = u23
  generalize u 24 = u24
  generalize u 25 = u25
  generalize u 26 = u26
  generalize u 27 = u27
  generalize u 28 = u28
  generalize u 29 = u29
  generalize u 30 = u30
  generalize u 31 = u31
  generalize u 32 = u32
  generalize u 33 = u33
  generalize u 34 = u34
  generalize u 35 = u35
  generalize u 36 = u36
  generalize u 37 = u37
  generalize u 38 = u38
  generalize u 39 = u39
  generalize u 40 = u40
  generalize u 41 = u41
  generalize u 42 = u42
  generalize u 43 = u43
  generalize u 44 = u44
  generalize u 45 = u45
  generalize u 46 = u46
  generalize u 47 = u47
  generalize u 48 = u48
  generalize u 49 = u49
  generalize u 50 = u50
  generalize u 51 = u51
  generalize u 52 = u52
  generalize u 53 = u53
  generalize u 54 = u54
  generalize u 55 = u55
  generalize u 56 = u56
  generalize u 57 = u57
  generalize u 58 = u58
  generalize u 59 = u59
  generalize u 60 = u60
  generalize u 61 = u61
  generalize u 62 = u62
  generalize u 63 = u63
  generalize u 64 = u64
  generalize u 65 = u65
  generalize u 66 = u66
  generalize u 67 = u67
  generalize u 68 = u68
  generalize u 69 = u69
  generalize u 70 = u70
  generalize u 71 = u71
  generalize u 72 = u72
  generalize u 73 = u73
  generalize u 74 = u74
  generalize u 75 = u75
  generalize u 76 = u76
  generalize u 77 = u77
  generalize u 78 = u78
  generalize u 79 = u79
  generalize u 80 = u80
  generalize u 81 = u81
  generalize u 82 = u82
  generalize u 83 = u83
  generalize u 84 = u84
  generalize u 85 = u85
  generalize u 86 = u86
  generalize u 87 = u87
  generalize u 88 = u88
  generalize u 89 = u89
  generalize u 90 = u90
  generalize u 91 = u91
  generalize u 92 = u92
  generalize u 93 = u93
  generalize u 94 = u94
  generalize u 95 = u95
  generalize u 96 = u96
  generalize u 97 = u97
  clear u
  by_cases h1 : i < n
  · rw [decide_eq_true h1] at HQ
    have g : (i : Int) < (n : Int) := by omega
    go_wp2
    exact HQ.out _ ⟨rfl, rfl, rfl, rfl, rfl, rfl, rfl, rfl, rfl, rfl, rfl, rfl⟩ rfl
  · rw [decide_eq_false h1] at HQ
    have g : ¬ (i : Int) < (n : Int) := by omega
    go_wp2
    exact HQ.out _ ⟨rfl, rfl, rfl, rfl, rfl, rfl, rfl, rfl, rfl, rfl, rfl, rfl⟩ rfl
set_option maxHeartbeats 8000000 in
set_option maxRecDepth 100000 in
theorem uo_r16 {K : Act → World → Prop} {c : Code} (hc : regOf (Try.f5.body.getD .skip) 16 = some c) (a : Act) {v : Vuo} {wq : World} {d n cp i b off : Nat} {mn ml : Int} {m : MB} {r : Bool} (hF : Fuo a v) (h2v : v.v2 = .pointer (some ⟨d, 0, none⟩)) (h9v : v.v9 = .slice (some ⟨b, off, none⟩) n cp) (h10v : v.v10 = .bool r) (h11v : v.v11 = .int .i64 (i : Int)) (hi : i < n) (hD : wq.heap[d]? = some (.cells #[.int .i64 m.node, .int .i64 m.life] tMember (0, 0))) (y0 : wq.cell? ⟨b, off + i * 2, none⟩ = some (.int .i64 mn)) (y1 : wq.cell? ⟨b, off + i * 2 + 1, none⟩ = some (.int .i64 ml))
    (hQ : ∀ a' w', Fuo a' { v with v10 := .bool (r || (mn == m.node && ml == m.life)) } → Below wq.heap.size wq w' → K a' w') :
    Code.wp Try.prog c (Exit.then K fun _ _ _ => False) a wq := by
  have HQ := hide hQ
  clear hQ
  obtain ⟨t', d'⟩ := a
  obtain ⟨v1, v2, v4, v5, v6, v7, v8, v9, v10, v11⟩ := v
  simp only at h2v h9v h10v h11v HQ
  subst h2v h9v h10v h11v
  obtain ⟨hs1, hd1, q1, q2, q4, q5, q6, q7, q8, q9, q10, q11⟩ := hF
  obtain ⟨u, hu⟩ := frame_uo t' hs1
  simp only at hd1 q1 q2 q4 q5 q6 q7 q8 q9 q10 q11
  subst hu hd1
  have e1 : u 1 = v1 := q1
  have e2 : u 2 = .pointer (some ⟨d, 0, none⟩) := q2
  have e4 : u 4 = v4 := q4
  have e5 : u 5 = v5 := q5
  have e6 : u 6 = v6 := q6
  have e7 : u 7 = v7 := q7
  have e8 : u 8 = v8 := q8
  have e9 : u 9 = .slice (some ⟨b, off, none⟩) n cp := q9
  have e10 : u 10 = .bool r := q10
  have e11 : u 11 = .int .i64 (i : Int) := q11
  rw [e1, e2, e4, e5, e6, e7, e8, e9, e10, e11]
  clear q1 e1 q2 e2 q4 e4 q5 e5 q6 e6 q7 e7 q8 e8 q9 e9 q10 e10 q11 e11 hs1
  simp only [Try.f5, Option.getD_some, regOf] at hc
  injection hc with hc
  subst hc
  generalize u 0 = u0
  generalize u 3 = u3
  generalize u 12 = u12
  generalize u 13 = u13
  generalize u 14 = u14
  generalize u 15 = u15
  generalize u 16 = u16
  generalize u 17 = u17
  generalize u 18 = u18
  generalize u 19 = u19
  generalize u 20 = u20
  generalize u 21 = u21
  generalize u 22 = u22
  generalize u 23 = u23
  generalize u 24 = u24
  generalize u 25 = u25
  generalize u 26 = u26
  generalize u 27 = u27
  generalize u 28 = u28
  generalize u 29 = u29
  generalize u 30 = u30
  generalize u 31 = u31
  generalize u 32 = u32
  generalize u 33 = u33
  generalize u 34 = u34
  generalize u 35 = u35
  generalize u 36 = u36
  generalize u 37 = u37
  generalize u 38 = u38
  generalize u 39 = u39
  generalize u 40 = u40
  generalize u 41 = u41
  generalize u 42 = u42
  generalize u 43 = u43
  generalize u 44 = u44
  generalize u 45 = u45
  generalize u 46 = u46
  generalize u 47 = u47
  generalize u 48 = u48
  generalize u 49 = u49
  generalize u 50 = u50
  generalize u 51 = u51
  generalize u 52 = u52
  generalize u 53 = u53
  generalize u 54 = u54
  generalize u 55 = u55
  generalize u 56 = u56
  generalize u 57 = u57
  generalize u 58 = u58
  generalize u 59 = u59
  generalize u 60 = u60
  generalize u 61 = u61
  generalize u 62 = u62
  generalize u 63 = u63
  generalize u 64 = u64
  generalize u 65 = u65
  generalize u 66 = u66
  generalize u 67 = u67
  generalize u 68 = u68
  generalize u 69 = u69
  generalize u 70 = u70
  generalize u 71 = u71
  generalize u 72 = u72
  generalize u 73 = u73
  generalize u 74 = u74
  generalize u 75 = u75
  generalize u 76 = u76
  generalize u 77 = u77
  generalize u 78 = u78
  generalize u 79 = u79
  generalize u 80 = u80
  generalize u 81 = u81
  generalize u 82 = u82
  generalize u 83 = u83
  generalize u 84 = u84
  generalize u 85 = u85
  generalize u 86 = u86
  generalize u 87 = u87
  generalize u 88 = u88
  generalize u 89 = u89
  generalize u 90 = u90
  generalize u 91 = u91
  generalize u 92 = u92
  generalize u 93 = u93
  generalize u 94 = u94
  generalize u 95 = u95
  generalize u 96 = u96
  generalize u 97 = u97
  clear u
  have c0 := box_cell hD 0 rfl
  have c1 := box_cell hD 1 rfl
  clear hD
  obtain ⟨mn2, ml2⟩ := m
  simp only at c0 c1 HQ
  have hi0 : (0 : Int) ≤ (i : Int) := by omega
  have hi1 : (i : Int) < (n : Int) := by omega
  cases r
  · cases g1 : (mn == mn2)
    · rw [g1] at HQ
      go_quiet (fail)
      go_wp2
      exact HQ.out _ _ ⟨rfl, rfl, rfl, rfl, rfl, rfl, rfl, rfl, rfl, rfl, (by simp), rfl⟩ (below_drewN (Below.refl _ _) _)
    · cases g2 : (ml == ml2)
      · rw [g1, g2] at HQ
        go_quiet (fail)
        go_wp2
        exact HQ.out _ _ ⟨rfl, rfl, rfl, rfl, rfl, rfl, rfl, rfl, rfl, rfl, (by simp), rfl⟩ (below_drewN (Below.refl _ _) _)
      · rw [g1, g2] at HQ
        go_quiet (fail)
        go_wp2
        exact HQ.out _ _ ⟨rfl, rfl, rfl, rfl, rfl, rfl, rfl, rfl, rfl, rfl, (by simp), rfl⟩ (below_drewN (Below.refl _ _) _)
  · go_quiet (fail)
    go_wp2
    exact HQ.out _ _ ⟨rfl, rfl, rfl, rfl, rfl, rfl, rfl, rfl, rfl, rfl, (by simp), rfl⟩ (below_drewN (Below.refl _ _) _)
set_option maxHeartbeats 8000000 in
set_option maxRecDepth 100000 in
theorem uo_r17a {K : Act → World → Prop} {c : Code} (hc : regOf (Try.f5.body.getD .skip) 17 = some c) (a : Act) {v : Vuo} {wq : World} {n cp b off q : Nat} {ad : Addr} {m : MB} (hF : Fuo a v) (h6v : v.v6 = .pointer (some ad)) (h9v : v.v9 = .slice (some ⟨b, off, none⟩) n cp) (h11v : v.v11 = .int .i64 (q : Int)) (hi : q < n) (hbl : b < wq.heap.size) (y0 : wq.cell? ⟨b, off + q * 2, none⟩ = some (.int .i64 m.node)) (y1 : wq.cell? ⟨b, off + q * 2 + 1, none⟩ = some (.int .i64 m.life)) (h0 : q = 0) (hE : ∀ W, Below wq.heap.size wq W → Calls Try.prog 15 #[.pointer (some ad), m.v] W fun e w' => e = .returned (.bool true) ∧ Below W.heap.size W w')
    (hQ : ∀ a' w', Fuo a' v → a'.tmps.getD 94 undef = .bool false → Below wq.heap.size wq w' → K a' w') :
    Code.wp Try.prog c (Exit.then K fun _ _ _ => False) a wq := by
  have HQ := hide hQ
  clear hQ
  obtain ⟨t', d'⟩ := a
  obtain ⟨v1, v2, v4, v5, v6, v7, v8, v9, v10, v11⟩ := v
  simp only at h6v h9v h11v HQ
  subst h6v h9v h11v
  obtain ⟨hs1, hd1, q1, q2, q4, q5, q6, q7, q8, q9, q10, q11⟩ := hF
  obtain ⟨u, hu⟩ := frame_uo t' hs1
  simp only at hd1 q1 q2 q4 q5 q6 q7 q8 q9 q10 q11
  subst hu hd1
  have e1 : u 1 = v1 := q1
  have e2 : u 2 = v2 := q2
  have e4 : u 4 = v4 := q4
  have e5 : u 5 = v5 := q5
  have e6 : u 6 = .pointer (some ad) := q6
  have e7 : u 7 = v7 := q7
  have e8 : u 8 = v8 := q8
  have e9 : u 9 = .slice (some ⟨b, off, none⟩) n cp := q9
  have e10 : u 10 = v10 := q10
  have e11 : u 11 = .int .i64 (q : Int) := q11
  rw [e1, e2, e4, e5, e6, e7, e8, e9, e10, e11]
  clear q1 e1 q2 e2 q4 e4 q5 e5 q6 e6 q7 e7 q8 e8 q9 e9 q10 e10 q11 e11 hs1
  simp only [Try.f5, Option.getD_some, regOf] at hc
  injection hc with hc
  subst hc
  generalize u 0 = u0
  generalize u 3 = u3
  generalize u 12 = u12
  generalize u 13 = u13
  generalize u 14 = u14
  generalize u 15 = u15
  generalize u 16 = u16
  generalize u 17 = u17
  generalize u 18 = u18
  generalize u 19 = u19
  generalize u 20 = u20
  generalize u 21 = u21
  generalize u 22 = u22
  generalize u 23 = u23
  generalize u 24 = u24
  generalize u 25 = u25
  generalize u 26 = u26
  generalize u 27 = u27
  generalize u 28 = u28
  generalize u 29 = u29
  generalize u 30 = u30
  generalize u 31 = u31
  generalize u 32 = u32
  generalize u 33 = u33
  generalize u 34 = u34
  generalize u 35 = u35
  generalize u 36 = u36
  generalize u 37 = u37
  generalize u 38 = u38
  generalize u 39 = u39
  generalize u 40 = u40
  generalize u 41 = u41
  generalize u 42 = u42
  generalize u 43 = u43
  generalize u 44 = u44
  generalize u 45 = u45
  generalize u 46 = u46
  generalize u 47 = u47
  generalize u 48 = u48
  generalize u 49 = u49
  generalize u 50 = u50
  generalize u 51 = u51
  generalize u 52 = u52
  generalize u 53 = u53
  generalize u 54 = u54
  generalize u 55 = u55
  generalize u 56 = u56
  generalize u 57 = u57
  generalize u 58 = u58
  generalize u 59 = u59
  generalize u 60 = u60
  generalize u 61 = u61
  generalize u 62 = u62
  generalize u 63 = u63
  generalize u 64 = u64
  generalize u 65 = u65
  generalize u 66 = u66
  generalize u 67 = u67
  generalize u 68 = u68
  generalize u 69 = u69
  generalize u 70 = u70
  generalize u 71 = u71
  generalize u 72 = u72
  generalize u 73 = u73
  generalize u 74 = u74
  generalize u 75 = u75
  generalize u 76 = u76
  generalize u 77 = u77
  generalize u 78 = u78
  generalize u 79 = u79
  generalize u 80 = u80
  generalize u 81 = u81
  generalize u 82 = u82
  generalize u 83 = u83
  generalize u 84 = u84
  generalize u 85 = u85
  generalize u 86 = u86
  generalize u 87 = u87
  generalize u 88 = u88
  generalize u 89 = u89
  generalize u 90 = u90
  generalize u 91 = u91
  generalize u 92 = u92
  generalize u 93 = u93
  generalize u 94 = u94
  generalize u 95 = u95
  generalize u 96 = u96
  generalize u 97 = u97
  clear u
  have HE := hide hE
  clear hE
  have hi0 : (0 : Int) ≤ (q : Int) := by omega
  have hi1 : (q : Int) < (n : Int) := by omega
  have gi : ¬ (q : Int) > 0 := by omega
  have gn : ¬ 0 < q := by omega
  clear h0
  refine wp_region_phi (by kernel_rfl) (ns := 98) (uses := (fun i => match i with | 0 => [70] | 1 => [71] | 2 => [72] | 3 => [73] | 4 => [74] | 5 => [75] | 6 => [76] | 7 => [77] | 8 => [78] | 9 => [79] | 10 => [80] | 11 => [81] | 12 => [82] | 13 => [83] | 14 => [84] | 15 => [85] | 16 => [86] | 17 => [87] | 18 => [88] | 19 => [89] | 20 => [90] | 21 => [91] | 22 => [92] | 23 => [93] | 24 => [94] | _ => [])) (by kernel_rfl) (by kernel_rfl) (fun _ w w' => Below w.heap.size w w') (fun w => Below wq.heap.size wq w) (fun _ _ _ h r => h.trans (r.mono h.size)) ((Below.refl _ _).drew) (fun i => match i with | 0 => fun s w => s 70 = .int .i64 (q : Int) | 1 => fun s w => s 71 = .bool false | 2 => fun s w => s 72 = .bool false | 3 => fun s w => s 73 = undef | 4 => fun s w => s 74 = undef | 5 => fun s w => s 75 = undef | 6 => fun s w => s 76 = undef | 7 => fun s w => s 77 = undef | 8 => fun s w => s 78 = undef | 9 => fun s w => s 79 = undef | 10 => fun s w => s 80 = undef | 11 => fun s w => s 81 = undef | 12 => fun s w => s 82 = undef | 13 => fun s w => s 83 = undef | 14 => fun s w => s 84 = undef | 15 => fun s w => s 85 = .bool false | 16 => fun s w => s 86 = .bool false | 17 => fun s w => s 87 = .pointer (some ad) | 18 => fun s w => s 88 = .slice (some ⟨b, off, none⟩) n cp | 19 => fun s w => s 89 = .int .i64 (q : Int) | 20 => fun s w => s 90 = .pointer (some ⟨b, off + q * 2, none⟩) | 21 => fun s w => s 91 = .agg #[.int .i64 m.node, .int .i64 m.life] | 22 => fun s w => s 92 = .bool true | 23 => fun s w => s 93 = .bool false | 24 => fun s w => s 94 = .bool false | _ => fun _ _ => True) ?phc ?phh ?pstep ?pdone
  case phc =>
    intro i s s' w hx h
    match i, hx, h with
    | 0, hx, h =>
      have e70 := hx 70 (by simp)
      first | exact (show _ from by simp only [← e70] at *; exact h) | (simp only [e70] at h; exact h)
    | 1, hx, h =>
      have e71 := hx 71 (by simp)
      first | exact (show _ from by simp only [← e71] at *; exact h) | (simp only [e71] at h; exact h)
    | 2, hx, h =>
      have e72 := hx 72 (by simp)
      first | exact (show _ from by simp only [← e72] at *; exact h) | (simp only [e72] at h; exact h)
    | 3, hx, h =>
      have e73 := hx 73 (by simp)
      first | exact (show _ from by simp only [← e73] at *; exact h) | (simp only [e73] at h; exact h)
    | 4, hx, h =>
      have e74 := hx 74 (by simp)
      first | exact (show _ from by simp only [← e74] at *; exact h) | (simp only [e74] at h; exact h)
    | 5, hx, h =>
      have e75 := hx 75 (by simp)
      first | exact (show _ from by simp only [← e75] at *; exact h) | (simp only [e75] at h; exact h)
    | 6, hx, h =>
      have e76 := hx 76 (by simp)
      first | exact (show _ from by simp only [← e76] at *; exact h) | (simp only [e76] at h; exact h)
    | 7, hx, h =>
      have e77 := hx 77 (by simp)
      first | exact (show _ from by simp only [← e77] at *; exact h) | (simp only [e77] at h; exact h)
    | 8, hx, h =>
      have e78 := hx 78 (by simp)
      first | exact (show _ from by simp only [← e78] at *; exact h) | (simp only [e78] at h; exact h)
    | 9, hx, h =>
      have e79 := hx 79 (by simp)
      first | exact (show _ from by simp only [← e79] at *; exact h) | (simp only [e79] at h; exact h)
    | 10, hx, h =>
      have e80 := hx 80 (by simp)
      first | exact (show _ from by simp only [← e80] at *; exact h) | (simp only [e80] at h; exact h)
    | 11, hx, h =>
      have e81 := hx 81 (by simp)
      first | exact (show _ from by simp only [← e81] at *; exact h) | (simp only [e81] at h; exact h)
    | 12, hx, h =>
      have e82 := hx 82 (by simp)
      first | exact (show _ from by simp only [← e82] at *; exact h) | (simp only [e82] at h; exact h)
    | 13, hx, h =>
      have e83 := hx 83 (by simp)
      first | exact (show _ from by simp only [← e83] at *; exact h) | (simp only [e83] at h; exact h)
    | 14, hx, h =>
      have e84 := hx 84 (by simp)
      first | exact (show _ from by simp only [← e84] at *; exact h) | (simp only [e84] at h; exact h)
    | 15, hx, h =>
      have e85 := hx 85 (by simp)
      first | exact (show _ from by simp only [← e85] at *; exact h) | (simp only [e85] at h; exact h)
    | 16, hx, h =>
      have e86 := hx 86 (by simp)
      first | exact (show _ from by simp only [← e86] at *; exact h) | (simp only [e86] at h; exact h)
    | 17, hx, h =>
      have e87 := hx 87 (by simp)
      first | exact (show _ from by simp only [← e87] at *; exact h) | (simp only [e87] at h; exact h)
    | 18, hx, h =>
      have e88 := hx 88 (by simp)
      first | exact (show _ from by simp only [← e88] at *; exact h) | (simp only [e88] at h; exact h)
    | 19, hx, h =>
      have e89 := hx 89 (by simp)
      first | exact (show _ from by simp only [← e89] at *; exact h) | (simp only [e89] at h; exact h)
    | 20, hx, h =>
      have e90 := hx 90 (by simp)
      first | exact (show _ from by simp only [← e90] at *; exact h) | (simp only [e90] at h; exact h)
    | 21, hx, h =>
      have e91 := hx 91 (by simp)
      first | exact (show _ from by simp only [← e91] at *; exact h) | (simp only [e91] at h; exact h)
    | 22, hx, h =>
      have e92 := hx 92 (by simp)
      first | exact (show _ from by simp only [← e92] at *; exact h) | (simp only [e92] at h; exact h)
    | 23, hx, h =>
      have e93 := hx 93 (by simp)
      first | exact (show _ from by simp only [← e93] at *; exact h) | (simp only [e93] at h; exact h)
    | 24, hx, h =>
      have e94 := hx 94 (by simp)
      first | exact (show _ from by simp only [← e94] at *; exact h) | (simp only [e94] at h; exact h)
    | (n + 25), _, h => exact h
  case phh =>
    intro i j s w w' hij h hb r
    match i, hij, h with
    | 0, hij, h =>
      exact h
    | 1, hij, h =>
      exact h
    | 2, hij, h =>
      exact h
    | 3, hij, h =>
      exact h
    | 4, hij, h =>
      exact h
    | 5, hij, h =>
      exact h
    | 6, hij, h =>
      exact h
    | 7, hij, h =>
      exact h
    | 8, hij, h =>
      exact h
    | 9, hij, h =>
      exact h
    | 10, hij, h =>
      exact h
    | 11, hij, h =>
      exact h
    | 12, hij, h =>
      exact h
    | 13, hij, h =>
      exact h
    | 14, hij, h =>
      exact h
    | 15, hij, h =>
      exact h
    | 16, hij, h =>
      exact h
    | 17, hij, h =>
      exact h
    | 18, hij, h =>
      exact h
    | 19, hij, h =>
      exact h
    | 20, hij, h =>
      exact h
    | 21, hij, h =>
      exact h
    | 22, hij, h =>
      exact h
    | 23, hij, h =>
      exact h
    | 24, hij, h =>
      exact h
    | (n + 25), _, h => exact h
  case pstep =>
    intro i o ho a' w' hsa hb hd
    match i, ho with
    | 0, ho =>
      obtain rfl := Option.some.inj ho
      try dsimp only at hd
      have g11 : a'.tmps.getD 11 undef = .int .i64 (q : Int) := hsa.rest 11 (by rfl)
      refine wpOp_of rfl rfl ?_
      refine op_run (v := .int .i64 (q : Int)) (w' := w') ?_ ⟨_, rfl, ?_, ?_⟩
      · simp only [execOp, Act.eval, List.map_toArray, List.map_cons, List.map_nil, g11]; first | (go_simp; done) | rfl
      · try dsimp only
        exact (slots_put (ns := 98) (hsa.size.trans rfl) (by decide))
      · exact Below.refl _ _
    | 1, ho =>
      obtain rfl := Option.some.inj ho
      try dsimp only at hd
      have d0 : a'.tmps.getD 70 undef = .int .i64 (q : Int) := hd 0 (by rfl)
      refine wpOp_of rfl rfl ?_
      refine op_run (v := .bool false) (w' := w') ?_ ⟨_, rfl, ?_, ?_⟩
      · simp only [execOp, Act.eval, List.map_toArray, List.map_cons, List.map_nil, d0, gi]; first | (go_simp; done) | rfl
      · try dsimp only
        exact (slots_put (ns := 98) (hsa.size.trans rfl) (by decide))
      · exact Below.refl _ _
    | 2, ho =>
      obtain rfl := Option.some.inj ho
      try dsimp only at hd
      have d1 : a'.tmps.getD 71 undef = .bool false := hd 1 (by rfl)
      refine wpOp_of rfl rfl ?_
      refine op_run (v := .bool false) (w' := w') ?_ ⟨_, rfl, ?_, ?_⟩
      · simp only [execOp, Act.eval, List.map_toArray, List.map_cons, List.map_nil, d1]; first | (go_simp; done) | rfl
      · try dsimp only
        exact (slots_put (ns := 98) (hsa.size.trans rfl) (by decide))
      · exact Below.refl _ _
    | 3, ho =>
      obtain rfl := Option.some.inj ho
      try dsimp only at hd
      have d2 : a'.tmps.getD 72 undef = .bool false := hd 2 (by rfl)
      refine wpOp_off (j := 2) (dj := 72) rfl rfl rfl d2 (by simp [undef]) ⟨undef, rfl, ?_, ?_⟩
      · exact (slots_put (ns := 98) (hsa.size.trans rfl) (by decide))
      · exact Below.refl _ _
    | 4, ho =>
      obtain rfl := Option.some.inj ho
      try dsimp only at hd
      have d2 : a'.tmps.getD 72 undef = .bool false := hd 2 (by rfl)
      refine wpOp_off (j := 2) (dj := 72) rfl rfl rfl d2 (by simp [undef]) ⟨undef, rfl, ?_, ?_⟩
      · exact (slots_put (ns := 98) (hsa.size.trans rfl) (by decide))
      · exact Below.refl _ _
    | 5, ho =>
      obtain rfl := Option.some.inj ho
      try dsimp only at hd
      have d2 : a'.tmps.getD 72 undef = .bool false := hd 2 (by rfl)
      refine wpOp_off (j := 2) (dj := 72) rfl rfl rfl d2 (by simp [undef]) ⟨undef, rfl, ?_, ?_⟩
      · exact (slots_put (ns := 98) (hsa.size.trans rfl) (by decide))
      · exact Below.refl _ _
    | 6, ho =>
      obtain rfl := Option.some.inj ho
      try dsimp only at hd
      have d2 : a'.tmps.getD 72 undef = .bool false := hd 2 (by rfl)
      refine wpOp_off (j := 2) (dj := 72) rfl rfl rfl d2 (by simp [undef]) ⟨undef, rfl, ?_, ?_⟩
      · exact (slots_put (ns := 98) (hsa.size.trans rfl) (by decide))
      · exact Below.refl _ _
    | 7, ho =>
      obtain rfl := Option.some.inj ho
      try dsimp only at hd
      have d2 : a'.tmps.getD 72 undef = .bool false := hd 2 (by rfl)
      refine wpOp_off (j := 2) (dj := 72) rfl rfl rfl d2 (by simp [undef]) ⟨undef, rfl, ?_, ?_⟩
      · exact (slots_put (ns := 98) (hsa.size.trans rfl) (by decide))
      · exact Below.refl _ _
    | 8, ho =>
      obtain rfl := Option.some.inj ho
      try dsimp only at hd
      have d2 : a'.tmps.getD 72 undef = .bool false := hd 2 (by rfl)
      refine wpOp_off (j := 2) (dj := 72) rfl rfl rfl d2 (by simp [undef]) ⟨undef, rfl, ?_, ?_⟩
      · exact (slots_put (ns := 98) (hsa.size.trans rfl) (by decide))
      · exact Below.refl _ _
    | 9, ho =>
      obtain rfl := Option.some.inj ho
      try dsimp only at hd
      have d2 : a'.tmps.getD 72 undef = .bool false := hd 2 (by rfl)
      refine wpOp_off (j := 2) (dj := 72) rfl rfl rfl d2 (by simp [undef]) ⟨undef, rfl, ?_, ?_⟩
      · exact (slots_put (ns := 98) (hsa.size.trans rfl) (by decide))
      · exact Below.refl _ _
    | 10, ho =>
      obtain rfl := Option.some.inj ho
      try dsimp only at hd
      have d2 : a'.tmps.getD 72 undef = .bool false := hd 2 (by rfl)
      refine wpOp_off (j := 2) (dj := 72) rfl rfl rfl d2 (by simp [undef]) ⟨undef, rfl, ?_, ?_⟩
      · exact (slots_put (ns := 98) (hsa.size.trans rfl) (by decide))
      · exact Below.refl _ _
    | 11, ho =>
      obtain rfl := Option.some.inj ho
      try dsimp only at hd
      have d2 : a'.tmps.getD 72 undef = .bool false := hd 2 (by rfl)
      refine wpOp_off (j := 2) (dj := 72) rfl rfl rfl d2 (by simp [undef]) ⟨undef, rfl, ?_, ?_⟩
      · exact (slots_put (ns := 98) (hsa.size.trans rfl) (by decide))
      · exact Below.refl _ _
    | 12, ho =>
      obtain rfl := Option.some.inj ho
      try dsimp only at hd
      have d2 : a'.tmps.getD 72 undef = .bool false := hd 2 (by rfl)
      refine wpOp_off (j := 2) (dj := 72) rfl rfl rfl d2 (by simp [undef]) ⟨undef, rfl, ?_, ?_⟩
      · exact (slots_put (ns := 98) (hsa.size.trans rfl) (by decide))
      · exact Below.refl _ _
    | 13, ho =>
      obtain rfl := Option.some.inj ho
      try dsimp only at hd
      have d2 : a'.tmps.getD 72 undef = .bool false := hd 2 (by rfl)
      refine wpOp_off (j := 2) (dj := 72) rfl rfl rfl d2 (by simp [undef]) ⟨undef, rfl, ?_, ?_⟩
      · exact (slots_put (ns := 98) (hsa.size.trans rfl) (by decide))
      · exact Below.refl _ _
    | 14, ho =>
      obtain rfl := Option.some.inj ho
      try dsimp only at hd
      have d2 : a'.tmps.getD 72 undef = .bool false := hd 2 (by rfl)
      refine wpOp_off (j := 2) (dj := 72) rfl rfl rfl d2 (by simp [undef]) ⟨undef, rfl, ?_, ?_⟩
      · exact (slots_put (ns := 98) (hsa.size.trans rfl) (by decide))
      · exact Below.refl _ _
    | 15, ho =>
      obtain rfl := Option.some.inj ho
      try dsimp only at hd
      have d2 : a'.tmps.getD 72 undef = .bool false := hd 2 (by rfl)
      have d14 : a'.tmps.getD 84 undef = undef := hd 14 (by rfl)
      refine wpOp_of rfl rfl ?_
      refine op_run (v := .bool false) (w' := w') ?_ ⟨_, rfl, ?_, ?_⟩
      · simp only [execOp, Act.eval, List.map_toArray, List.map_cons, List.map_nil, d2, d14]; first | (go_simp; done) | rfl
      · try dsimp only
        exact (slots_put (ns := 98) (hsa.size.trans rfl) (by decide))
      · exact Below.refl _ _
    | 16, ho =>
      obtain rfl := Option.some.inj ho
      try dsimp only at hd
      have d15 : a'.tmps.getD 85 undef = .bool false := hd 15 (by rfl)
      refine wpOp_of rfl rfl ?_
      refine op_run (v := .bool false) (w' := w') ?_ ⟨_, rfl, ?_, ?_⟩
      · simp only [execOp, Act.eval, List.map_toArray, List.map_cons, List.map_nil, d15]; first | (go_simp; done) | rfl
      · try dsimp only
        exact (slots_put (ns := 98) (hsa.size.trans rfl) (by decide))
      · exact Below.refl _ _
    | 17, ho =>
      obtain rfl := Option.some.inj ho
      try dsimp only at hd
      have d16 : a'.tmps.getD 86 undef = .bool false := hd 16 (by rfl)
      have g6 : a'.tmps.getD 6 undef = .pointer (some ad) := hsa.rest 6 (by rfl)
      refine wpOp_on (j := 16) (dj := 86) rfl rfl rfl d16 ?_
      refine op_run (v := .pointer (some ad)) (w' := w') ?_ ⟨_, rfl, ?_, ?_⟩
      · simp only [execOp, Act.eval, List.map_toArray, List.map_cons, List.map_nil, d16, g6]; first | (go_simp; done) | rfl
      · try dsimp only
        exact (slots_put (ns := 98) (hsa.size.trans rfl) (by decide))
      · exact Below.refl _ _
    | 18, ho =>
      obtain rfl := Option.some.inj ho
      try dsimp only at hd
      have d16 : a'.tmps.getD 86 undef = .bool false := hd 16 (by rfl)
      have g9 : a'.tmps.getD 9 undef = .slice (some ⟨b, off, none⟩) n cp := hsa.rest 9 (by rfl)
      refine wpOp_on (j := 16) (dj := 86) rfl rfl rfl d16 ?_
      refine op_run (v := .slice (some ⟨b, off, none⟩) n cp) (w' := w') ?_ ⟨_, rfl, ?_, ?_⟩
      · simp only [execOp, Act.eval, List.map_toArray, List.map_cons, List.map_nil, d16, g9]; first | (go_simp; done) | rfl
      · try dsimp only
        exact (slots_put (ns := 98) (hsa.size.trans rfl) (by decide))
      · exact Below.refl _ _
    | 19, ho =>
      obtain rfl := Option.some.inj ho
      try dsimp only at hd
      have d16 : a'.tmps.getD 86 undef = .bool false := hd 16 (by rfl)
      have g11 : a'.tmps.getD 11 undef = .int .i64 (q : Int) := hsa.rest 11 (by rfl)
      refine wpOp_on (j := 16) (dj := 86) rfl rfl rfl d16 ?_
      refine op_run (v := .int .i64 (q : Int)) (w' := w') ?_ ⟨_, rfl, ?_, ?_⟩
      · simp only [execOp, Act.eval, List.map_toArray, List.map_cons, List.map_nil, d16, g11]; first | (go_simp; done) | rfl
      · try dsimp only
        exact (slots_put (ns := 98) (hsa.size.trans rfl) (by decide))
      · exact Below.refl _ _
    | 20, ho =>
      obtain rfl := Option.some.inj ho
      try dsimp only at hd
      have d16 : a'.tmps.getD 86 undef = .bool false := hd 16 (by rfl)
      have d18 : a'.tmps.getD 88 undef = .slice (some ⟨b, off, none⟩) n cp := hd 18 (by rfl)
      have d19 : a'.tmps.getD 89 undef = .int .i64 (q : Int) := hd 19 (by rfl)
      refine wpOp_on (j := 16) (dj := 86) rfl rfl rfl d16 ?_
      refine op_run (v := .pointer (some ⟨b, off + q * 2, none⟩)) (w' := w') ?_ ⟨_, rfl, ?_, ?_⟩
      · simp only [execOp, Act.eval, List.map_toArray, List.map_cons, List.map_nil, d16, d18, d19, hi0, hi1]; first | (go_simp; done) | rfl
      · try dsimp only
        exact (slots_put (ns := 98) (hsa.size.trans rfl) (by decide))
      · exact Below.refl _ _
    | 21, ho =>
      obtain rfl := Option.some.inj ho
      try dsimp only at hd
      have d16 : a'.tmps.getD 86 undef = .bool false := hd 16 (by rfl)
      have d20 : a'.tmps.getD 90 undef = .pointer (some ⟨b, off + q * 2, none⟩) := hd 20 (by rfl)
      have y0x := (hb.cell (p := ⟨b, _, none⟩) hbl).trans y0
      have y1x := (hb.cell (p := ⟨b, _, none⟩) hbl).trans y1
      refine wpOp_on (j := 16) (dj := 86) rfl rfl rfl d16 ?_
      refine op_run (v := .agg #[.int .i64 m.node, .int .i64 m.life]) (w' := w') ?_ ⟨_, rfl, ?_, ?_⟩
      · simp only [execOp, Act.eval, List.map_toArray, List.map_cons, List.map_nil, d16, d20, y0x, y1x]; first | (go_simp; done) | rfl
      · try dsimp only
        exact (slots_put (ns := 98) (hsa.size.trans rfl) (by decide))
      · exact Below.refl _ _
    | 22, ho =>
      obtain rfl := Option.some.inj ho
      try dsimp only at hd
      have d16 : a'.tmps.getD 86 undef = .bool false := hd 16 (by rfl)
      have d17 : a'.tmps.getD 87 undef = .pointer (some ad) := hd 17 (by rfl)
      have d21 : a'.tmps.getD 91 undef = .agg #[.int .i64 m.node, .int .i64 m.life] := hd 21 (by rfl)
      refine wpOp_on (j := 16) (dj := 86) rfl rfl rfl d16 ?_
      refine op_call 15 _ _ rfl (enters_of Try.func15 (by kernel_rfl) rfl) [.pointer (some ad), .agg #[.int .i64 m.node, .int .i64 m.life]] (by simp only [List.map, Act.eval, d16, d17, d21]) (HE.out w' hb) ?_
      rintro e w'' ⟨rfl, b2⟩
      refine ⟨_, rfl, _, rfl, ?_, ?_⟩
      · try dsimp only
        exact (slots_put (ns := 98) (hsa.size.trans rfl) (by decide))
      · exact b2
    | 23, ho =>
      obtain rfl := Option.some.inj ho
      try dsimp only at hd
      have d16 : a'.tmps.getD 86 undef = .bool false := hd 16 (by rfl)
      have d22 : a'.tmps.getD 92 undef = .bool true := hd 22 (by rfl)
      refine wpOp_on (j := 16) (dj := 86) rfl rfl rfl d16 ?_
      refine op_run (v := .bool false) (w' := w') ?_ ⟨_, rfl, ?_, ?_⟩
      · simp only [execOp, Act.eval, List.map_toArray, List.map_cons, List.map_nil, d16, d22]; first | (go_simp; done) | rfl
      · try dsimp only
        exact (slots_put (ns := 98) (hsa.size.trans rfl) (by decide))
      · exact Below.refl _ _
    | 24, ho =>
      obtain rfl := Option.some.inj ho
      try dsimp only at hd
      have d16 : a'.tmps.getD 86 undef = .bool false := hd 16 (by rfl)
      have d23 : a'.tmps.getD 93 undef = .bool false := hd 23 (by rfl)
      refine wpOp_of rfl rfl ?_
      refine op_run (v := .bool false) (w' := w') ?_ ⟨_, rfl, ?_, ?_⟩
      · simp only [execOp, Act.eval, List.map_toArray, List.map_cons, List.map_nil, d16, d23]; first | (go_simp; done) | rfl
      · try dsimp only
        exact (slots_put (ns := 98) (hsa.size.trans rfl) (by decide))
      · exact Below.refl _ _
    | (n + 25), ho => exact absurd ho (by simp)
  case pdone =>
    intro a' w' hsa hb hd
    have d0 : a'.tmps.getD 70 undef = .int .i64 (q : Int) := hd 0 (by decide)
    have d1 : a'.tmps.getD 71 undef = .bool false := hd 1 (by decide)
    have d2 : a'.tmps.getD 72 undef = .bool false := hd 2 (by decide)
    have d3 : a'.tmps.getD 73 undef = undef := hd 3 (by decide)
    have d4 : a'.tmps.getD 74 undef = undef := hd 4 (by decide)
    have d5 : a'.tmps.getD 75 undef = undef := hd 5 (by decide)
    have d6 : a'.tmps.getD 76 undef = undef := hd 6 (by decide)
    have d7 : a'.tmps.getD 77 undef = undef := hd 7 (by decide)
    have d8 : a'.tmps.getD 78 undef = undef := hd 8 (by decide)
    have d9 : a'.tmps.getD 79 undef = undef := hd 9 (by decide)
    have d10 : a'.tmps.getD 80 undef = undef := hd 10 (by decide)
    have d11 : a'.tmps.getD 81 undef = undef := hd 11 (by decide)
    have d12 : a'.tmps.getD 82 undef = undef := hd 12 (by decide)
    have d13 : a'.tmps.getD 83 undef = undef := hd 13 (by decide)
    have d14 : a'.tmps.getD 84 undef = undef := hd 14 (by decide)
    have d15 : a'.tmps.getD 85 undef = .bool false := hd 15 (by decide)
    have d16 : a'.tmps.getD 86 undef = .bool false := hd 16 (by decide)
    have d17 : a'.tmps.getD 87 undef = .pointer (some ad) := hd 17 (by decide)
    have d18 : a'.tmps.getD 88 undef = .slice (some ⟨b, off, none⟩) n cp := hd 18 (by decide)
    have d19 : a'.tmps.getD 89 undef = .int .i64 (q : Int) := hd 19 (by decide)
    have d20 : a'.tmps.getD 90 undef = .pointer (some ⟨b, off + q * 2, none⟩) := hd 20 (by decide)
    have d21 : a'.tmps.getD 91 undef = .agg #[.int .i64 m.node, .int .i64 m.life] := hd 21 (by decide)
    have d22 : a'.tmps.getD 92 undef = .bool true := hd 22 (by decide)
    have d23 : a'.tmps.getD 93 undef = .bool false := hd 23 (by decide)
    have d24 : a'.tmps.getD 94 undef = .bool false := hd 24 (by decide)
    exact HQ.out _ _ ⟨hsa.size.trans rfl, hsa.defers, (hsa.rest 1 (by rfl)).trans rfl, (hsa.rest 2 (by rfl)).trans rfl, (hsa.rest 4 (by rfl)).trans rfl, (hsa.rest 5 (by rfl)).trans rfl, (hsa.rest 6 (by rfl)).trans rfl, (hsa.rest 7 (by rfl)).trans rfl, (hsa.rest 8 (by rfl)).trans rfl, (hsa.rest 9 (by rfl)).trans rfl, (hsa.rest 10 (by rfl)).trans rfl, (hsa.rest 11 (by rfl)).trans rfl⟩ (by first | exact d24 | (rw [d24])) hb
set_option maxHeartbeats 8000000 in
set_option maxRecDepth 100000 in
theorem uo_r17 {K : Act → World → Prop} {c : Code} (hc : regOf (Try.f5.body.getD .skip) 17 = some c) (a : Act) {v : Vuo} {wq : World} {n cp b off q q1 : Nat} {x : Int} {ad : Addr} {m : MB} (hF : Fuo a v) (h6v : v.v6 = .pointer (some ad)) (h9v : v.v9 = .slice (some ⟨b, off, none⟩) n cp) (h11v : v.v11 = .int .i64 (q : Int)) (hi : q < n) (hbl : b < wq.heap.size) (y0 : wq.cell? ⟨b, off + q * 2, none⟩ = some (.int .i64 m.node)) (y1 : wq.cell? ⟨b, off + q * 2 + 1, none⟩ = some (.int .i64 m.life)) (h0 : q = q1 + 1) (z0 : wq.cell? ⟨b, off + q1 * 2, none⟩ = some (.int .i64 x)) (hlt : x < m.node) (hbig : q ≤ 4611686018427387904) (hE : ∀ W, Below wq.heap.size wq W → Calls Try.prog 15 #[.pointer (some ad), m.v] W fun e w' => e = .returned (.bool true) ∧ Below W.heap.size W w')
    (hQ : ∀ a' w', Fuo a' v → a'.tmps.getD 94 undef = .bool false → Below wq.heap.size wq w' → K a' w') :
    Code.wp Try.prog c (Exit.then K fun _ _ _ => False) a wq := by
  have HQ := hide hQ
  clear hQ
  obtain ⟨t', d'⟩ := a
  obtain ⟨v1, v2, v4, v5, v6, v7, v8, v9, v10, v11⟩ := v
  simp only at h6v h9v h11v HQ
  subst h6v h9v h11v
  obtain ⟨hs1, hd1, q1, q2, q4, q5, q6, q7, q8, q9, q10, q11⟩ := hF
  obtain ⟨u, hu⟩ := frame_uo t' hs1
  simp only at hd1 q1 q2 q4 q5 q6 q7 q8 q9 q10 q11
  subst hu hd1
  have e1 : u 1 = v1 := q1
  have e2 : u 2 = v2 := q2
  have e4 : u 4 = v4 := q4
  have e5 : u 5 = v5 := q5
  have e6 : u 6 = .pointer (some ad) := q6
  have e7 : u 7 = v7 := q7
  have e8 : u 8 = v8 := q8
  have e9 : u 9 = .slice (some ⟨b, off, none⟩) n cp := q9
  have e10 : u 10 = v10 := q10
  have e11 : u 11 = .int .i64 (q : Int) := q11
  rw [e1, e2, e4, e5, e6, e7, e8, e9, e10, e11]
  clear q1 e1 q2 e2 q4 e4 q5 e5 q6 e6 q7 e7 q8 e8 q9 e9 q10 e10 q11 e11 hs1
  simp only [Try.f5, Option.getD_some, regOf] at hc
  injection hc with hc
  subst hc
  generalize u 0 = u0
  generalize u 3 = u3
  generalize u 12 = u12
  generalize u 13 = u13
  generalize u 14 = u14
  generalize u 15 = u15
  generalize u 16 = u16
  generalize u 17 = u17
  generalize u 18 = u18
  generalize u 19 = u19
  generalize u 20 = u20
  generalize u 21 = u21
  generalize u 22 = u22
  generalize u 23 = u23
  generalize u 24 = u24
  generalize u 25 = u25
  generalize u 26 = u26
  generalize u 27 = u27
  generalize u 28 = u28
  generalize u 29 = u29
  generalize u 30 = u30
  generalize u 31 = u31
  generalize u 32 = u32
  generalize u 33 = u33
  generalize u 34 = u34
  generalize u 35 = u35
  generalize u 36 = u36
  generalize u 37 = u37
  generalize u 38 = u38
  generalize u 39 = u39
  generalize u 40 = u40
  generalize u 41 = u41
  generalize u 42 = u42
  generalize u 43 = u43
  generalize u 44 = u44
  generalize u 45 = u45
  generalize u 46 = u46
  generalize u 47 = u47
  generalize u 48 = u48
  generalize u 49 = u49
  generalize u 50 = u50
  generalize u 51 = u51
  generalize u 52 = u52
  generalize u 53 = u53
  generalize u 54 = u54
  generalize u 55 = u55
  generalize u 56 = u56
  generalize u 57 = u57
  generalize u 58 = u58
  generalize u 59 = u59
  generalize u 60 = u60
  generalize u 61 = u61
  generalize u 62 = u62
  generalize u 63 = u63
  generalize u 64 = u64
  generalize u 65 = u65
  generalize u 66 = u66
  generalize u 67 = u67
  generalize u 68 = u68
  generalize u 69 = u69
  generalize u 70 = u70
  generalize u 71 = u71
  generalize u 72 = u72
  generalize u 73 = u73
  generalize u 74 = u74
  generalize u 75 = u75
  generalize u 76 = u76
  generalize u 77 = u77
  generalize u 78 = u78
  generalize u 79 = u79
  generalize u 80 = u80
  generalize u 81 = u81
  generalize u 82 = u82
  generalize u 83 = u83
  generalize u 84 = u84
  generalize u 85 = u85
  generalize u 86 = u86
  generalize u 87 = u87
  generalize u 88 = u88
  generalize u 89 = u89
  generalize u 90 = u90
  generalize u 91 = u91
  generalize u 92 = u92
  generalize u 93 = u93
  generalize u 94 = u94
  generalize u 95 = u95
  generalize u 96 = u96
  generalize u 97 = u97
  clear u
  have HE := hide hE
  clear hE
  have hi0 : (0 : Int) ≤ (q : Int) := by omega
  have hi1 : (q : Int) < (n : Int) := by omega
  have gi : (q : Int) > 0 := by omega
  have gn : 0 < q := by omega
  have gl : ¬ m.node ≤ x := by omega
  obtain ⟨z, hz⟩ : ∃ z : Int, z = (q : Int) - 1 := ⟨_, rfl⟩
  have hj0 : (0 : Int) ≤ z := by omega
  have hj1 : z < (n : Int) := by omega
  have hji : z.toNat = q1 := by omega
  have hw : IntKind.i64.wrap ((q : Int) - 1) = z := by rw [IntKind.wrap_i64]; omega
  clear h0 hbig hlt hz
  refine wp_region_phi (by kernel_rfl) (ns := 98) (uses := (fun i => match i with | 0 => [70] | 1 => [71] | 2 => [72] | 3 => [73] | 4 => [74] | 5 => [75] | 6 => [76] | 7 => [77] | 8 => [78] | 9 => [79] | 10 => [80] | 11 => [81] | 12 => [82] | 13 => [83] | 14 => [84] | 15 => [85] | 16 => [86] | 17 => [87] | 18 => [88] | 19 => [89] | 20 => [90] | 21 => [91] | 22 => [92] | 23 => [93] | 24 => [94] | _ => [])) (by kernel_rfl) (by kernel_rfl) (fun _ w w' => Below w.heap.size w w') (fun w => Below wq.heap.size wq w) (fun _ _ _ h r => h.trans (r.mono h.size)) ((Below.refl _ _).drew) (fun i => match i with | 0 => fun s w => s 70 = .int .i64 (q : Int) | 1 => fun s w => s 71 = .bool true | 2 => fun s w => s 72 = .bool true | 3 => fun s w => s 73 = .slice (some ⟨b, off, none⟩) n cp | 4 => fun s w => s 74 = .int .i64 (q : Int) | 5 => fun s w => s 75 = .pointer (some ⟨b, off + q * 2, none⟩) | 6 => fun s w => s 76 = .pointer (some ⟨b, off + q * 2, none⟩) | 7 => fun s w => s 77 = .int .i64 m.node | 8 => fun s w => s 78 = .slice (some ⟨b, off, none⟩) n cp | 9 => fun s w => s 79 = .int .i64 (q : Int) | 10 => fun s w => s 80 = .int .i64 z | 11 => fun s w => s 81 = .pointer (some ⟨b, off + q1 * 2, none⟩) | 12 => fun s w => s 82 = .pointer (some ⟨b, off + q1 * 2, none⟩) | 13 => fun s w => s 83 = .int .i64 x | 14 => fun s w => s 84 = .bool false | 15 => fun s w => s 85 = .bool false | 16 => fun s w => s 86 = .bool false | 17 => fun s w => s 87 = .pointer (some ad) | 18 => fun s w => s 88 = .slice (some ⟨b, off, none⟩) n cp | 19 => fun s w => s 89 = .int .i64 (q : Int) | 20 => fun s w => s 90 = .pointer (some ⟨b, off + q * 2, none⟩) | 21 => fun s w => s 91 = .agg #[.int .i64 m.node, .int .i64 m.life] | 22 => fun s w => s 92 = .bool true | 23 => fun s w => s 93 = .bool false | 24 => fun s w => s 94 = .bool false | _ => fun _ _ => True) ?phc ?phh ?pstep ?pdone
  case phc =>
    intro i s s' w hx h
    match i, hx, h with
    | 0, hx, h =>
      have e70 := hx 70 (by simp)
      first | exact (show _ from by simp only [← e70] at *; exact h) | (simp only [e70] at h; exact h)
    | 1, hx, h =>
      have e71 := hx 71 (by simp)
      first | exact (show _ from by simp only [← e71] at *; exact h) | (simp only [e71] at h; exact h)
    | 2, hx, h =>
      have e72 := hx 72 (by simp)
      first | exact (show _ from by simp only [← e72] at *; exact h) | (simp only [e72] at h; exact h)
    | 3, hx, h =>
      have e73 := hx 73 (by simp)
      first | exact (show _ from by simp only [← e73] at *; exact h) | (simp only [e73] at h; exact h)
    | 4, hx, h =>
      have e74 := hx 74 (by simp)
      first | exact (show _ from by simp only [← e74] at *; exact h) | (simp only [e74] at h; exact h)
    | 5, hx, h =>
      have e75 := hx 75 (by simp)
      first | exact (show _ from by simp only [← e75] at *; exact h) | (simp only [e75] at h; exact h)
    | 6, hx, h =>
      have e76 := hx 76 (by simp)
      first | exact (show _ from by simp only [← e76] at *; exact h) | (simp only [e76] at h; exact h)
    | 7, hx, h =>
      have e77 := hx 77 (by simp)
      first | exact (show _ from by simp only [← e77] at *; exact h) | (simp only [e77] at h; exact h)
    | 8, hx, h =>
      have e78 := hx 78 (by simp)
      first | exact (show _ from by simp only [← e78] at *; exact h) | (simp only [e78] at h; exact h)
    | 9, hx, h =>
      have e79 := hx 79 (by simp)
      first | exact (show _ from by simp only [← e79] at *; exact h) | (simp only [e79] at h; exact h)
    | 10, hx, h =>
      have e80 := hx 80 (by simp)
      first | exact (show _ from by simp only [← e80] at *; exact h) | (simp only [e80] at h; exact h)
    | 11, hx, h =>
      have e81 := hx 81 (by simp)
      first | exact (show _ from by simp only [← e81] at *; exact h) | (simp only [e81] at h; exact h)
    | 12, hx, h =>
      have e82 := hx 82 (by simp)
      first | exact (show _ from by simp only [← e82] at *; exact h) | (simp only [e82] at h; exact h)
    | 13, hx, h =>
      have e83 := hx 83 (by simp)
      first | exact (show _ from by simp only [← e83] at *; exact h) | (simp only [e83] at h; exact h)
    | 14, hx, h =>
      have e84 := hx 84 (by simp)
      first | exact (show _ from by simp only [← e84] at *; exact h) | (simp only [e84] at h; exact h)
    | 15, hx, h =>
      have e85 := hx 85 (by simp)
      first | exact (show _ from by simp only [← e85] at *; exact h) | (simp only [e85] at h; exact h)
    | 16, hx, h =>
      have e86 := hx 86 (by simp)
      first | exact (show _ from by simp only [← e86] at *; exact h) | (simp only [e86] at h; exact h)
    | 17, hx, h =>
      have e87 := hx 87 (by simp)
      first | exact (show _ from by simp only [← e87] at *; exact h) | (simp only [e87] at h; exact h)
    | 18, hx, h =>
      have e88 := hx 88 (by simp)
      first | exact (show _ from by simp only [← e88] at *; exact h) | (simp only [e88] at h; exact h)
    | 19, hx, h =>
      have e89 := hx 89 (by simp)
      first | exact (show _ from by simp only [← e89] at *; exact h) | (simp only [e89] at h; exact h)
    | 20, hx, h =>
      have e90 := hx 90 (by simp)
      first | exact (show _ from by simp only [← e90] at *; exact h) | (simp only [e90] at h; exact h)
    | 21, hx, h =>
      have e91 := hx 91 (by simp)
      first | exact (show _ from by simp only [← e91] at *; exact h) | (simp only [e91] at h; exact h)
    | 22, hx, h =>
      have e92 := hx 92 (by simp)
      first | exact (show _ from by simp only [← e92] at *; exact h) | (simp only [e92] at h; exact h)
    | 23, hx, h =>
      have e93 := hx 93 (by simp)
      first | exact (show _ from by simp only [← e93] at *; exact h) | (simp only [e93] at h; exact h)
    | 24, hx, h =>
      have e94 := hx 94 (by simp)
      first | exact (show _ from by simp only [← e94] at *; exact h) | (simp only [e94] at h; exact h)
    | (n + 25), _, h => exact h
  case phh =>
    intro i j s w w' hij h hb r
    match i, hij, h with
    | 0, hij, h =>
      exact h
    | 1, hij, h =>
      exact h
    | 2, hij, h =>
      exact h
    | 3, hij, h =>
      exact h
    | 4, hij, h =>
      exact h
    | 5, hij, h =>
      exact h
    | 6, hij, h =>
      exact h
    | 7, hij, h =>
      exact h
    | 8, hij, h =>
      exact h
    | 9, hij, h =>
      exact h
    | 10, hij, h =>
      exact h
    | 11, hij, h =>
      exact h
    | 12, hij, h =>
      exact h
    | 13, hij, h =>
      exact h
    | 14, hij, h =>
      exact h
    | 15, hij, h =>
      exact h
    | 16, hij, h =>
      exact h
    | 17, hij, h =>
      exact h
    | 18, hij, h =>
      exact h
    | 19, hij, h =>
      exact h
    | 20, hij, h =>
      exact h
    | 21, hij, h =>
      exact h
    | 22, hij, h =>
      exact h
    | 23, hij, h =>
      exact h
    | 24, hij, h =>
      exact h
    | (n + 25), _, h => exact h
  case pstep =>
    intro i o ho a' w' hsa hb hd
    match i, ho with
    | 0, ho =>
      obtain rfl := Option.some.inj ho
      try dsimp only at hd
      have g11 : a'.tmps.getD 11 undef = .int .i64 (q : Int) := hsa.rest 11 (by rfl)
      refine wpOp_of rfl rfl ?_
      refine op_run (v := .int .i64 (q : Int)) (w' := w') ?_ ⟨_, rfl, ?_, ?_⟩
      · simp only [execOp, Act.eval, List.map_toArray, List.map_cons, List.map_nil, g11]; first | (go_simp; done) | rfl
      · try dsimp only
        exact (slots_put (ns := 98) (hsa.size.trans rfl) (by decide))
      · exact Below.refl _ _
    | 1, ho =>
      obtain rfl := Option.some.inj ho
      try dsimp only at hd
      have d0 : a'.tmps.getD 70 undef = .int .i64 (q : Int) := hd 0 (by rfl)
      refine wpOp_of rfl rfl ?_
      refine op_run (v := .bool true) (w' := w') ?_ ⟨_, rfl, ?_, ?_⟩
      · simp only [execOp, Act.eval, List.map_toArray, List.map_cons, List.map_nil, d0, gi]; first | (go_simp; done) | rfl
      · try dsimp only
        exact (slots_put (ns := 98) (hsa.size.trans rfl) (by decide))
      · exact Below.refl _ _
    | 2, ho =>
      obtain rfl := Option.some.inj ho
      try dsimp only at hd
      have d1 : a'.tmps.getD 71 undef = .bool true := hd 1 (by rfl)
      refine wpOp_of rfl rfl ?_
      refine op_run (v := .bool true) (w' := w') ?_ ⟨_, rfl, ?_, ?_⟩
      · simp only [execOp, Act.eval, List.map_toArray, List.map_cons, List.map_nil, d1]; first | (go_simp; done) | rfl
      · try dsimp only
        exact (slots_put (ns := 98) (hsa.size.trans rfl) (by decide))
      · exact Below.refl _ _
    | 3, ho =>
      obtain rfl := Option.some.inj ho
      try dsimp only at hd
      have d2 : a'.tmps.getD 72 undef = .bool true := hd 2 (by rfl)
      have g9 : a'.tmps.getD 9 undef = .slice (some ⟨b, off, none⟩) n cp := hsa.rest 9 (by rfl)
      refine wpOp_on (j := 2) (dj := 72) rfl rfl rfl d2 ?_
      refine op_run (v := .slice (some ⟨b, off, none⟩) n cp) (w' := w') ?_ ⟨_, rfl, ?_, ?_⟩
      · simp only [execOp, Act.eval, List.map_toArray, List.map_cons, List.map_nil, d2, g9]; first | (go_simp; done) | rfl
      · try dsimp only
        exact (slots_put (ns := 98) (hsa.size.trans rfl) (by decide))
      · exact Below.refl _ _
    | 4, ho =>
      obtain rfl := Option.some.inj ho
      try dsimp only at hd
      have d2 : a'.tmps.getD 72 undef = .bool true := hd 2 (by rfl)
      have g11 : a'.tmps.getD 11 undef = .int .i64 (q : Int) := hsa.rest 11 (by rfl)
      refine wpOp_on (j := 2) (dj := 72) rfl rfl rfl d2 ?_
      refine op_run (v := .int .i64 (q : Int)) (w' := w') ?_ ⟨_, rfl, ?_, ?_⟩
      · simp only [execOp, Act.eval, List.map_toArray, List.map_cons, List.map_nil, d2, g11]; first | (go_simp; done) | rfl
      · try dsimp only
        exact (slots_put (ns := 98) (hsa.size.trans rfl) (by decide))
      · exact Below.refl _ _
    | 5, ho =>
      obtain rfl := Option.some.inj ho
      try dsimp only at hd
      have d2 : a'.tmps.getD 72 undef = .bool true := hd 2 (by rfl)
      have d3 : a'.tmps.getD 73 undef = .slice (some ⟨b, off, none⟩) n cp := hd 3 (by rfl)
      have d4 : a'.tmps.getD 74 undef = .int .i64 (q : Int) := hd 4 (by rfl)
      refine wpOp_on (j := 2) (dj := 72) rfl rfl rfl d2 ?_
      refine op_run (v := .pointer (some ⟨b, off + q * 2, none⟩)) (w' := w') ?_ ⟨_, rfl, ?_, ?_⟩
      · simp only [execOp, Act.eval, List.map_toArray, List.map_cons, List.map_nil, d2, d3, d4, hi0, hi1]; first | (go_simp; done) | rfl
      · try dsimp only
        exact (slots_put (ns := 98) (hsa.size.trans rfl) (by decide))
      · exact Below.refl _ _
    | 6, ho =>
      obtain rfl := Option.some.inj ho
      try dsimp only at hd
      have d2 : a'.tmps.getD 72 undef = .bool true := hd 2 (by rfl)
      have d5 : a'.tmps.getD 75 undef = .pointer (some ⟨b, off + q * 2, none⟩) := hd 5 (by rfl)
      refine wpOp_on (j := 2) (dj := 72) rfl rfl rfl d2 ?_
      refine op_run (v := .pointer (some ⟨b, off + q * 2, none⟩)) (w' := w') ?_ ⟨_, rfl, ?_, ?_⟩
      · simp only [execOp, Act.eval, List.map_toArray, List.map_cons, List.map_nil, d2, d5]; first | (go_simp; done) | rfl
      · try dsimp only
        exact (slots_put (ns := 98) (hsa.size.trans rfl) (by decide))
      · exact Below.refl _ _
    | 7, ho =>
      obtain rfl := Option.some.inj ho
      try dsimp only at hd
      have d2 : a'.tmps.getD 72 undef = .bool true := hd 2 (by rfl)
      have d6 : a'.tmps.getD 76 undef = .pointer (some ⟨b, off + q * 2, none⟩) := hd 6 (by rfl)
      have y0x := (hb.cell (p := ⟨b, _, none⟩) hbl).trans y0
      refine wpOp_on (j := 2) (dj := 72) rfl rfl rfl d2 ?_
      refine op_run (v := .int .i64 m.node) (w' := w') ?_ ⟨_, rfl, ?_, ?_⟩
      · simp only [execOp, Act.eval, List.map_toArray, List.map_cons, List.map_nil, d2, d6, y0x]; first | (go_simp; done) | rfl
      · try dsimp only
        exact (slots_put (ns := 98) (hsa.size.trans rfl) (by decide))
      · exact Below.refl _ _
    | 8, ho =>
      obtain rfl := Option.some.inj ho
      try dsimp only at hd
      have d2 : a'.tmps.getD 72 undef = .bool true := hd 2 (by rfl)
      have g9 : a'.tmps.getD 9 undef = .slice (some ⟨b, off, none⟩) n cp := hsa.rest 9 (by rfl)
      refine wpOp_on (j := 2) (dj := 72) rfl rfl rfl d2 ?_
      refine op_run (v := .slice (some ⟨b, off, none⟩) n cp) (w' := w') ?_ ⟨_, rfl, ?_, ?_⟩
      · simp only [execOp, Act.eval, List.map_toArray, List.map_cons, List.map_nil, d2, g9]; first | (go_simp; done) | rfl
      · try dsimp only
        exact (slots_put (ns := 98) (hsa.size.trans rfl) (by decide))
      · exact Below.refl _ _
    | 9, ho =>
      obtain rfl := Option.some.inj ho
      try dsimp only at hd
      have d2 : a'.tmps.getD 72 undef = .bool true := hd 2 (by rfl)
      have g11 : a'.tmps.getD 11 undef = .int .i64 (q : Int) := hsa.rest 11 (by rfl)
      refine wpOp_on (j := 2) (dj := 72) rfl rfl rfl d2 ?_
      refine op_run (v := .int .i64 (q : Int)) (w' := w') ?_ ⟨_, rfl, ?_, ?_⟩
      · simp only [execOp, Act.eval, List.map_toArray, List.map_cons, List.map_nil, d2, g11]; first | (go_simp; done) | rfl
      · try dsimp only
        exact (slots_put (ns := 98) (hsa.size.trans rfl) (by decide))
      · exact Below.refl _ _
    | 10, ho =>
      obtain rfl := Option.some.inj ho
      try dsimp only at hd
      have d2 : a'.tmps.getD 72 undef = .bool true := hd 2 (by rfl)
      have d9 : a'.tmps.getD 79 undef = .int .i64 (q : Int) := hd 9 (by rfl)
      refine wpOp_on (j := 2) (dj := 72) rfl rfl rfl d2 ?_
      refine op_run (v := .int .i64 z) (w' := w') ?_ ⟨_, rfl, ?_, ?_⟩
      · simp only [execOp, Act.eval, List.map_toArray, List.map_cons, List.map_nil, d2, d9, hw]; first | (go_simp; done) | rfl
      · try dsimp only
        exact (slots_put (ns := 98) (hsa.size.trans rfl) (by decide))
      · exact Below.refl _ _
    | 11, ho =>
      obtain rfl := Option.some.inj ho
      try dsimp only at hd
      have d2 : a'.tmps.getD 72 undef = .bool true := hd 2 (by rfl)
      have d8 : a'.tmps.getD 78 undef = .slice (some ⟨b, off, none⟩) n cp := hd 8 (by rfl)
      have d10 : a'.tmps.getD 80 undef = .int .i64 z := hd 10 (by rfl)
      refine wpOp_on (j := 2) (dj := 72) rfl rfl rfl d2 ?_
      refine op_run (v := .pointer (some ⟨b, off + q1 * 2, none⟩)) (w' := w') ?_ ⟨_, rfl, ?_, ?_⟩
      · simp only [execOp, Act.eval, List.map_toArray, List.map_cons, List.map_nil, d2, d8, d10, hj0, hj1, hji]; first | (go_simp; done) | rfl
      · try dsimp only
        exact (slots_put (ns := 98) (hsa.size.trans rfl) (by decide))
      · exact Below.refl _ _
    | 12, ho =>
      obtain rfl := Option.some.inj ho
      try dsimp only at hd
      have d2 : a'.tmps.getD 72 undef = .bool true := hd 2 (by rfl)
      have d11 : a'.tmps.getD 81 undef = .pointer (some ⟨b, off + q1 * 2, none⟩) := hd 11 (by rfl)
      refine wpOp_on (j := 2) (dj := 72) rfl rfl rfl d2 ?_
      refine op_run (v := .pointer (some ⟨b, off + q1 * 2, none⟩)) (w' := w') ?_ ⟨_, rfl, ?_, ?_⟩
      · simp only [execOp, Act.eval, List.map_toArray, List.map_cons, List.map_nil, d2, d11]; first | (go_simp; done) | rfl
      · try dsimp only
        exact (slots_put (ns := 98) (hsa.size.trans rfl) (by decide))
      · exact Below.refl _ _
    | 13, ho =>
      obtain rfl := Option.some.inj ho
      try dsimp only at hd
      have d2 : a'.tmps.getD 72 undef = .bool true := hd 2 (by rfl)
      have d12 : a'.tmps.getD 82 undef = .pointer (some ⟨b, off + q1 * 2, none⟩) := hd 12 (by rfl)
      have z0x := (hb.cell (p := ⟨b, _, none⟩) hbl).trans z0
      refine wpOp_on (j := 2) (dj := 72) rfl rfl rfl d2 ?_
      refine op_run (v := .int .i64 x) (w' := w') ?_ ⟨_, rfl, ?_, ?_⟩
      · simp only [execOp, Act.eval, List.map_toArray, List.map_cons, List.map_nil, d2, d12, z0x]; first | (go_simp; done) | rfl
      · try dsimp only
        exact (slots_put (ns := 98) (hsa.size.trans rfl) (by decide))
      · exact Below.refl _ _
    | 14, ho =>
      obtain rfl := Option.some.inj ho
      try dsimp only at hd
      have d2 : a'.tmps.getD 72 undef = .bool true := hd 2 (by rfl)
      have d7 : a'.tmps.getD 77 undef = .int .i64 m.node := hd 7 (by rfl)
      have d13 : a'.tmps.getD 83 undef = .int .i64 x := hd 13 (by rfl)
      refine wpOp_on (j := 2) (dj := 72) rfl rfl rfl d2 ?_
      refine op_run (v := .bool false) (w' := w') ?_ ⟨_, rfl, ?_, ?_⟩
      · simp only [execOp, Act.eval, List.map_toArray, List.map_cons, List.map_nil, d2, d7, d13, gl]; first | (go_simp; done) | rfl
      · try dsimp only
        exact (slots_put (ns := 98) (hsa.size.trans rfl) (by decide))
      · exact Below.refl _ _
    | 15, ho =>
      obtain rfl := Option.some.inj ho
      try dsimp only at hd
      have d2 : a'.tmps.getD 72 undef = .bool true := hd 2 (by rfl)
      have d14 : a'.tmps.getD 84 undef = .bool false := hd 14 (by rfl)
      refine wpOp_of rfl rfl ?_
      refine op_run (v := .bool false) (w' := w') ?_ ⟨_, rfl, ?_, ?_⟩
      · simp only [execOp, Act.eval, List.map_toArray, List.map_cons, List.map_nil, d2, d14]; first | (go_simp; done) | rfl
      · try dsimp only
        exact (slots_put (ns := 98) (hsa.size.trans rfl) (by decide))
      · exact Below.refl _ _
    | 16, ho =>
      obtain rfl := Option.some.inj ho
      try dsimp only at hd
      have d15 : a'.tmps.getD 85 undef = .bool false := hd 15 (by rfl)
      refine wpOp_of rfl rfl ?_
      refine op_run (v := .bool false) (w' := w') ?_ ⟨_, rfl, ?_, ?_⟩
      · simp only [execOp, Act.eval, List.map_toArray, List.map_cons, List.map_nil, d15]; first | (go_simp; done) | rfl
      · try dsimp only
        exact (slots_put (ns := 98) (hsa.size.trans rfl) (by decide))
      · exact Below.refl _ _
    | 17, ho =>
      obtain rfl := Option.some.inj ho
      try dsimp only at hd
      have d16 : a'.tmps.getD 86 undef = .bool false := hd 16 (by rfl)
      have g6 : a'.tmps.getD 6 undef = .pointer (some ad) := hsa.rest 6 (by rfl)
      refine wpOp_on (j := 16) (dj := 86) rfl rfl rfl d16 ?_
      refine op_run (v := .pointer (some ad)) (w' := w') ?_ ⟨_, rfl, ?_, ?_⟩
      · simp only [execOp, Act.eval, List.map_toArray, List.map_cons, List.map_nil, d16, g6]; first | (go_simp; done) | rfl
      · try dsimp only
        exact (slots_put (ns := 98) (hsa.size.trans rfl) (by decide))
      · exact Below.refl _ _
    | 18, ho =>
      obtain rfl := Option.some.inj ho
      try dsimp only at hd
      have d16 : a'.tmps.getD 86 undef = .bool false := hd 16 (by rfl)
      have g9 : a'.tmps.getD 9 undef = .slice (some ⟨b, off, none⟩) n cp := hsa.rest 9 (by rfl)
      refine wpOp_on (j := 16) (dj := 86) rfl rfl rfl d16 ?_
      refine op_run (v := .slice (some ⟨b, off, none⟩) n cp) (w' := w') ?_ ⟨_, rfl, ?_, ?_⟩
      · simp only [execOp, Act.eval, List.map_toArray, List.map_cons, List.map_nil, d16, g9]; first | (go_simp; done) | rfl
      · try dsimp only
        exact (slots_put (ns := 98) (hsa.size.trans rfl) (by decide))
      · exact Below.refl _ _
    | 19, ho =>
      obtain rfl := Option.some.inj ho
      try dsimp only at hd
      have d16 : a'.tmps.getD 86 undef = .bool false := hd 16 (by rfl)
      have g11 : a'.tmps.getD 11 undef = .int .i64 (q : Int) := hsa.rest 11 (by rfl)
      refine wpOp_on (j := 16) (dj := 86) rfl rfl rfl d16 ?_
      refine op_run (v := .int .i64 (q : Int)) (w' := w') ?_ ⟨_, rfl, ?_, ?_⟩
      · simp only [execOp, Act.eval, List.map_toArray, List.map_cons, List.map_nil, d16, g11]; first | (go_simp; done) | rfl
      · try dsimp only
        exact (slots_put (ns := 98) (hsa.size.trans rfl) (by decide))
      · exact Below.refl _ _
    | 20, ho =>
      obtain rfl := Option.some.inj ho
      try dsimp only at hd
      have d16 : a'.tmps.getD 86 undef = .bool false := hd 16 (by rfl)
      have d18 : a'.tmps.getD 88 undef = .slice (some ⟨b, off, none⟩) n cp := hd 18 (by rfl)
      have d19 : a'.tmps.getD 89 undef = .int .i64 (q : Int) := hd 19 (by rfl)
      refine wpOp_on (j := 16) (dj := 86) rfl rfl rfl d16 ?_
      refine op_run (v := .pointer (some ⟨b, off + q * 2, none⟩)) (w' := w') ?_ ⟨_, rfl, ?_, ?_⟩
      · simp only [execOp, Act.eval, List.map_toArray, List.map_cons, List.map_nil, d16, d18, d19, hi0, hi1]; first | (go_simp; done) | rfl
      · try dsimp only
        exact (slots_put (ns := 98) (hsa.size.trans rfl) (by decide))
      · exact Below.refl _ _
    | 21, ho =>
      obtain rfl := Option.some.inj ho
      try dsimp only at hd
      have d16 : a'.tmps.getD 86 undef = .bool false := hd 16 (by rfl)
      have d20 : a'.tmps.getD 90 undef = .pointer (some ⟨b, off + q * 2, none⟩) := hd 20 (by rfl)
      have y0x := (hb.cell (p := ⟨b, _, none⟩) hbl).trans y0
      have y1x := (hb.cell (p := ⟨b, _, none⟩) hbl).trans y1
      refine wpOp_on (j := 16) (dj := 86) rfl rfl rfl d16 ?_
      refine op_run (v := .agg #[.int .i64 m.node, .int .i64 m.life]) (w' := w') ?_ ⟨_, rfl, ?_, ?_⟩
      · simp only [execOp, Act.eval, List.map_toArray, List.map_cons, List.map_nil, d16, d20, y0x, y1x]; first | (go_simp; done) | rfl
      · try dsimp only
        exact (slots_put (ns := 98) (hsa.size.trans rfl) (by decide))
      · exact Below.refl _ _
    | 22, ho =>
      obtain rfl := Option.some.inj ho
      try dsimp only at hd
      have d16 : a'.tmps.getD 86 undef = .bool false := hd 16 (by rfl)
      have d17 : a'.tmps.getD 87 undef = .pointer (some ad) := hd 17 (by rfl)
      have d21 : a'.tmps.getD 91 undef = .agg #[.int .i64 m.node, .int .i64 m.life] := hd 21 (by rfl)
      refine wpOp_on (j := 16) (dj := 86) rfl rfl rfl d16 ?_
      refine op_call 15 _ _ rfl (enters_of Try.func15 (by kernel_rfl) rfl) [.pointer (some ad), .agg #[.int .i64 m.node, .int .i64 m.life]] (by simp only [List.map, Act.eval, d16, d17, d21]) (HE.out w' hb) ?_
      rintro e w'' ⟨rfl, b2⟩
      refine ⟨_, rfl, _, rfl, ?_, ?_⟩
      · try dsimp only
        exact (slots_put (ns := 98) (hsa.size.trans rfl) (by decide))
      · exact b2
    | 23, ho =>
      obtain rfl := Option.some.inj ho
      try dsimp only at hd
      have d16 : a'.tmps.getD 86 undef = .bool false := hd 16 (by rfl)
      have d22 : a'.tmps.getD 92 undef = .bool true := hd 22 (by rfl)
      refine wpOp_on (j := 16) (dj := 86) rfl rfl rfl d16 ?_
      refine op_run (v := .bool false) (w' := w') ?_ ⟨_, rfl, ?_, ?_⟩
      · simp only [execOp, Act.eval, List.map_toArray, List.map_cons, List.map_nil, d16, d22]; first | (go_simp; done) | rfl
      · try dsimp only
        exact (slots_put (ns := 98) (hsa.size.trans rfl) (by decide))
      · exact Below.refl _ _
    | 24, ho =>
      obtain rfl := Option.some.inj ho
      try dsimp only at hd
      have d16 : a'.tmps.getD 86 undef = .bool false := hd 16 (by rfl)
      have d23 : a'.tmps.getD 93 undef = .bool false := hd 23 (by rfl)
      refine wpOp_of rfl rfl ?_
      refine op_run (v := .bool false) (w' := w') ?_ ⟨_, rfl, ?_, ?_⟩
      · simp only [execOp, Act.eval, List.map_toArray, List.map_cons, List.map_nil, d16, d23]; first | (go_simp; done) | rfl
      · try dsimp only
        exact (slots_put (ns := 98) (hsa.size.trans rfl) (by decide))
      · exact Below.refl _ _
    | (n + 25), ho => exact absurd ho (by simp)
  case pdone =>
    intro a' w' hsa hb hd
    have d0 : a'.tmps.getD 70 undef = .int .i64 (q : Int) := hd 0 (by decide)
    have d1 : a'.tmps.getD 71 undef = .bool true := hd 1 (by decide)
    have d2 : a'.tmps.getD 72 undef = .bool true := hd 2 (by decide)
    have d3 : a'.tmps.getD 73 undef = .slice (some ⟨b, off, none⟩) n cp := hd 3 (by decide)
    have d4 : a'.tmps.getD 74 undef = .int .i64 (q : Int) := hd 4 (by decide)
    have d5 : a'.tmps.getD 75 undef = .pointer (some ⟨b, off + q * 2, none⟩) := hd 5 (by decide)
    have d6 : a'.tmps.getD 76 undef = .pointer (some ⟨b, off + q * 2, none⟩) := hd 6 (by decide)
    have d7 : a'.tmps.getD 77 undef = .int .i64 m.node := hd 7 (by decide)
    have d8 : a'.tmps.getD 78 undef = .slice (some ⟨b, off, none⟩) n cp := hd 8 (by decide)
    have d9 : a'.tmps.getD 79 undef = .int .i64 (q : Int) := hd 9 (by decide)
    have d10 : a'.tmps.getD 80 undef = .int .i64 z := hd 10 (by decide)
    have d11 : a'.tmps.getD 81 undef = .pointer (some ⟨b, off + q1 * 2, none⟩) := hd 11 (by decide)
    have d12 : a'.tmps.getD 82 undef = .pointer (some ⟨b, off + q1 * 2, none⟩) := hd 12 (by decide)
    have d13 : a'.tmps.getD 83 undef = .int .i64 x := hd 13 (by decide)
    have d14 : a'.tmps.getD 84 undef = .bool false := hd 14 (by decide)
    have d15 : a'.tmps.getD 85 undef = .bool false := hd 15 (by decide)
    have d16 : a'.tmps.getD 86 undef = .bool false := hd 16 (by decide)
    have d17 : a'.tmps.getD 87 undef = .pointer (some ad) := hd 17 (by decide)
    have d18 : a'.tmps.getD 88 undef = .slice (some ⟨b, off, none⟩) n cp := hd 18 (by decide)
    have d19 : a'.tmps.getD 89 undef = .int .i64 (q : Int) := hd 19 (by decide)
    have d20 : a'.tmps.getD 90 undef = .pointer (some ⟨b, off + q * 2, none⟩) := hd 20 (by decide)
    have d21 : a'.tmps.getD 91 undef = .agg #[.int .i64 m.node, .int .i64 m.life] := hd 21 (by decide)
    have d22 : a'.tmps.getD 92 undef = .bool true := hd 22 (by decide)
    have d23 : a'.tmps.getD 93 undef = .bool false := hd 23 (by decide)
    have d24 : a'.tmps.getD 94 undef = .bool false := hd 24 (by decide)
    exact HQ.out _ _ ⟨hsa.size.trans rfl, hsa.defers, (hsa.rest 1 (by rfl)).trans rfl, (hsa.rest 2 (by rfl)).trans rfl, (hsa.rest 4 (by rfl)).trans rfl, (hsa.rest 5 (by rfl)).trans rfl, (hsa.rest 6 (by rfl)).trans rfl, (hsa.rest 7 (by rfl)).trans rfl, (hsa.rest 8 (by rfl)).trans rfl, (hsa.rest 9 (by rfl)).trans rfl, (hsa.rest 10 (by rfl)).trans rfl, (hsa.rest 11 (by rfl)).trans rfl⟩ (by first | exact d24 | (rw [d24])) hb
set_option maxHeartbeats 8000000 in
set_option maxRecDepth 100000 in
theorem uo_r19 {K : Act → World → Prop} {c : Code} (hc : regOf (Try.f5.body.getD .skip) 19 = some c) (a : Act) {v : Vuo} {wq : World}  (hF : Fuo a v) (h10v : v.v10 = .bool true) (hQ : ∀ a', Fuo a' v → a'.tmps.getD 96 undef = .bool false → K a' wq) :
    Code.wp Try.prog c (Exit.then K fun _ _ _ => False) a wq := by
  have HQ := hide hQ
  clear hQ
  obtain ⟨t', d'⟩ := a
  obtain ⟨v1, v2, v4, v5, v6, v7, v8, v9, v10, v11⟩ := v
  simp only at h10v HQ
  subst h10v
  obtain ⟨hs1, hd1, q1, q2, q4, q5, q6, q7, q8, q9, q10, q11⟩ := hF
  obtain ⟨u, hu⟩ := frame_uo t' hs1
  simp only at hd1 q1 q2 q4 q5 q6 q7 q8 q9 q10 q11
  subst hu hd1
  have e1 : u 1 = v1 := q1
  have e2 : u 2 = v2 := q2
  have e4 : u 4 = v4 := q4
  have e5 : u 5 = v5 := q5
  have e6 : u 6 = v6 := q6
  have e7 : u 7 = v7 := q7
  have e8 : u 8 = v8 := q8
  have e9 : u 9 = v9 := q9
  have e10 : u 10 = .bool true := q10
  have e11 : u 11 = v11 := q11
  rw [e1, e2, e4, e5, e6, e7, e8, e9, e10, e11]
  clear q1 e1 q2 e2 q4 e4 q5 e5 q6 e6 q7 e7 q8 e8 q9 e9 q10 e10 q11 e11 hs1
  simp only [Try.f5, Option.getD_some, regOf] at hc
  injection hc with hc
  subst hc
  generalize u 0 = u0
  generalize u 3 = u3
  generalize u 12 = u12
  generalize u 13 = u13
  generalize u 14 = u14
  generalize u 15 = u15
  generalize u 16 = u16
  generalize u 17 = u17
  generalize u 18 = u18
  generalize u 19 = u19
  generalize u 20 = u20
  generalize u 21 = u21
  generalize u 22 = u22
  generalize u 23 = u23
  generalize u 24 = u24
  generalize u 25 = u25
  generalize u 26 = u26
  generalize u 27 = u27
  generalize u 28 = u28
  generalize u 29 = u29
  generalize u 30 = u30
  generalize u 31 = u31
  generalize u 32 = u32
  generalize u 33 = u33
  generalize u 34 = u34
  generalize u 35 = u35
  generalize u 36 = u36
  generalize u 37 = u37
  generalize u 38 = u38
  generalize u 39 = u39
  generalize u 40 = u40
  generalize u 41 = u41
  generalize u 42 = u42
  generalize u 43 = u43
  generalize u 44 = u44
  generalize u 45 = u45
  generalize u 46 = u46
  generalize u 47 = u47
  generalize u 48 = u48
  generalize u 49 = u49
  generalize u 50 = u50
  generalize u 51 = u51
  generalize u 52 = u52
  generalize u 53 = u53
  generalize u 54 = u54
  generalize u 55 = u55
  generalize u 56 = u56
  generalize u 57 = u57
  generalize u 58 = u58
  generalize u 59 = u59
  generalize u 60 = u60
  generalize u 61 = u61
  generalize u 62 = u62
  generalize u 63 = u63
  generalize u 64 = u64
  generalize u 65 = u65
  generalize u 66 = u66
  generalize u 67 = u67
  generalize u 68 = u68
  generalize u 69 = u69
  generalize u 70 = u70
  generalize u 71 = u71
  generalize u 72 = u72
  generalize u 73 = u73
  generalize u 74 = u74
  generalize u 75 = u75
  generalize u 76 = u76
  generalize u 77 = u77
  generalize u 78 = u78
  generalize u 79 = u79
  generalize u 80 = u80
  generalize u 81 = u81
  generalize u 82 = u82
  generalize u 83 = u83
  generalize u 84 = u84
  generalize u 85 = u85
  generalize u 86 = u86
  generalize u 87 = u87
  generalize u 88 = u88
  generalize u 89 = u89
  generalize u 90 = u90
  generalize u 91 = u91
  generalize u 92 = u92
  generalize u 93 = u93
  generalize u 94 = u94
  generalize u 95 = u95
  generalize u 96 = u96
  generalize u 97 = u97
  clear u
  go_wp2
  exact HQ.out _ ⟨rfl, rfl, rfl, rfl, rfl, rfl, rfl, rfl, rfl, rfl, rfl, rfl⟩ (by simp)
set_option maxHeartbeats 8000000 in
set_option maxRecDepth 100000 in
theorem uo_r21 {K : Act → World → Prop} {c : Code} (hc : regOf (Try.f5.body.getD .skip) 21 = some c) (a : Act) {v : Vuo} {wq : World} {r : Bool} (hF : Fuo a v) (h5v : v.v5 = .bool r) (hQ : ∀ a', Fuo a' { v with v4 := .bool r } → K a' wq) :
    Code.wp Try.prog c (Exit.then K fun _ _ _ => False) a wq := by
  have HQ := hide hQ
  clear hQ
  obtain ⟨t', d'⟩ := a
  obtain ⟨v1, v2, v4, v5, v6, v7, v8, v9, v10, v11⟩ := v
  simp only at h5v HQ
  subst h5v
  obtain ⟨hs1, hd1, q1, q2, q4, q5, q6, q7, q8, q9, q10, q11⟩ := hF
  obtain ⟨u, hu⟩ := frame_uo t' hs1
  simp only at hd1 q1 q2 q4 q5 q6 q7 q8 q9 q10 q11
  subst hu hd1
  have e1 : u 1 = v1 := q1
  have e2 : u 2 = v2 := q2
  have e4 : u 4 = v4 := q4
  have e5 : u 5 = .bool r := q5
  have e6 : u 6 = v6 := q6
  have e7 : u 7 = v7 := q7
  have e8 : u 8 = v8 := q8
  have e9 : u 9 = v9 := q9
  have e10 : u 10 = v10 := q10
  have e11 : u 11 = v11 := q11
  rw [e1, e2, e4, e5, e6, e7, e8, e9, e10, e11]
  clear q1 e1 q2 e2 q4 e4 q5 e5 q6 e6 q7 e7 q8 e8 q9 e9 q10 e10 q11 e11 hs1
  simp only [Try.f5, Option.getD_some, regOf] at hc
  injection hc with hc
  subst hc
  generalize u 0 = u0
  generalize u 3 = u3
  generalize u 12 = u12
  generalize u 13 = u13
  generalize u 14 = u14
  generalize u 15 = u15
  generalize u 16 = u16
  generalize u 17 = u17
  generalize u 18 = u18
  generalize u 19 = u19
  generalize u 20 = u20
  generalize u 21 = u21
  generalize u 22 = u22
  generalize u 23 = u23
  generalize u 24 = u24
  generalize u 25 = u25
  generalize u 26 = u26
  generalize u 27 = u27
  generalize u 28 = u28
  generalize u 29 = u29
  generalize u 30 = u30
  generalize u 31 = u31
  generalize u 32 = u32
  generalize u 33 = u33
  generalize u 34 = u34
  generalize u 35 = u35
  generalize u 36 = u36
  generalize u 37 = u37
  generalize u 38 = u38
  generalize u 39 = u39
  generalize u 40 = u40
  generalize u 41 = u41
  generalize u 42 = u42
  generalize u 43 = u43
  generalize u 44 = u44
  generalize u 45 = u45
  generalize u 46 = u46
  generalize u 47 = u47
  generalize u 48 = u48
  generalize u 49 = u49
  generalize u 50 = u50
  generalize u 51 = u51
  generalize u 52 = u52
  generalize u 53 = u53
  generalize u 54 = u54
  generalize u 55 = u55
  generalize u 56 = u56
  generalize u 57 = u57
  generalize u 58 = u58
  generalize u 59 = u59
  generalize u 60 = u60
  generalize u 61 = u61
  generalize u 62 = u62
  generalize u 63 = u63
  generalize u 64 = u64
  generalize u 65 = u65
  generalize u 66 = u66
  generalize u 67 = u67
  generalize u 68 = u68
  generalize u 69 = u69
  generalize u 70 = u70
  generalize u 71 = u71
  generalize u 72 = u72
  generalize u 73 = u73
  generalize u 74 = u74
  generalize u 75 = u75
  generalize u 76 = u76
  generalize u 77 = u77
  generalize u 78 = u78
  generalize u 79 = u79
  generalize u 80 = u80
  generalize u 81 = u81
  generalize u 82 = u82
  generalize u 83 = u83
  generalize u 84 = u84
  generalize u 85 = u85
  generalize u 86 = u86
  generalize u 87 = u87
  generalize u 88 = u88
  generalize u 89 = u89
  generalize u 90 = u90
  generalize u 91 = u91
  generalize u 92 = u92
  generalize u 93 = u93
  generalize u 94 = u94
  generalize u 95 = u95
  generalize u 96 = u96
  generalize u 97 = u97
  clear u
  go_wp2
  exact HQ.out _ ⟨rfl, rfl, rfl, rfl, rfl, rfl, rfl, rfl, rfl, rfl, rfl, rfl⟩
end Go.Proofs.Ytafjngmdandgmaa
