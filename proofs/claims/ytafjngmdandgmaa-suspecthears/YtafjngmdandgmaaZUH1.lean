/-
  SuspectHears: its regions (mkuh.py).
-/
import Derived.Test.YtafjngmdandgmaaZUO2
namespace Go.Proofs.Ytafjngmdandgmaa
open Go.RowKit

attribute [local go_sem ↓] Go.wp_at_zero Go.wp_at_succ
set_option linter.unusedSimpArgs false
set_option linter.unusedVariables false
set_option maxRecDepth 100000 in
theorem frame_uh (t : Array Value) (h : t.size = 127) : ∃ u : Nat → Value, t = List.toArray (u 0 :: u 1 :: u 2 :: u 3 :: u 4 :: u 5 :: u 6 :: u 7 :: u 8 :: u 9 :: u 10 :: u 11 :: u 12 :: u 13 :: u 14 :: u 15 :: u 16 :: u 17 :: u 18 :: u 19 :: u 20 :: u 21 :: u 22 :: u 23 :: u 24 :: u 25 :: u 26 :: u 27 :: u 28 :: u 29 :: u 30 :: u 31 :: u 32 :: u 33 :: u 34 :: u 35 :: u 36 :: u 37 :: u 38 :: u 39 :: u 40 :: u 41 :: u 42 :: u 43 :: u 44 :: u 45 :: u 46 :: u 47 :: u 48 :: u 49 :: u 50 :: u 51 :: u 52 :: u 53 :: u 54 :: u 55 :: u 56 :: u 57 :: u 58 :: u 59 :: u 60 :: u 61 :: u 62 :: u 63 :: u 64 :: u 65 :: u 66 :: u 67 :: u 68 :: u 69 :: u 70 :: u 71 :: u 72 :: u 73 :: u 74 :: u 75 :: u 76 :: u 77 :: u 78 :: u 79 :: u 80 :: u 81 :: u 82 :: u 83 :: u 84 :: u 85 :: u 86 :: u 87 :: u 88 :: u 89 :: u 90 :: u 91 :: u 92 :: u 93 :: u 94 :: u 95 :: u 96 :: u 97 :: u 98 :: u 99 :: u 100 :: u 101 :: u 102 :: u 103 :: u 104 :: u 105 :: u 106 :: u 107 :: u 108 :: u 109 :: u 110 :: u 111 :: u 112 :: u 113 :: u 114 :: u 115 :: u 116 :: u 117 :: u 118 :: u 119 :: u 120 :: u 121 :: u 122 :: u 123 :: u 124 :: u 125 :: u 126 :: []) := by
  refine ⟨fun i => t.getD i undef, ?_⟩
  have e : (List.toArray ((fun i => t.getD i undef) 0 :: (fun i => t.getD i undef) 1 :: (fun i => t.getD i undef) 2 :: (fun i => t.getD i undef) 3 :: (fun i => t.getD i undef) 4 :: (fun i => t.getD i undef) 5 :: (fun i => t.getD i undef) 6 :: (fun i => t.getD i undef) 7 :: (fun i => t.getD i undef) 8 :: (fun i => t.getD i undef) 9 :: (fun i => t.getD i undef) 10 :: (fun i => t.getD i undef) 11 :: (fun i => t.getD i undef) 12 :: (fun i => t.getD i undef) 13 :: (fun i => t.getD i undef) 14 :: (fun i => t.getD i undef) 15 :: (fun i => t.getD i undef) 16 :: (fun i => t.getD i undef) 17 :: (fun i => t.getD i undef) 18 :: (fun i => t.getD i undef) 19 :: (fun i => t.getD i undef) 20 :: (fun i => t.getD i undef) 21 :: (fun i => t.getD i undef) 22 :: (fun i => t.getD i undef) 23 :: (fun i => t.getD i undef) 24 :: (fun i => t.getD i undef) 25 :: (fun i => t.getD i undef) 26 :: (fun i => t.getD i undef) 27 :: (fun i => t.getD i undef) 28 :: (fun i => t.getD i undef) 29 :: (fun i => t.getD i undef) 30 :: (fun i => t.getD i undef) 31 :: (fun i => t.getD i undef) 32 :: (fun i => t.getD i undef) 33 :: (fun i => t.getD i undef) 34 :: (fun i => t.getD i undef) 35 :: (fun i => t.getD i undef) 36 :: (fun i => t.getD i undef) 37 :: (fun i => t.getD i undef) 38 :: (fun i => t.getD i undef) 39 :: (fun i => t.getD i undef) 40 :: (fun i => t.getD i undef) 41 :: (fun i => t.getD i undef) 42 :: (fun i => t.getD i undef) 43 :: (fun i => t.getD i undef) 44 :: (fun i => t.getD i undef) 45 :: (fun i => t.getD i undef) 46 :: (fun i => t.getD i undef) 47 :: (fun i => t.getD i undef) 48 :: (fun i => t.getD i undef) 49 :: (fun i => t.getD i undef) 50 :: (fun i => t.getD i undef) 51 :: (fun i => t.getD i undef) 52 :: (fun i => t.getD i undef) 53 :: (fun i => t.getD i undef) 54 :: (fun i => t.getD i undef) 55 :: (fun i => t.getD i undef) 56 :: (fun i => t.getD i undef) 57 :: (fun i => t.getD i undef) 58 :: (fun i => t.getD i undef) 59 :: (fun i => t.getD i undef) 60 :: (fun i => t.getD i undef) 61 :: (fun i => t.getD i undef) 62 :: (fun i => t.getD i undef) 63 :: (fun i => t.getD i undef) 64 :: (fun i => t.getD i undef) 65 :: (fun i => t.getD i undef) 66 :: (fun i => t.getD i undef) 67 :: (fun i => t.getD i undef) 68 :: (fun i => t.getD i undef) 69 :: (fun i => t.getD i undef) 70 :: (fun i => t.getD i undef) 71 :: (fun i => t.getD i undef) 72 :: (fun i => t.getD i undef) 73 :: (fun i => t.getD i undef) 74 :: (fun i => t.getD i undef) 75 :: (fun i => t.getD i undef) 76 :: (fun i => t.getD i undef) 77 :: (fun i => t.getD i undef) 78 :: (fun i => t.getD i undef) 79 :: (fun i => t.getD i undef) 80 :: (fun i => t.getD i undef) 81 :: (fun i => t.getD i undef) 82 :: (fun i => t.getD i undef) 83 :: (fun i => t.getD i undef) 84 :: (fun i => t.getD i undef) 85 :: (fun i => t.getD i undef) 86 :: (fun i => t.getD i undef) 87 :: (fun i => t.getD i undef) 88 :: (fun i => t.getD i undef) 89 :: (fun i => t.getD i undef) 90 :: (fun i => t.getD i undef) 91 :: (fun i => t.getD i undef) 92 :: (fun i => t.getD i undef) 93 :: (fun i => t.getD i undef) 94 :: (fun i => t.getD i undef) 95 :: (fun i => t.getD i undef) 96 :: (fun i => t.getD i undef) 97 :: (fun i => t.getD i undef) 98 :: (fun i => t.getD i undef) 99 :: (fun i => t.getD i undef) 100 :: (fun i => t.getD i undef) 101 :: (fun i => t.getD i undef) 102 :: (fun i => t.getD i undef) 103 :: (fun i => t.getD i undef) 104 :: (fun i => t.getD i undef) 105 :: (fun i => t.getD i undef) 106 :: (fun i => t.getD i undef) 107 :: (fun i => t.getD i undef) 108 :: (fun i => t.getD i undef) 109 :: (fun i => t.getD i undef) 110 :: (fun i => t.getD i undef) 111 :: (fun i => t.getD i undef) 112 :: (fun i => t.getD i undef) 113 :: (fun i => t.getD i undef) 114 :: (fun i => t.getD i undef) 115 :: (fun i => t.getD i undef) 116 :: (fun i => t.getD i undef) 117 :: (fun i => t.getD i undef) 118 :: (fun i => t.getD i undef) 119 :: (fun i => t.getD i undef) 120 :: (fun i => t.getD i undef) 121 :: (fun i => t.getD i undef) 122 :: (fun i => t.getD i undef) 123 :: (fun i => t.getD i undef) 124 :: (fun i => t.getD i undef) 125 :: (fun i => t.getD i undef) 126 :: []) : Array Value) = ((List.range 127).map fun i => t.getD i undef).toArray := rfl
  refine Eq.trans ?_ e.symm
  apply Array.ext
  · simp [h]
  · intro k h1 h2
    simp [Array.getD, h1]
/-- The slots that matter. -/
structure Vuh where
  v2 : Value
  v3 : Value
  v4 : Value
  v6 : Value
  v7 : Value
  v8 : Value
  v9 : Value
  v10 : Value
  v11 : Value
  v12 : Value
structure Fuh (a : Act) (v : Vuh) : Prop where
  size : a.tmps.size = 127
  defers : a.defers = []
  s2 : a.tmps.getD 2 undef = v.v2
  s3 : a.tmps.getD 3 undef = v.v3
  s4 : a.tmps.getD 4 undef = v.v4
  s6 : a.tmps.getD 6 undef = v.v6
  s7 : a.tmps.getD 7 undef = v.v7
  s8 : a.tmps.getD 8 undef = v.v8
  s9 : a.tmps.getD 9 undef = v.v9
  s10 : a.tmps.getD 10 undef = v.v10
  s11 : a.tmps.getD 11 undef = v.v11
  s12 : a.tmps.getD 12 undef = v.v12
set_option maxHeartbeats 8000000 in
set_option maxRecDepth 100000 in
theorem uh_r1 {K : Act → World → Prop} {c : Code} (hc : regOf (Try.f4.body.getD .skip) 1 = some c) (a : Act) {v : Vuh} {wq : World} {r : Bool} (hF : Fuh a v) (hE : Calls Try.prog 6 #[] wq fun e w' => e = .returned (.bool r) ∧ Below wq.heap.size wq w')
    (hQ : ∀ a' w', Fuh a' { v with v7 := .bool r } → Below wq.heap.size wq w' → K a' w') :
    Code.wp Try.prog c (Exit.then K fun _ _ _ => False) a wq := by
  have HQ := hide hQ
  clear hQ
  obtain ⟨t', d'⟩ := a
  obtain ⟨v2, v3, v4, v6, v7, v8, v9, v10, v11, v12⟩ := v
  obtain ⟨hs1, hd1, q2, q3, q4, q6, q7, q8, q9, q10, q11, q12⟩ := hF
  obtain ⟨u, hu⟩ := frame_uh t' hs1
  simp only at hd1 q2 q3 q4 q6 q7 q8 q9 q10 q11 q12
  subst hu hd1
  have e2 : u 2 = v2 := q2
  have e3 : u 3 = v3 := q3
  have e4 : u 4 = v4 := q4
  have e6 : u 6 = v6 := q6
  have e7 : u 7 = v7 := q7
  have e8 : u 8 = v8 := q8
  have e9 : u 9 = v9 := q9
  have e10 : u 10 = v10 := q10
  have e11 : u 11 = v11 := q11
  have e12 : u 12 = v12 := q12
  rw [e2, e3, e4, e6, e7, e8, e9, e10, e11, e12]
  clear q2 e2 q3 e3 q4 e4 q6 e6 q7 e7 q8 e8 q9 e9 q10 e10 q11 e11 q12 e12 hs1
  simp only [Try.f4, Option.getD_some, regOf] at hc
  injection hc with hc
  subst hc
  generalize u 0 = u0
  generalize u 1 = u1
  generalize u 5 = u5
  generalize u 13 = u13
  generalize u 14 = u14
  generalize u 15 = u15
  generalize u 16 = u16
  generalize u 17 = u17
  generalize u 18 = u18
  generalize u 19 = u19
  generalize u 20 = u20
  generalize u 21 = u21
  generalize u 22 = u22
  generalize u 23 = u23
  generalize u 24 = u24
  generalize u 25 = u25
  generalize u 26 = u26
  generalize u 27 = u27
  generalize u 28 = u28
  generalize u 29 = u29
  generalize u 30 = u30
  generalize u 31 = u31
  generalize u 32 = u32
  generalize u 33 = u33
  generalize u 34 = u34
  generalize u 35 = u35
  generalize u 36 = u36
  generalize u 37 = u37
  generalize u 38 = u38
  generalize u 39 = u39
  generalize u 40 = u40
  generalize u 41 = u41
  generalize u 42 = u42
  generalize u 43 = u43
  generalize u 44 = u44
  generalize u 45 = u45
  generalize u 46 = u46
  generalize u 47 = u47
  generalize u 48 = u48
  generalize u 49 = u49
  generalize u 50 = u50
  generalize u 51 = u51
  generalize u 52 = u52
  generalize u 53 = u53
  generalize u 54 = u54
  generalize u 55 = u55
  generalize u 56 = u56
  generalize u 57 = u57
  generalize u 58 = u58
  generalize u 59 = u59
  generalize u 60 = u60
  generalize u 61 = u61
  generalize u 62 = u62
  generalize u 63 = u63
  generalize u 64 = u64
  generalize u 65 = u65
  generalize u 66 = u66
  generalize u 67 = u67
  generalize u 68 = u68
  generalize u 69 = u69
  generalize u 70 = u70
  generalize u 71 = u71
  generalize u 72 = u72
  generalize u 73 = u73
  generalize u 74 = u74
  generalize u 75 = u75
  generalize u 76 = u76
  generalize u 77 = u77
  generalize u 78 = u78
  generalize u 79 = u79
  generalize u 80 = u80
  generalize u 81 = u81
  generalize u 82 = u82
  generalize u 83 = u83
  generalize u 84 = u84
  generalize u 85 = u85
  generalize u 86 = u86
  generalize u 87 = u87
  generalize u 88 = u88
  generalize u 89 = u89
  generalize u 90 = u90
  generalize u 91 = u91
  generalize u 92 = u92
  generalize u 93 = u93
  generalize u 94 = u94
  generalize u 95 = u95
  generalize u 96 = u96
  generalize u 97 = u97
  generalize u 98 = u98
  generalize u 99 = u99
  generalize u 100 = u100
  generalize u 101 = u101
  generalize u 102 = u102
  generalize u 103 = u103
  generalize u 104 = u104
  generalize u 105 = u105
  generalize u 106 = u106
  generalize u 107 = u107
  generalize u 108 = u108
  generalize u 109 = u109
  generalize u 110 = u110
  generalize u 111 = u111
  generalize u 112 = u112
  generalize u 113 = u113
  generalize u 114 = u114
  generalize u 115 = u115
  generalize u 116 = u116
  generalize u 117 = u117
  generalize u 118 = u118
  generalize u 119 = u119
  generalize u 120 = u120
  generalize u 121 = u121
  generalize u 122 = u122
  generalize u 123 = u123
  generalize u 124 = u124
  generalize u 125 = u125
  generalize u 126 = u126
  clear u
  have HE := hide hE
  clear hE
  go_wp2_with fail
  refine HE.out.mono ?_
  rintro e w1 ⟨rfl, b1⟩
  have B1 := hide b1
  clear b1 HE
  go_wp2
  exact HQ.out _ _ ⟨rfl, rfl, rfl, rfl, rfl, rfl, rfl, rfl, rfl, rfl, rfl, rfl⟩ B1.out
set_option maxHeartbeats 8000000 in
set_option maxRecDepth 100000 in
theorem uh_r2 {K : Act → World → Prop} {c : Code} (hc : regOf (Try.f4.body.getD .skip) 2 = some c) (a : Act) {v : Vuh} {wq : World} {d : Nat} {m : MB} {R : Value → Int → World → Prop} (hF : Fuh a v) (h3v : v.v3 = .pointer (some ⟨d, 0, none⟩)) (hD : wq.heap[d]? = some (.cells #[.int .i64 m.node, .int .i64 m.life] tMember (0, 0))) (hE : Calls Try.prog 7 #[m.v] wq fun e w' => ∃ p z, e = .returned (.tuple #[p, .int .i64 z]) ∧ R p z w')
    (hQ : ∀ a' w' p z, Fuh a' { v with v8 := p, v9 := .int .i64 z } → R p z w' → K a' w') :
    Code.wp Try.prog c (Exit.then K fun _ _ _ => False) a wq := by
  have HQ := hide hQ
  clear hQ
  obtain ⟨t', d'⟩ := a
  obtain ⟨v2, v3, v4, v6, v7, v8, v9, v10, v11, v12⟩ := v
  simp only at h3v HQ
  subst h3v
  obtain ⟨hs1, hd1, q2, q3, q4, q6, q7, q8, q9, q10, q11, q12⟩ := hF
  obtain ⟨u, hu⟩ := frame_uh t' hs1
  simp only at hd1 q2 q3 q4 q6 q7 q8 q9 q10 q11 q12
  subst hu hd1
  have e2 : u 2 = v2 := q2
  have e3 : u 3 = .pointer (some ⟨d, 0, none⟩) := q3
  have e4 : u 4 = v4 := q4
  have e6 : u 6 = v6 := q6
  have e7 : u 7 = v7 := q7
  have e8 : u 8 = v8 := q8
  have e9 : u 9 = v9 := q9
  have e10 : u 10 = v10 := q10
  have e11 : u 11 = v11 := q11
  have e12 : u 12 = v12 := q12
  rw [e2, e3, e4, e6, e7, e8, e9, e10, e11, e12]
  clear q2 e2 q3 e3 q4 e4 q6 e6 q7 e7 q8 e8 q9 e9 q10 e10 q11 e11 q12 e12 hs1
  simp only [Try.f4, Option.getD_some, regOf] at hc
  injection hc with hc
  subst hc
  generalize u 0 = u0
  generalize u 1 = u1
  generalize u 5 = u5
  generalize u 13 = u13
  generalize u 14 = u14
  generalize u 15 = u15
  generalize u 16 = u16
  generalize u 17 = u17
  generalize u 18 = u18
  generalize u 19 = u19
  generalize u 20 = u20
  generalize u 21 = u21
  generalize u 22 = u22
  generalize u 23 = u23
  generalize u 24 = u24
  generalize u 25 = u25
  generalize u 26 = u26
  generalize u 27 = u27
  generalize u 28 = u28
  generalize u 29 = u29
  generalize u 30 = u30
  generalize u 31 = u31
  generalize u 32 = u32
  generalize u 33 = u33
  generalize u 34 = u34
  generalize u 35 = u35
  generalize u 36 = u36
  generalize u 37 = u37
  generalize u 38 = u38
  generalize u 39 = u39
  generalize u 40 = u40
  generalize u 41 = u41
  generalize u 42 = u42
  generalize u 43 = u43
  generalize u 44 = u44
  generalize u 45 = u45
  generalize u 46 = u46
  generalize u 47 = u47
  generalize u 48 = u48
  generalize u 49 = u49
  generalize u 50 = u50
  generalize u 51 = u51
  generalize u 52 = u52
  generalize u 53 = u53
  generalize u 54 = u54
  generalize u 55 = u55
  generalize u 56 = u56
  generalize u 57 = u57
  generalize u 58 = u58
  generalize u 59 = u59
  generalize u 60 = u60
  generalize u 61 = u61
  generalize u 62 = u62
  generalize u 63 = u63
  generalize u 64 = u64
  generalize u 65 = u65
  generalize u 66 = u66
  generalize u 67 = u67
  generalize u 68 = u68
  generalize u 69 = u69
  generalize u 70 = u70
  generalize u 71 = u71
  generalize u 72 = u72
  generalize u 73 = u73
  generalize u 74 = u74
  generalize u 75 = u75
  generalize u 76 = u76
  generalize u 77 = u77
  generalize u 78 = u78
  generalize u 79 = u79
  generalize u 80 = u80
  generalize u 81 = u81
  generalize u 82 = u82
  generalize u 83 = u83
  generalize u 84 = u84
  generalize u 85 = u85
  generalize u 86 = u86
  generalize u 87 = u87
  generalize u 88 = u88
  generalize u 89 = u89
  generalize u 90 = u90
  generalize u 91 = u91
  generalize u 92 = u92
  generalize u 93 = u93
  generalize u 94 = u94
  generalize u 95 = u95
  generalize u 96 = u96
  generalize u 97 = u97
  generalize u 98 = u98
  generalize u 99 = u99
  generalize u 100 = u100
  generalize u 101 = u101
  generalize u 102 = u102
  generalize u 103 = u103
  generalize u 104 = u104
  generalize u 105 = u105
  generalize u 106 = u106
  generalize u 107 = u107
  generalize u 108 = u108
  generalize u 109 = u109
  generalize u 110 = u110
  generalize u 111 = u111
  generalize u 112 = u112
  generalize u 113 = u113
  generalize u 114 = u114
  generalize u 115 = u115
  generalize u 116 = u116
  generalize u 117 = u117
  generalize u 118 = u118
  generalize u 119 = u119
  generalize u 120 = u120
  generalize u 121 = u121
  generalize u 122 = u122
  generalize u 123 = u123
  generalize u 124 = u124
  generalize u 125 = u125
  generalize u 126 = u126
  clear u
  have HE := hide hE
  clear hE
  have c0 := box_cell hD 0 rfl
  have c1 := box_cell hD 1 rfl
  clear hD
  unfold MB.v at HE
  go_wp2_with fail
  refine HE.out.mono ?_
  rintro e w1 ⟨p, z, rfl, r1⟩
  have R1 := hide r1
  clear r1 HE
  go_wp2
  exact HQ.out _ _ p z ⟨rfl, rfl, rfl, rfl, rfl, rfl, rfl, rfl, rfl, rfl, rfl, rfl⟩ R1.out
set_option maxHeartbeats 8000000 in
set_option maxRecDepth 100000 in
theorem uh_r3n {K : Act → World → Prop} {c : Code} (hc : regOf (Try.f4.body.getD .skip) 3 = some c) (a : Act) {v : Vuh} {wq : World}  (hF : Fuh a v) (h9v : v.v9 = .int .i64 1) (hQ : ∀ a', Fuh a' v → a'.tmps.getD 24 undef = .bool true → K a' wq) :
    Code.wp Try.prog c (Exit.then K fun _ _ _ => False) a wq := by
  have HQ := hide hQ
  clear hQ
  obtain ⟨t', d'⟩ := a
  obtain ⟨v2, v3, v4, v6, v7, v8, v9, v10, v11, v12⟩ := v
  simp only at h9v HQ
  subst h9v
  obtain ⟨hs1, hd1, q2, q3, q4, q6, q7, q8, q9, q10, q11, q12⟩ := hF
  obtain ⟨u, hu⟩ := frame_uh t' hs1
  simp only at hd1 q2 q3 q4 q6 q7 q8 q9 q10 q11 q12
  subst hu hd1
  have e2 : u 2 = v2 := q2
  have e3 : u 3 = v3 := q3
  have e4 : u 4 = v4 := q4
  have e6 : u 6 = v6 := q6
  have e7 : u 7 = v7 := q7
  have e8 : u 8 = v8 := q8
  have e9 : u 9 = .int .i64 1 := q9
  have e10 : u 10 = v10 := q10
  have e11 : u 11 = v11 := q11
  have e12 : u 12 = v12 := q12
  rw [e2, e3, e4, e6, e7, e8, e9, e10, e11, e12]
  clear q2 e2 q3 e3 q4 e4 q6 e6 q7 e7 q8 e8 q9 e9 q10 e10 q11 e11 q12 e12 hs1
  simp only [Try.f4, Option.getD_some, regOf] at hc
  injection hc with hc
  subst hc
  generalize u 0 = u0
  generalize u 1 = u1
  generalize u 5 = u5
  generalize u 13 = u13
  generalize u 14 = u14
  generalize u 15 = u15
  generalize u 16 = u16
  generalize u 17 = u17
  generalize u 18 = u18
  generalize u 19 = u19
  generalize u 20 = u20
  generalize u 21 = u21
  generalize u 22 = u22
  generalize u 23 = u23
  generalize u 24 = u24
  generalize u 25 = u25
  generalize u 26 = u26
  generalize u 27 = u27
  generalize u 28 = u28
  generalize u 29 = u29
  generalize u 30 = u30
  generalize u 31 = u31
  generalize u 32 = u32
  generalize u 33 = u33
  generalize u 34 = u34
  generalize u 35 = u35
  generalize u 36 = u36
  generalize u 37 = u37
  generalize u 38 = u38
  generalize u 39 = u39
  generalize u 40 = u40
  generalize u 41 = u41
  generalize u 42 = u42
  generalize u 43 = u43
  generalize u 44 = u44
  generalize u 45 = u45
  generalize u 46 = u46
  generalize u 47 = u47
  generalize u 48 = u48
  generalize u 49 = u49
  generalize u 50 = u50
  generalize u 51 = u51
  generalize u 52 = u52
  generalize u 53 = u53
  generalize u 54 = u54
  generalize u 55 = u55
  generalize u 56 = u56
  generalize u 57 = u57
  generalize u 58 = u58
  generalize u 59 = u59
  generalize u 60 = u60
  generalize u 61 = u61
  generalize u 62 = u62
  generalize u 63 = u63
  generalize u 64 = u64
  generalize u 65 = u65
  generalize u 66 = u66
  generalize u 67 = u67
  generalize u 68 = u68
  generalize u 69 = u69
  generalize u 70 = u70
  generalize u 71 = u71
  generalize u 72 = u72
  generalize u 73 = u73
  generalize u 74 = u74
  generalize u 75 = u75
  generalize u 76 = u76
  generalize u 77 = u77
  generalize u 78 = u78
  generalize u 79 = u79
  generalize u 80 = u80
  generalize u 81 = u81
  generalize u 82 = u82
  generalize u 83 = u83
  generalize u 84 = u84
  generalize u 85 = u85
  generalize u 86 = u86
  generalize u 87 = u87
  generalize u 88 = u88
  generalize u 89 = u89
  generalize u 90 = u90
  generalize u 91 = u91
  generalize u 92 = u92
  generalize u 93 = u93
  generalize u 94 = u94
  generalize u 95 = u95
  generalize u 96 = u96
  generalize u 97 = u97
  generalize u 98 = u98
  generalize u 99 = u99
  generalize u 100 = u100
  generalize u 101 = u101
  generalize u 102 = u102
  generalize u 103 = u103
  generalize u 104 = u104
  generalize u 105 = u105
  generalize u 106 = u106
  generalize u 107 = u107
  generalize u 108 = u108
  generalize u 109 = u109
  generalize u 110 = u110
  generalize u 111 = u111
  generalize u 112 = u112
  generalize u 113 = u113
  generalize u 114 = u114
  generalize u 115 = u115
  generalize u 116 = u116
  generalize u 117 = u117
  generalize u 118 = u118
  generalize u 119 = u119
  generalize u 120 = u120
  generalize u 121 = u121
  generalize u 122 = u122
  generalize u 123 = u123
  generalize u 124 = u124
  generalize u 125 = u125
  generalize u 126 = u126
  clear u
  go_wp2
  exact HQ.out _ ⟨rfl, rfl, rfl, rfl, rfl, rfl, rfl, rfl, rfl, rfl, rfl, rfl⟩ (by simp)
set_option maxHeartbeats 8000000 in
set_option maxRecDepth 100000 in
theorem uh_r3 {K : Act → World → Prop} {c : Code} (hc : regOf (Try.f4.body.getD .skip) 3 = some c) (a : Act) {v : Vuh} {wq : World} {ad : Addr} (hF : Fuh a v) (h8v : v.v8 = .pointer (some ad)) (h9v : v.v9 = .int .i64 0) (hQ : ∀ a', Fuh a' v → a'.tmps.getD 24 undef = .bool false → K a' wq) :
    Code.wp Try.prog c (Exit.then K fun _ _ _ => False) a wq := by
  have HQ := hide hQ
  clear hQ
  obtain ⟨t', d'⟩ := a
  obtain ⟨v2, v3, v4, v6, v7, v8, v9, v10, v11, v12⟩ := v
  simp only at h8v h9v HQ
  subst h8v h9v
  obtain ⟨hs1, hd1, q2, q3, q4, q6, q7, q8, q9, q10, q11, q12⟩ := hF
  obtain ⟨u, hu⟩ := frame_uh t' hs1
  simp only at hd1 q2 q3 q4 q6 q7 q8 q9 q10 q11 q12
  subst hu hd1
  have e2 : u 2 = v2 := q2
  have e3 : u 3 = v3 := q3
  have e4 : u 4 = v4 := q4
  have e6 : u 6 = v6 := q6
  have e7 : u 7 = v7 := q7
  have e8 : u 8 = .pointer (some ad) := q8
  have e9 : u 9 = .int .i64 0 := q9
  have e10 : u 10 = v10 := q10
  have e11 : u 11 = v11 := q11
  have e12 : u 12 = v12 := q12
  rw [e2, e3, e4, e6, e7, e8, e9, e10, e11, e12]
  clear q2 e2 q3 e3 q4 e4 q6 e6 q7 e7 q8 e8 q9 e9 q10 e10 q11 e11 q12 e12 hs1
  simp only [Try.f4, Option.getD_some, regOf] at hc
  injection hc with hc
  subst hc
  generalize u 0 = u0
  generalize u 1 = u1
  generalize u 5 = u5
  generalize u 13 = u13
  generalize u 14 = u14
  generalize u 15 = u15
  generalize u 16 = u16
  generalize u 17 = u17
  generalize u 18 = u18
  generalize u 19 = u19
  generalize u 20 = u20
  generalize u 21 = u21
  generalize u 22 = u22
  generalize u 23 = u23
  generalize u 24 = u24
  generalize u 25 = u25
  generalize u 26 = u26
  generalize u 27 = u27
  generalize u 28 = u28
  generalize u 29 = u29
  generalize u 30 = u30
  generalize u 31 = u31
  generalize u 32 = u32
  generalize u 33 = u33
  generalize u 34 = u34
  generalize u 35 = u35
  generalize u 36 = u36
  generalize u 37 = u37
  generalize u 38 = u38
  generalize u 39 = u39
  generalize u 40 = u40
  generalize u 41 = u41
  generalize u 42 = u42
  generalize u 43 = u43
  generalize u 44 = u44
  generalize u 45 = u45
  generalize u 46 = u46
  generalize u 47 = u47
  generalize u 48 = u48
  generalize u 49 = u49
  generalize u 50 = u50
  generalize u 51 = u51
  generalize u 52 = u52
  generalize u 53 = u53
  generalize u 54 = u54
  generalize u 55 = u55
  generalize u 56 = u56
  generalize u 57 = u57
  generalize u 58 = u58
  generalize u 59 = u59
  generalize u 60 = u60
  generalize u 61 = u61
  generalize u 62 = u62
  generalize u 63 = u63
  generalize u 64 = u64
  generalize u 65 = u65
  generalize u 66 = u66
  generalize u 67 = u67
  generalize u 68 = u68
  generalize u 69 = u69
  generalize u 70 = u70
  generalize u 71 = u71
  generalize u 72 = u72
  generalize u 73 = u73
  generalize u 74 = u74
  generalize u 75 = u75
  generalize u 76 = u76
  generalize u 77 = u77
  generalize u 78 = u78
  generalize u 79 = u79
  generalize u 80 = u80
  generalize u 81 = u81
  generalize u 82 = u82
  generalize u 83 = u83
  generalize u 84 = u84
  generalize u 85 = u85
  generalize u 86 = u86
  generalize u 87 = u87
  generalize u 88 = u88
  generalize u 89 = u89
  generalize u 90 = u90
  generalize u 91 = u91
  generalize u 92 = u92
  generalize u 93 = u93
  generalize u 94 = u94
  generalize u 95 = u95
  generalize u 96 = u96
  generalize u 97 = u97
  generalize u 98 = u98
  generalize u 99 = u99
  generalize u 100 = u100
  generalize u 101 = u101
  generalize u 102 = u102
  generalize u 103 = u103
  generalize u 104 = u104
  generalize u 105 = u105
  generalize u 106 = u106
  generalize u 107 = u107
  generalize u 108 = u108
  generalize u 109 = u109
  generalize u 110 = u110
  generalize u 111 = u111
  generalize u 112 = u112
  generalize u 113 = u113
  generalize u 114 = u114
  generalize u 115 = u115
  generalize u 116 = u116
  generalize u 117 = u117
  generalize u 118 = u118
  generalize u 119 = u119
  generalize u 120 = u120
  generalize u 121 = u121
  generalize u 122 = u122
  generalize u 123 = u123
  generalize u 124 = u124
  generalize u 125 = u125
  generalize u 126 = u126
  clear u
  go_wp2
  exact HQ.out _ ⟨rfl, rfl, rfl, rfl, rfl, rfl, rfl, rfl, rfl, rfl, rfl, rfl⟩ (by simp)
set_option maxHeartbeats 8000000 in
set_option maxRecDepth 100000 in
theorem uh_r4 {K : Act → World → Prop} {c : Code} (hc : regOf (Try.f4.body.getD .skip) 4 = some c) (a : Act) {v : Vuh} {wq : World}  (hF : Fuh a v) (h7v : v.v7 = .bool true) (h8v : v.v8 = .pointer none) (hQ : ∀ a', Fuh a' { v with v6 := .bool true } → K a' wq) :
    Code.wp Try.prog c (Exit.then K fun _ _ _ => False) a wq := by
  have HQ := hide hQ
  clear hQ
  obtain ⟨t', d'⟩ := a
  obtain ⟨v2, v3, v4, v6, v7, v8, v9, v10, v11, v12⟩ := v
  simp only at h7v h8v HQ
  subst h7v h8v
  obtain ⟨hs1, hd1, q2, q3, q4, q6, q7, q8, q9, q10, q11, q12⟩ := hF
  obtain ⟨u, hu⟩ := frame_uh t' hs1
  simp only at hd1 q2 q3 q4 q6 q7 q8 q9 q10 q11 q12
  subst hu hd1
  have e2 : u 2 = v2 := q2
  have e3 : u 3 = v3 := q3
  have e4 : u 4 = v4 := q4
  have e6 : u 6 = v6 := q6
  have e7 : u 7 = .bool true := q7
  have e8 : u 8 = .pointer none := q8
  have e9 : u 9 = v9 := q9
  have e10 : u 10 = v10 := q10
  have e11 : u 11 = v11 := q11
  have e12 : u 12 = v12 := q12
  rw [e2, e3, e4, e6, e7, e8, e9, e10, e11, e12]
  clear q2 e2 q3 e3 q4 e4 q6 e6 q7 e7 q8 e8 q9 e9 q10 e10 q11 e11 q12 e12 hs1
  simp only [Try.f4, Option.getD_some, regOf] at hc
  injection hc with hc
  subst hc
  generalize u 0 = u0
  generalize u 1 = u1
  generalize u 5 = u5
  generalize u 13 = u13
  generalize u 14 = u14
  generalize u 15 = u15
  generalize u 16 = u16
  generalize u 17 = u17
  generalize u 18 = u18
  generalize u 19 = u19
  generalize u 20 = u20
  generalize u 21 = u21
  generalize u 22 = u22
  generalize u 23 = u23
  generalize u 24 = u24
  generalize u 25 = u25
  generalize u 26 = u26
  generalize u 27 = u27
  generalize u 28 = u28
  generalize u 29 = u29
  generalize u 30 = u30
  generalize u 31 = u31
  generalize u 32 = u32
  generalize u 33 = u33
  generalize u 34 = u34
  generalize u 35 = u35
  generalize u 36 = u36
  generalize u 37 = u37
  generalize u 38 = u38
  generalize u 39 = u39
  generalize u 40 = u40
  generalize u 41 = u41
  generalize u 42 = u42
  generalize u 43 = u43
  generalize u 44 = u44
  generalize u 45 = u45
  generalize u 46 = u46
  generalize u 47 = u47
  generalize u 48 = u48
  generalize u 49 = u49
  generalize u 50 = u50
  generalize u 51 = u51
  generalize u 52 = u52
  generalize u 53 = u53
  generalize u 54 = u54
  generalize u 55 = u55
  generalize u 56 = u56
  generalize u 57 = u57
  generalize u 58 = u58
  generalize u 59 = u59
  generalize u 60 = u60
  generalize u 61 = u61
  generalize u 62 = u62
  generalize u 63 = u63
  generalize u 64 = u64
  generalize u 65 = u65
  generalize u 66 = u66
  generalize u 67 = u67
  generalize u 68 = u68
  generalize u 69 = u69
  generalize u 70 = u70
  generalize u 71 = u71
  generalize u 72 = u72
  generalize u 73 = u73
  generalize u 74 = u74
  generalize u 75 = u75
  generalize u 76 = u76
  generalize u 77 = u77
  generalize u 78 = u78
  generalize u 79 = u79
  generalize u 80 = u80
  generalize u 81 = u81
  generalize u 82 = u82
  generalize u 83 = u83
  generalize u 84 = u84
  generalize u 85 = u85
  generalize u 86 = u86
  generalize u 87 = u87
  generalize u 88 = u88
  generalize u 89 = u89
  generalize u 90 = u90
  generalize u 91 = u91
  generalize u 92 = u92
  generalize u 93 = u93
  generalize u 94 = u94
  generalize u 95 = u95
  generalize u 96 = u96
  generalize u 97 = u97
  generalize u 98 = u98
  generalize u 99 = u99
  generalize u 100 = u100
  generalize u 101 = u101
  generalize u 102 = u102
  generalize u 103 = u103
  generalize u 104 = u104
  generalize u 105 = u105
  generalize u 106 = u106
  generalize u 107 = u107
  generalize u 108 = u108
  generalize u 109 = u109
  generalize u 110 = u110
  generalize u 111 = u111
  generalize u 112 = u112
  generalize u 113 = u113
  generalize u 114 = u114
  generalize u 115 = u115
  generalize u 116 = u116
  generalize u 117 = u117
  generalize u 118 = u118
  generalize u 119 = u119
  generalize u 120 = u120
  generalize u 121 = u121
  generalize u 122 = u122
  generalize u 123 = u123
  generalize u 124 = u124
  generalize u 125 = u125
  generalize u 126 = u126
  clear u
  go_wp2
  exact HQ.out _ ⟨rfl, rfl, rfl, rfl, rfl, (by simp), rfl, rfl, rfl, rfl, rfl, rfl⟩
set_option maxHeartbeats 8000000 in
set_option maxRecDepth 100000 in
theorem uh_r5 {K : Act → World → Prop} {c : Code} (hc : regOf (Try.f4.body.getD .skip) 5 = some c) (a : Act) {v : Vuh} {wq : World} {d2 : Nat} {o : MB} {ad : Addr} {r : Bool} {R : World → Prop} (hF : Fuh a v) (h4v : v.v4 = .pointer (some ⟨d2, 0, none⟩)) (h8v : v.v8 = .pointer (some ad)) (hD2 : wq.heap[d2]? = some (.cells #[.int .i64 o.node, .int .i64 o.life] tMember (0, 0))) (hE : Calls Try.prog 11 #[.pointer (some ad), o.v] wq fun e w' => e = .returned (.bool r) ∧ R w')
    (hQ : ∀ a' w' , Fuh a' v → a'.tmps.getD 33 undef = .bool (!r) → R w' → K a' w') :
    Code.wp Try.prog c (Exit.then K fun _ _ _ => False) a wq := by
  have HQ := hide hQ
  clear hQ
  obtain ⟨t', d'⟩ := a
  obtain ⟨v2, v3, v4, v6, v7, v8, v9, v10, v11, v12⟩ := v
  simp only at h4v h8v HQ
  subst h4v h8v
  obtain ⟨hs1, hd1, q2, q3, q4, q6, q7, q8, q9, q10, q11, q12⟩ := hF
  obtain ⟨u, hu⟩ := frame_uh t' hs1
  simp only at hd1 q2 q3 q4 q6 q7 q8 q9 q10 q11 q12
  subst hu hd1
  have e2 : u 2 = v2 := q2
  have e3 : u 3 = v3 := q3
  have e4 : u 4 = .pointer (some ⟨d2, 0, none⟩) := q4
  have e6 : u 6 = v6 := q6
  have e7 : u 7 = v7 := q7
  have e8 : u 8 = .pointer (some ad) := q8
  have e9 : u 9 = v9 := q9
  have e10 : u 10 = v10 := q10
  have e11 : u 11 = v11 := q11
  have e12 : u 12 = v12 := q12
  rw [e2, e3, e4, e6, e7, e8, e9, e10, e11, e12]
  clear q2 e2 q3 e3 q4 e4 q6 e6 q7 e7 q8 e8 q9 e9 q10 e10 q11 e11 q12 e12 hs1
  simp only [Try.f4, Option.getD_some, regOf] at hc
  injection hc with hc
  subst hc
  generalize u 0 = u0
  generalize u 1 = u1
  generalize u 5 = u5
  generalize u 13 = u13
  generalize u 14 = u14
  generalize u 15 = u15
  generalize u 16 = u16
  generalize u 17 = u17
  generalize u 18 = u18
  generalize u 19 = u19
  generalize u 20 = u20
  generalize u 21 = u21
  generalize u 22 = u22
  generalize u 23 = u23
  generalize u 24 = u24
  generalize u 25 = u25
  generalize u 26 = u26
  generalize u 27 = u27
  generalize u 28 = u28
  generalize u 29 = u29
  generalize u 30 = u30
  generalize u 31 = u31
  generalize u 32 = u32
  generalize u 33 = u33
  generalize u 34 = u34
  generalize u 35 = u35
  generalize u 36 = u36
  generalize u 37 = u37
  generalize u 38 = u38
  generalize u 39 = u39
  generalize u 40 = u40
  generalize u 41 = u41
  generalize u 42 = u42
  generalize u 43 = u43
  generalize u 44 = u44
  generalize u 45 = u45
  generalize u 46 = u46
  generalize u 47 = u47
  generalize u 48 = u48
  generalize u 49 = u49
  generalize u 50 = u50
  generalize u 51 = u51
  generalize u 52 = u52
  generalize u 53 = u53
  generalize u 54 = u54
  generalize u 55 = u55
  generalize u 56 = u56
  generalize u 57 = u57
  generalize u 58 = u58
  generalize u 59 = u59
  generalize u 60 = u60
  generalize u 61 = u61
  generalize u 62 = u62
  generalize u 63 = u63
  generalize u 64 = u64
  generalize u 65 = u65
  generalize u 66 = u66
  generalize u 67 = u67
  generalize u 68 = u68
  generalize u 69 = u69
  generalize u 70 = u70
  generalize u 71 = u71
  generalize u 72 = u72
  generalize u 73 = u73
  generalize u 74 = u74
  generalize u 75 = u75
  generalize u 76 = u76
  generalize u 77 = u77
  generalize u 78 = u78
  generalize u 79 = u79
  generalize u 80 = u80
  generalize u 81 = u81
  generalize u 82 = u82
  generalize u 83 = u83
  generalize u 84 = u84
  generalize u 85 = u85
  generalize u 86 = u86
  generalize u 87 = u87
  generalize u 88 = u88
  generalize u 89 = u89
  generalize u 90 = u90
  generalize u 91 = u91
  generalize u 92 = u92
  generalize u 93 = u93
  generalize u 94 = u94
  generalize u 95 = u95
  generalize u 96 = u96
  generalize u 97 = u97
  generalize u 98 = u98
  generalize u 99 = u99
  generalize u 100 = u100
  generalize u 101 = u101
  generalize u 102 = u102
  generalize u 103 = u103
  generalize u 104 = u104
  generalize u 105 = u105
  generalize u 106 = u106
  generalize u 107 = u107
  generalize u 108 = u108
  generalize u 109 = u109
  generalize u 110 = u110
  generalize u 111 = u111
  generalize u 112 = u112
  generalize u 113 = u113
  generalize u 114 = u114
  generalize u 115 = u115
  generalize u 116 = u116
  generalize u 117 = u117
  generalize u 118 = u118
  generalize u 119 = u119
  generalize u 120 = u120
  generalize u 121 = u121
  generalize u 122 = u122
  generalize u 123 = u123
  generalize u 124 = u124
  generalize u 125 = u125
  generalize u 126 = u126
  clear u
  have HE := hide hE
  clear hE
  have e0 := box_cell hD2 0 rfl
  have e1 := box_cell hD2 1 rfl
  clear hD2
  unfold MB.v at HE
  go_wp2_with fail
  refine HE.out.mono ?_
  rintro e w1 ⟨rfl, r1⟩
  have R1 := hide r1
  clear r1 HE
  go_wp2
  exact HQ.out _ _ ⟨rfl, rfl, rfl, rfl, rfl, rfl, rfl, rfl, rfl, rfl, rfl, rfl⟩ (by simp) R1.out
set_option maxHeartbeats 8000000 in
set_option maxRecDepth 100000 in
theorem uh_r6 {K : Act → World → Prop} {c : Code} (hc : regOf (Try.f4.body.getD .skip) 6 = some c) (a : Act) {v : Vuh} {wq : World} {d2 : Nat} {o : MB} {ad : Addr} {R : World → Prop} (hF : Fuh a v) (h4v : v.v4 = .pointer (some ⟨d2, 0, none⟩)) (h7v : v.v7 = .bool true) (h8v : v.v8 = .pointer (some ad)) (hD2 : wq.heap[d2]? = some (.cells #[.int .i64 o.node, .int .i64 o.life] tMember (0, 0))) (hE : Calls Try.prog 15 #[.pointer (some ad), o.v] wq fun e w' => e = .returned (.bool false) ∧ R w')
    (hQ : ∀ a' w' , Fuh a' { v with v6 := .bool true } → R w' → K a' w') :
    Code.wp Try.prog c (Exit.then K fun _ _ _ => False) a wq := by
  have HQ := hide hQ
  clear hQ
  obtain ⟨t', d'⟩ := a
  obtain ⟨v2, v3, v4, v6, v7, v8, v9, v10, v11, v12⟩ := v
  simp only at h4v h7v h8v HQ
  subst h4v h7v h8v
  obtain ⟨hs1, hd1, q2, q3, q4, q6, q7, q8, q9, q10, q11, q12⟩ := hF
  obtain ⟨u, hu⟩ := frame_uh t' hs1
  simp only at hd1 q2 q3 q4 q6 q7 q8 q9 q10 q11 q12
  subst hu hd1
  have e2 : u 2 = v2 := q2
  have e3 : u 3 = v3 := q3
  have e4 : u 4 = .pointer (some ⟨d2, 0, none⟩) := q4
  have e6 : u 6 = v6 := q6
  have e7 : u 7 = .bool true := q7
  have e8 : u 8 = .pointer (some ad) := q8
  have e9 : u 9 = v9 := q9
  have e10 : u 10 = v10 := q10
  have e11 : u 11 = v11 := q11
  have e12 : u 12 = v12 := q12
  rw [e2, e3, e4, e6, e7, e8, e9, e10, e11, e12]
  clear q2 e2 q3 e3 q4 e4 q6 e6 q7 e7 q8 e8 q9 e9 q10 e10 q11 e11 q12 e12 hs1
  simp only [Try.f4, Option.getD_some, regOf] at hc
  injection hc with hc
  subst hc
  generalize u 0 = u0
  generalize u 1 = u1
  generalize u 5 = u5
  generalize u 13 = u13
  generalize u 14 = u14
  generalize u 15 = u15
  generalize u 16 = u16
  generalize u 17 = u17
  generalize u 18 = u18
  generalize u 19 = u19
  generalize u 20 = u20
  generalize u 21 = u21
  generalize u 22 = u22
  generalize u 23 = u23
  generalize u 24 = u24
  generalize u 25 = u25
  generalize u 26 = u26
  generalize u 27 = u27
  generalize u 28 = u28
  generalize u 29 = u29
  generalize u 30 = u30
  generalize u 31 = u31
  generalize u 32 = u32
  generalize u 33 = u33
  generalize u 34 = u34
  generalize u 35 = u35
  generalize u 36 = u36
  generalize u 37 = u37
  generalize u 38 = u38
  generalize u 39 = u39
  generalize u 40 = u40
  generalize u 41 = u41
  generalize u 42 = u42
  generalize u 43 = u43
  generalize u 44 = u44
  generalize u 45 = u45
  generalize u 46 = u46
  generalize u 47 = u47
  generalize u 48 = u48
  generalize u 49 = u49
  generalize u 50 = u50
  generalize u 51 = u51
  generalize u 52 = u52
  generalize u 53 = u53
  generalize u 54 = u54
  generalize u 55 = u55
  generalize u 56 = u56
  generalize u 57 = u57
  generalize u 58 = u58
  generalize u 59 = u59
  generalize u 60 = u60
  generalize u 61 = u61
  generalize u 62 = u62
  generalize u 63 = u63
  generalize u 64 = u64
  generalize u 65 = u65
  generalize u 66 = u66
  generalize u 67 = u67
  generalize u 68 = u68
  generalize u 69 = u69
  generalize u 70 = u70
  generalize u 71 = u71
  generalize u 72 = u72
  generalize u 73 = u73
  generalize u 74 = u74
  generalize u 75 = u75
  generalize u 76 = u76
  generalize u 77 = u77
  generalize u 78 = u78
  generalize u 79 = u79
  generalize u 80 = u80
  generalize u 81 = u81
  generalize u 82 = u82
  generalize u 83 = u83
  generalize u 84 = u84
  generalize u 85 = u85
  generalize u 86 = u86
  generalize u 87 = u87
  generalize u 88 = u88
  generalize u 89 = u89
  generalize u 90 = u90
  generalize u 91 = u91
  generalize u 92 = u92
  generalize u 93 = u93
  generalize u 94 = u94
  generalize u 95 = u95
  generalize u 96 = u96
  generalize u 97 = u97
  generalize u 98 = u98
  generalize u 99 = u99
  generalize u 100 = u100
  generalize u 101 = u101
  generalize u 102 = u102
  generalize u 103 = u103
  generalize u 104 = u104
  generalize u 105 = u105
  generalize u 106 = u106
  generalize u 107 = u107
  generalize u 108 = u108
  generalize u 109 = u109
  generalize u 110 = u110
  generalize u 111 = u111
  generalize u 112 = u112
  generalize u 113 = u113
  generalize u 114 = u114
  generalize u 115 = u115
  generalize u 116 = u116
  generalize u 117 = u117
  generalize u 118 = u118
  generalize u 119 = u119
  generalize u 120 = u120
  generalize u 121 = u121
  generalize u 122 = u122
  generalize u 123 = u123
  generalize u 124 = u124
  generalize u 125 = u125
  generalize u 126 = u126
  clear u
  have HE := hide hE
  clear hE
  have e0 := box_cell hD2 0 rfl
  have e1 := box_cell hD2 1 rfl
  clear hD2
  unfold MB.v at HE
  go_wp2_with fail
  refine HE.out.mono ?_
  rintro e w1 ⟨rfl, r1⟩
  have R1 := hide r1
  clear r1 HE
  go_wp2
  exact HQ.out _ _ ⟨rfl, rfl, rfl, rfl, rfl, (by simp), rfl, rfl, rfl, rfl, rfl, rfl⟩ R1.out
set_option maxHeartbeats 8000000 in
set_option maxRecDepth 100000 in
theorem uh_r6s {K : Act → World → Prop} {c : Code} (hc : regOf (Try.f4.body.getD .skip) 6 = some c) (a : Act) {v : Vuh} {wq : World} {d d2 : Nat} {m o : MB} {ad : Addr} (hF : Fuh a v) (h3v : v.v3 = .pointer (some ⟨d, 0, none⟩)) (h4v : v.v4 = .pointer (some ⟨d2, 0, none⟩)) (h7v : v.v7 = .bool true) (h8v : v.v8 = .pointer (some ad)) (hD : wq.heap[d]? = some (.cells #[.int .i64 m.node, .int .i64 m.life] tMember (0, 0))) (hD2 : wq.heap[d2]? = some (.cells #[.int .i64 o.node, .int .i64 o.life] tMember (0, 0))) (hn : o.node = m.node) (hE : Calls Try.prog 15 #[.pointer (some ad), o.v] wq fun e w' => e = .returned (.bool true) ∧ Below wq.heap.size wq w')
    (hQ : ∀ a' w', Fuh a' { v with v6 := .bool true } → Below wq.heap.size wq w' → K a' w') :
    Code.wp Try.prog c (Exit.then K fun _ _ _ => False) a wq := by
  have HQ := hide hQ
  clear hQ
  obtain ⟨t', d'⟩ := a
  obtain ⟨v2, v3, v4, v6, v7, v8, v9, v10, v11, v12⟩ := v
  simp only at h3v h4v h7v h8v HQ
  subst h3v h4v h7v h8v
  obtain ⟨hs1, hd1, q2, q3, q4, q6, q7, q8, q9, q10, q11, q12⟩ := hF
  obtain ⟨u, hu⟩ := frame_uh t' hs1
  simp only at hd1 q2 q3 q4 q6 q7 q8 q9 q10 q11 q12
  subst hu hd1
  have e2 : u 2 = v2 := q2
  have e3 : u 3 = .pointer (some ⟨d, 0, none⟩) := q3
  have e4 : u 4 = .pointer (some ⟨d2, 0, none⟩) := q4
  have e6 : u 6 = v6 := q6
  have e7 : u 7 = .bool true := q7
  have e8 : u 8 = .pointer (some ad) := q8
  have e9 : u 9 = v9 := q9
  have e10 : u 10 = v10 := q10
  have e11 : u 11 = v11 := q11
  have e12 : u 12 = v12 := q12
  rw [e2, e3, e4, e6, e7, e8, e9, e10, e11, e12]
  clear q2 e2 q3 e3 q4 e4 q6 e6 q7 e7 q8 e8 q9 e9 q10 e10 q11 e11 q12 e12 hs1
  simp only [Try.f4, Option.getD_some, regOf] at hc
  injection hc with hc
  subst hc
  generalize u 0 = u0
  generalize u 1 = u1
  generalize u 5 = u5
  generalize u 13 = u13
  generalize u 14 = u14
  generalize u 15 = u15
  generalize u 16 = u16
  generalize u 17 = u17
  generalize u 18 = u18
  generalize u 19 = u19
  generalize u 20 = u20
  generalize u 21 = u21
  generalize u 22 = u22
  generalize u 23 = u23
  generalize u 24 = u24
  generalize u 25 = u25
  generalize u 26 = u26
  generalize u 27 = u27
  generalize u 28 = u28
  generalize u 29 = u29
  generalize u 30 = u30
  generalize u 31 = u31
  generalize u 32 = u32
  generalize u 33 = u33
  generalize u 34 = u34
  generalize u 35 = u35
  generalize u 36 = u36
  generalize u 37 = u37
  generalize u 38 = u38
  generalize u 39 = u39
  generalize u 40 = u40
  generalize u 41 = u41
  generalize u 42 = u42
  generalize u 43 = u43
  generalize u 44 = u44
  generalize u 45 = u45
  generalize u 46 = u46
  generalize u 47 = u47
  generalize u 48 = u48
  generalize u 49 = u49
  generalize u 50 = u50
  generalize u 51 = u51
  generalize u 52 = u52
  generalize u 53 = u53
  generalize u 54 = u54
  generalize u 55 = u55
  generalize u 56 = u56
  generalize u 57 = u57
  generalize u 58 = u58
  generalize u 59 = u59
  generalize u 60 = u60
  generalize u 61 = u61
  generalize u 62 = u62
  generalize u 63 = u63
  generalize u 64 = u64
  generalize u 65 = u65
  generalize u 66 = u66
  generalize u 67 = u67
  generalize u 68 = u68
  generalize u 69 = u69
  generalize u 70 = u70
  generalize u 71 = u71
  generalize u 72 = u72
  generalize u 73 = u73
  generalize u 74 = u74
  generalize u 75 = u75
  generalize u 76 = u76
  generalize u 77 = u77
  generalize u 78 = u78
  generalize u 79 = u79
  generalize u 80 = u80
  generalize u 81 = u81
  generalize u 82 = u82
  generalize u 83 = u83
  generalize u 84 = u84
  generalize u 85 = u85
  generalize u 86 = u86
  generalize u 87 = u87
  generalize u 88 = u88
  generalize u 89 = u89
  generalize u 90 = u90
  generalize u 91 = u91
  generalize u 92 = u92
  generalize u 93 = u93
  generalize u 94 = u94
  generalize u 95 = u95
  generalize u 96 = u96
  generalize u 97 = u97
  generalize u 98 = u98
  generalize u 99 = u99
  generalize u 100 = u100
  generalize u 101 = u101
  generalize u 102 = u102
  generalize u 103 = u103
  generalize u 104 = u104
  generalize u 105 = u105
  generalize u 106 = u106
  generalize u 107 = u107
  generalize u 108 = u108
  generalize u 109 = u109
  generalize u 110 = u110
  generalize u 111 = u111
  generalize u 112 = u112
  generalize u 113 = u113
  generalize u 114 = u114
  generalize u 115 = u115
  generalize u 116 = u116
  generalize u 117 = u117
  generalize u 118 = u118
  generalize u 119 = u119
  generalize u 120 = u120
  generalize u 121 = u121
  generalize u 122 = u122
  generalize u 123 = u123
  generalize u 124 = u124
  generalize u 125 = u125
  generalize u 126 = u126
  clear u
  have HE := hide hE
  have HD := hide hD
  have HD2 := hide hD2
  have HN := hide hn
  clear hE hD hn
  have e0 := box_cell hD2 0 rfl
  have e1 := box_cell hD2 1 rfl
  clear hD2
  unfold MB.v at HE
  go_wp2_with fail
  refine HE.out.mono ?_
  rintro e w1 ⟨rfl, b1⟩
  have R1 := hide b1
  have k0 := box_cell ((b1.block _ (heap_lt HD.out)).trans HD.out) 0 rfl
  have l0 := box_cell ((b1.block _ (heap_lt HD2.out)).trans HD2.out) 0 rfl
  clear b1 HE e0 e1
  rw [HN.out] at l0
  go_wp2
  exact HQ.out _ _ ⟨rfl, rfl, rfl, rfl, rfl, (by simp), rfl, rfl, rfl, rfl, rfl, rfl⟩ R1.out
set_option maxHeartbeats 8000000 in
set_option maxRecDepth 100000 in
theorem uh_r7 {K : Act → World → Prop} {c : Code} (hc : regOf (Try.f4.body.getD .skip) 7 = some c) (a : Act) {v : Vuh} {wq : World}  (hF : Fuh a v) (hQ : ∀ a', Fuh a' { v with v10 := .int .i64 ((0 : Nat) : Int) } → K a' wq) :
    Code.wp Try.prog c (Exit.then K fun _ _ _ => False) a wq := by
  have HQ := hide hQ
  clear hQ
  obtain ⟨t', d'⟩ := a
  obtain ⟨v2, v3, v4, v6, v7, v8, v9, v10, v11, v12⟩ := v
  obtain ⟨hs1, hd1, q2, q3, q4, q6, q7, q8, q9, q10, q11, q12⟩ := hF
  obtain ⟨u, hu⟩ := frame_uh t' hs1
  simp only at hd1 q2 q3 q4 q6 q7 q8 q9 q10 q11 q12
  subst hu hd1
  have e2 : u 2 = v2 := q2
  have e3 : u 3 = v3 := q3
  have e4 : u 4 = v4 := q4
  have e6 : u 6 = v6 := q6
  have e7 : u 7 = v7 := q7
  have e8 : u 8 = v8 := q8
  have e9 : u 9 = v9 := q9
  have e10 : u 10 = v10 := q10
  have e11 : u 11 = v11 := q11
  have e12 : u 12 = v12 := q12
  rw [e2, e3, e4, e6, e7, e8, e9, e10, e11, e12]
  clear q2 e2 q3 e3 q4 e4 q6 e6 q7 e7 q8 e8 q9 e9 q10 e10 q11 e11 q12 e12 hs1
  simp only [Try.f4, Option.getD_some, regOf] at hc
  injection hc with hc
  subst hc
  generalize u 0 = u0
  generalize u 1 = u1
  generalize u 5 = u5
  generalize u 13 = u13
  generalize u 14 = u14
  generalize u 15 = u15
  generalize u 16 = u16
  generalize u 17 = u17
  generalize u 18 = u18
  generalize u 19 = u19
  generalize u 20 = u20
  generalize u 21 = u21
  generalize u 22 = u22
  generalize u 23 = u23
  generalize u 24 = u24
  generalize u 25 = u25
  generalize u 26 = u26
  generalize u 27 = u27
  generalize u 28 = u28
  generalize u 29 = u29
  generalize u 30 = u30
  generalize u 31 = u31
  generalize u 32 = u32
  generalize u 33 = u33
  generalize u 34 = u34
  generalize u 35 = u35
  generalize u 36 = u36
  generalize u 37 = u37
  generalize u 38 = u38
  generalize u 39 = u39
  generalize u 40 = u40
  generalize u 41 = u41
  generalize u 42 = u42
  generalize u 43 = u43
  generalize u 44 = u44
  generalize u 45 = u45
  generalize u 46 = u46
  generalize u 47 = u47
  generalize u 48 = u48
  generalize u 49 = u49
  generalize u 50 = u50
  generalize u 51 = u51
  generalize u 52 = u52
  generalize u 53 = u53
  generalize u 54 = u54
  generalize u 55 = u55
  generalize u 56 = u56
  generalize u 57 = u57
  generalize u 58 = u58
  generalize u 59 = u59
  generalize u 60 = u60
  generalize u 61 = u61
  generalize u 62 = u62
  generalize u 63 = u63
  generalize u 64 = u64
  generalize u 65 = u65
  generalize u 66 = u66
  generalize u 67 = u67
  generalize u 68 = u68
  generalize u 69 = u69
  generalize u 70 = u70
  generalize u 71 = u71
  generalize u 72 = u72
  generalize u 73 = u73
  generalize u 74 = u74
  generalize u 75 = u75
  generalize u 76 = u76
  generalize u 77 = u77
  generalize u 78 = u78
  generalize u 79 = u79
  generalize u 80 = u80
  generalize u 81 = u81
  generalize u 82 = u82
  generalize u 83 = u83
  generalize u 84 = u84
  generalize u 85 = u85
  generalize u 86 = u86
  generalize u 87 = u87
  generalize u 88 = u88
  generalize u 89 = u89
  generalize u 90 = u90
  generalize u 91 = u91
  generalize u 92 = u92
  generalize u 93 = u93
  generalize u 94 = u94
  generalize u 95 = u95
  generalize u 96 = u96
  generalize u 97 = u97
  generalize u 98 = u98
  generalize u 99 = u99
  generalize u 100 = u100
  generalize u 101 = u101
  generalize u 102 = u102
  generalize u 103 = u103
  generalize u 104 = u104
  generalize u 105 = u105
  generalize u 106 = u106
  generalize u 107 = u107
  generalize u 108 = u108
  generalize u 109 = u109
  generalize u 110 = u110
  generalize u 111 = u111
  generalize u 112 = u112
  generalize u 113 = u113
  generalize u 114 = u114
  generalize u 115 = u115
  generalize u 116 = u116
  generalize u 117 = u117
  generalize u 118 = u118
  generalize u 119 = u119
  generalize u 120 = u120
  generalize u 121 = u121
  generalize u 122 = u122
  generalize u 123 = u123
  generalize u 124 = u124
  generalize u 125 = u125
  generalize u 126 = u126
  clear u
  go_wp2
  exact HQ.out _ ⟨rfl, rfl, rfl, rfl, rfl, rfl, rfl, rfl, rfl, rfl, rfl, rfl⟩
set_option maxHeartbeats 8000000 in
set_option maxRecDepth 100000 in
theorem uh_r14 {K : Act → World → Prop} {c : Code} (hc : regOf (Try.f4.body.getD .skip) 14 = some c) (a : Act) {v : Vuh} {wq : World}  (hF : Fuh a v) (hQ : ∀ a', Fuh a' { v with v12 := .int .i64 ((0 : Nat) : Int) } → K a' wq) :
    Code.wp Try.prog c (Exit.then K fun _ _ _ => False) a wq := by
  have HQ := hide hQ
  clear hQ
  obtain ⟨t', d'⟩ := a
  obtain ⟨v2, v3, v4, v6, v7, v8, v9, v10, v11, v12⟩ := v
  obtain ⟨hs1, hd1, q2, q3, q4, q6, q7, q8, q9, q10, q11, q12⟩ := hF
  obtain ⟨u, hu⟩ := frame_uh t' hs1
  simp only at hd1 q2 q3 q4 q6 q7 q8 q9 q10 q11 q12
  subst hu hd1
  have e2 : u 2 = v2 := q2
  have e3 : u 3 = v3 := q3
  have e4 : u 4 = v4 := q4
  have e6 : u 6 = v6 := q6
  have e7 : u 7 = v7 := q7
  have e8 : u 8 = v8 := q8
  have e9 : u 9 = v9 := q9
  have e10 : u 10 = v10 := q10
  have e11 : u 11 = v11 := q11
  have e12 : u 12 = v12 := q12
  rw [e2, e3, e4, e6, e7, e8, e9, e10, e11, e12]
  clear q2 e2 q3 e3 q4 e4 q6 e6 q7 e7 q8 e8 q9 e9 q10 e10 q11 e11 q12 e12 hs1
  simp only [Try.f4, Option.getD_some, regOf] at hc
  injection hc with hc
  subst hc
  generalize u 0 = u0
  generalize u 1 = u1
  generalize u 5 = u5
  generalize u 13 = u13
  generalize u 14 = u14
  generalize u 15 = u15
  generalize u 16 = u16
  generalize u 17 = u17
  generalize u 18 = u18
  generalize u 19 = u19
  generalize u 20 = u20
  generalize u 21 = u21
  generalize u 22 = u22
  generalize u 23 = u23
  generalize u 24 = u24
  generalize u 25 = u25
  generalize u 26 = u26
  generalize u 27 = u27
  generalize u 28 = u28
  generalize u 29 = u29
  generalize u 30 = u30
  generalize u 31 = u31
  generalize u 32 = u32
  generalize u 33 = u33
  generalize u 34 = u34
  generalize u 35 = u35
  generalize u 36 = u36
  generalize u 37 = u37
  generalize u 38 = u38
  generalize u 39 = u39
  generalize u 40 = u40
  generalize u 41 = u41
  generalize u 42 = u42
  generalize u 43 = u43
  generalize u 44 = u44
  generalize u 45 = u45
  generalize u 46 = u46
  generalize u 47 = u47
  generalize u 48 = u48
  generalize u 49 = u49
  generalize u 50 = u50
  generalize u 51 = u51
  generalize u 52 = u52
  generalize u 53 = u53
  generalize u 54 = u54
  generalize u 55 = u55
  generalize u 56 = u56
  generalize u 57 = u57
  generalize u 58 = u58
  generalize u 59 = u59
  generalize u 60 = u60
  generalize u 61 = u61
  generalize u 62 = u62
  generalize u 63 = u63
  generalize u 64 = u64
  generalize u 65 = u65
  generalize u 66 = u66
  generalize u 67 = u67
  generalize u 68 = u68
  generalize u 69 = u69
  generalize u 70 = u70
  generalize u 71 = u71
  generalize u 72 = u72
  generalize u 73 = u73
  generalize u 74 = u74
  generalize u 75 = u75
  generalize u 76 = u76
  generalize u 77 = u77
  generalize u 78 = u78
  generalize u 79 = u79
  generalize u 80 = u80
  generalize u 81 = u81
  generalize u 82 = u82
  generalize u 83 = u83
  generalize u 84 = u84
  generalize u 85 = u85
  generalize u 86 = u86
  generalize u 87 = u87
  generalize u 88 = u88
  generalize u 89 = u89
  generalize u 90 = u90
  generalize u 91 = u91
  generalize u 92 = u92
  generalize u 93 = u93
  generalize u 94 = u94
  generalize u 95 = u95
  generalize u 96 = u96
  generalize u 97 = u97
  generalize u 98 = u98
  generalize u 99 = u99
  generalize u 100 = u100
  generalize u 101 = u101
  generalize u 102 = u102
  generalize u 103 = u103
  generalize u 104 = u104
  generalize u 105 = u105
  generalize u 106 = u106
  generalize u 107 = u107
  generalize u 108 = u108
  generalize u 109 = u109
  generalize u 110 = u110
  generalize u 111 = u111
  generalize u 112 = u112
  generalize u 113 = u113
  generalize u 114 = u114
  generalize u 115 = u115
  generalize u 116 = u116
  generalize u 117 = u117
  generalize u 118 = u118
  generalize u 119 = u119
  generalize u 120 = u120
  generalize u 121 = u121
  generalize u 122 = u122
  generalize u 123 = u123
  generalize u 124 = u124
  generalize u 125 = u125
  generalize u 126 = u126
  clear u
  go_wp2
  exact HQ.out _ ⟨rfl, rfl, rfl, rfl, rfl, rfl, rfl, rfl, rfl, rfl, rfl, rfl⟩
set_option maxHeartbeats 8000000 in
set_option maxRecDepth 100000 in
theorem uh_r9 {K : Act → World → Prop} {c : Code} (hc : regOf (Try.f4.body.getD .skip) 9 = some c) (a : Act) {v : Vuh} {wq : World} {i : Nat} (hF : Fuh a v) (h10v : v.v10 = .int .i64 (i : Int)) (hn : i ≤ 4611686018427387904) (hQ : ∀ a', Fuh a' { v with v10 := .int .i64 ((i + 1 : Nat) : Int) } → K a' wq) :
    Code.wp Try.prog c (Exit.then K fun _ _ _ => False) a wq := by
  have HQ := hide hQ
  clear hQ
  obtain ⟨t', d'⟩ := a
  obtain ⟨v2, v3, v4, v6, v7, v8, v9, v10, v11, v12⟩ := v
  simp only at h10v HQ
  subst h10v
  obtain ⟨hs1, hd1, q2, q3, q4, q6, q7, q8, q9, q10, q11, q12⟩ := hF
  obtain ⟨u, hu⟩ := frame_uh t' hs1
  simp only at hd1 q2 q3 q4 q6 q7 q8 q9 q10 q11 q12
  subst hu hd1
  have e2 : u 2 = v2 := q2
  have e3 : u 3 = v3 := q3
  have e4 : u 4 = v4 := q4
  have e6 : u 6 = v6 := q6
  have e7 : u 7 = v7 := q7
  have e8 : u 8 = v8 := q8
  have e9 : u 9 = v9 := q9
  have e10 : u 10 = .int .i64 (i : Int) := q10
  have e11 : u 11 = v11 := q11
  have e12 : u 12 = v12 := q12
  rw [e2, e3, e4, e6, e7, e8, e9, e10, e11, e12]
  clear q2 e2 q3 e3 q4 e4 q6 e6 q7 e7 q8 e8 q9 e9 q10 e10 q11 e11 q12 e12 hs1
  simp only [Try.f4, Option.getD_some, regOf] at hc
  injection hc with hc
  subst hc
  generalize u 0 = u0
  generalize u 1 = u1
  generalize u 5 = u5
  generalize u 13 = u13
  generalize u 14 = u14
  generalize u 15 = u15
  generalize u 16 = u16
  generalize u 17 = u17
  generalize u 18 = u18
  generalize u 19 = u19
  generalize u 20 = u20
  generalize u 21 = u21
  generalize u 22 = u22
  generalize u 23 = u23
  generalize u 24 = u24
  generalize u 25 = u25
  generalize u 26 = u26
  generalize u 27 = u27
  generalize u 28 = u28
  generalize u 29 = u29
  generalize u 30 = u30
  generalize u 31 = u31
  generalize u 32 = u32
  generalize u 33 = u33
  generalize u 34 = u34
  generalize u 35 = u35
  generalize u 36 = u36
  generalize u 37 = u37
  generalize u 38 = u38
  generalize u 39 = u39
  generalize u 40 = u40
  generalize u 41 = u41
  generalize u 42 = u42
  generalize u 43 = u43
  generalize u 44 = u44
  generalize u 45 = u45
  generalize u 46 = u46
  generalize u 47 = u47
  generalize u 48 = u48
  generalize u 49 = u49
  generalize u 50 = u50
  generalize u 51 = u51
  generalize u 52 = u52
  generalize u 53 = u53
  generalize u 54 = u54
  generalize u 55 = u55
  generalize u 56 = u56
  generalize u 57 = u57
  generalize u 58 = u58
  generalize u 59 = u59
  generalize u 60 = u60
  generalize u 61 = u61
  generalize u 62 = u62
  generalize u 63 = u63
  generalize u 64 = u64
  generalize u 65 = u65
  generalize u 66 = u66
  generalize u 67 = u67
  generalize u 68 = u68
  generalize u 69 = u69
  generalize u 70 = u70
  generalize u 71 = u71
  generalize u 72 = u72
  generalize u 73 = u73
  generalize u 74 = u74
  generalize u 75 = u75
  generalize u 76 = u76
  generalize u 77 = u77
  generalize u 78 = u78
  generalize u 79 = u79
  generalize u 80 = u80
  generalize u 81 = u81
  generalize u 82 = u82
  generalize u 83 = u83
  generalize u 84 = u84
  generalize u 85 = u85
  generalize u 86 = u86
  generalize u 87 = u87
  generalize u 88 = u88
  generalize u 89 = u89
  generalize u 90 = u90
  generalize u 91 = u91
  generalize u 92 = u92
  generalize u 93 = u93
  generalize u 94 = u94
  generalize u 95 = u95
  generalize u 96 = u96
  generalize u 97 = u97
  generalize u 98 = u98
  generalize u 99 = u99
  generalize u 100 = u100
  generalize u 101 = u101
  generalize u 102 = u102
  generalize u 103 = u103
  generalize u 104 = u104
  generalize u 105 = u105
  generalize u 106 = u106
  generalize u 107 = u107
  generalize u 108 = u108
  generalize u 109 = u109
  generalize u 110 = u110
  generalize u 111 = u111
  generalize u 112 = u112
  generalize u 113 = u113
  generalize u 114 = u114
  generalize u 115 = u115
  generalize u 116 = u116
  generalize u 117 = u117
  generalize u 118 = u118
  generalize u 119 = u119
  generalize u 120 = u120
  generalize u 121 = u121
  generalize u 122 = u122
  generalize u 123 = u123
  generalize u 124 = u124
  generalize u 125 = u125
  generalize u 126 = u126
  clear u
  have hj1 : ((i + 1 : Nat) : Int) = (i : Int) + 1 := by omega
  rw [hj1] at HQ
  clear hj1
  go_wp2
  exact HQ.out _ ⟨rfl, rfl, rfl, rfl, rfl, rfl, rfl, rfl, rfl, rfl, rfl, rfl⟩
set_option maxHeartbeats 8000000 in
set_option maxRecDepth 100000 in
theorem uh_r16 {K : Act → World → Prop} {c : Code} (hc : regOf (Try.f4.body.getD .skip) 16 = some c) (a : Act) {v : Vuh} {wq : World} {i : Nat} (hF : Fuh a v) (h12v : v.v12 = .int .i64 (i : Int)) (hn : i ≤ 4611686018427387904) (hQ : ∀ a', Fuh a' { v with v12 := .int .i64 ((i + 1 : Nat) : Int) } → K a' wq) :
    Code.wp Try.prog c (Exit.then K fun _ _ _ => False) a wq := by
  have HQ := hide hQ
  clear hQ
  obtain ⟨t', d'⟩ := a
  obtain ⟨v2, v3, v4, v6, v7, v8, v9, v10, v11, v12⟩ := v
  simp only at h12v HQ
  subst h12v
  obtain ⟨hs1, hd1, q2, q3, q4, q6, q7, q8, q9, q10, q11, q12⟩ := hF
  obtain ⟨u, hu⟩ := frame_uh t' hs1
  simp only at hd1 q2 q3 q4 q6 q7 q8 q9 q10 q11 q12
  subst hu hd1
  have e2 : u 2 = v2 := q2
  have e3 : u 3 = v3 := q3
  have e4 : u 4 = v4 := q4
  have e6 : u 6 = v6 := q6
  have e7 : u 7 = v7 := q7
  have e8 : u 8 = v8 := q8
  have e9 : u 9 = v9 := q9
  have e10 : u 10 = v10 := q10
  have e11 : u 11 = v11 := q11
  have e12 : u 12 = .int .i64 (i : Int) := q12
  rw [e2, e3, e4, e6, e7, e8, e9, e10, e11, e12]
  clear q2 e2 q3 e3 q4 e4 q6 e6 q7 e7 q8 e8 q9 e9 q10 e10 q11 e11 q12 e12 hs1
  simp only [Try.f4, Option.getD_some, regOf] at hc
  injection hc with hc
  subst hc
  generalize u 0 = u0
  generalize u 1 = u1
  generalize u 5 = u5
  generalize u 13 = u13
  generalize u 14 = u14
  generalize u 15 = u15
  generalize u 16 = u16
  generalize u 17 = u17
  generalize u 18 = u18
  generalize u 19 = u19
  generalize u 20 = u20
  generalize u 21 = u21
  generalize u 22 = u22
  generalize u 23 = u23
  generalize u 24 = u24
  generalize u 25 = u25
  generalize u 26 = u26
  generalize u 27 = u27
  generalize u 28 = u28
  generalize u 29 = u29
  generalize u 30 = u30
  generalize u 31 = u31
  generalize u 32 = u32
  generalize u 33 = u33
  generalize u 34 = u34
  generalize u 35 = u35
  generalize u 36 = u36
  generalize u 37 = u37
  generalize u 38 = u38
  generalize u 39 = u39
  generalize u 40 = u40
  generalize u 41 = u41
  generalize u 42 = u42
  generalize u 43 = u43
  generalize u 44 = u44
  generalize u 45 = u45
  generalize u 46 = u46
  generalize u 47 = u47
  generalize u 48 = u48
  generalize u 49 = u49
  generalize u 50 = u50
  generalize u 51 = u51
  generalize u 52 = u52
  generalize u 53 = u53
  generalize u 54 = u54
  generalize u 55 = u55
  generalize u 56 = u56
  generalize u 57 = u57
  generalize u 58 = u58
  generalize u 59 = u59
  generalize u 60 = u60
  generalize u 61 = u61
  generalize u 62 = u62
  generalize u 63 = u63
  generalize u 64 = u64
  generalize u 65 = u65
  generalize u 66 = u66
  generalize u 67 = u67
  generalize u 68 = u68
  generalize u 69 = u69
  generalize u 70 = u70
  generalize u 71 = u71
  generalize u 72 = u72
  generalize u 73 = u73
  generalize u 74 = u74
  generalize u 75 = u75
  generalize u 76 = u76
  generalize u 77 = u77
  generalize u 78 = u78
  generalize u 79 = u79
  generalize u 80 = u80
  generalize u 81 = u81
  generalize u 82 = u82
  generalize u 83 = u83
  generalize u 84 = u84
  generalize u 85 = u85
  generalize u 86 = u86
  generalize u 87 = u87
  generalize u 88 = u88
  generalize u 89 = u89
  generalize u 90 = u90
  generalize u 91 = u91
  generalize u 92 = u92
  generalize u 93 = u93
  generalize u 94 = u94
  generalize u 95 = u95
  generalize u 96 = u96
  generalize u 97 = u97
  generalize u 98 = u98
  generalize u 99 = u99
  generalize u 100 = u100
  generalize u 101 = u101
  generalize u 102 = u102
  generalize u 103 = u103
  generalize u 104 = u104
  generalize u 105 = u105
  generalize u 106 = u106
  generalize u 107 = u107
  generalize u 108 = u108
  generalize u 109 = u109
  generalize u 110 = u110
  generalize u 111 = u111
  generalize u 112 = u112
  generalize u 113 = u113
  generalize u 114 = u114
  generalize u 115 = u115
  generalize u 116 = u116
  generalize u 117 = u117
  generalize u 118 = u118
  generalize u 119 = u119
  generalize u 120 = u120
  generalize u 121 = u121
  generalize u 122 = u122
  generalize u 123 = u123
  generalize u 124 = u124
  generalize u 125 = u125
  generalize u 126 = u126
  clear u
  have hj1 : ((i + 1 : Nat) : Int) = (i : Int) + 1 := by omega
  rw [hj1] at HQ
  clear hj1
  go_wp2
  exact HQ.out _ ⟨rfl, rfl, rfl, rfl, rfl, rfl, rfl, rfl, rfl, rfl, rfl, rfl⟩
set_option maxHeartbeats 8000000 in
set_option maxRecDepth 100000 in
theorem uh_r8 {K : Act → World → Prop} {c : Code} (hc : regOf (Try.f4.body.getD .skip) 8 = some c) (a : Act) {v : Vuh} {wq : World} {n cp i : Nat} {ao : Option Addr} (hF : Fuh a v) (h2v : v.v2 = .slice ao n cp) (h10v : v.v10 = .int .i64 (i : Int)) (hQ : ∀ a', Fuh a' v → a'.tmps.getD 58 undef = .bool (decide (i < n ∧ i < 60)) → K a' wq) :
    Code.wp Try.prog c (Exit.then K fun _ _ _ => False) a wq := by
  have HQ := hide hQ
  clear hQ
  obtain ⟨t', d'⟩ := a
  obtain ⟨v2, v3, v4, v6, v7, v8, v9, v10, v11, v12⟩ := v
  simp only at h2v h10v HQ
  subst h2v h10v
  obtain ⟨hs1, hd1, q2, q3, q4, q6, q7, q8, q9, q10, q11, q12⟩ := hF
  obtain ⟨u, hu⟩ := frame_uh t' hs1
  simp only at hd1 q2 q3 q4 q6 q7 q8 q9 q10 q11 q12
  subst hu hd1
  have e2 : u 2 = .slice ao n cp := q2
  have e3 : u 3 = v3 := q3
  have e4 : u 4 = v4 := q4
  have e6 : u 6 = v6 := q6
  have e7 : u 7 = v7 := q7
  have e8 : u 8 = v8 := q8
  have e9 : u 9 = v9 := q9
  have e10 : u 10 = .int .i64 (i : Int) := q10
  have e11 : u 11 = v11 := q11
  have e12 : u 12 = v12 := q12
  rw [e2, e3, e4, e6, e7, e8, e9, e10, e11, e12]
  clear q2 e2 q3 e3 q4 e4 q6 e6 q7 e7 q8 e8 q9 e9 q10 e10 q11 e11 q12 e12 hs1
  simp only [Try.f4, Option.getD_some, regOf] at hc
  injection hc with hc
  subst hc
  generalize u 0 = u0
  generalize u 1 = u1
  generalize u 5 = u5
  generalize u 13 = u13
  generalize u 14 = u14
  generalize u 15 = u15
  generalize u 16 = u16
  generalize u 17 = u17
  generalize u 18 = u18
  generalize u 19 = u19
  generalize u 20 = u20
  generalize u 21 = u21
  generalize u 22 = u22
  generalize u 23 = u23
  generalize u 24 = u24
  generalize u 25 = u25
  generalize u 26 = u26
  generalize u 27 = u27
  generalize u 28 = u28
  generalize u 29 = u29
  generalize u 30 = u30
  generalize u 31 = u31
  generalize u 32 = u32
  generalize u 33 = u33
  generalize u 34 = u34
  generalize u 35 = u35
  generalize u 36 = u36
  generalize u 37 = u37
  generalize u 38 = u38
  generalize u 39 = u39
  generalize u 40 = u40
  generalize u 41 = u41
  generalize u 42 = u42
  generalize u 43 = u43
  generalize u 44 = u44
  generalize u 45 = u45
  generalize u 46 = u46
  generalize u 47 = u47
  generalize u 48 = u48
  generalize u 49 = u49
  generalize u 50 = u50
  generalize u 51 = u51
  generalize u 52 = u52
  generalize u 53 = u53
  generalize u 54 = u54
  generalize u 55 = u55
  generalize u 56 = u56
  generalize u 57 = u57
  generalize u 58 = u58
  generalize u 59 = u59
  generalize u 60 = u60
  generalize u 61 = u61
  generalize u 62 = u62
  generalize u 63 = u63
  generalize u 64 = u64
  generalize u 65 = u65
  generalize u 66 = u66
  generalize u 67 = u67
  generalize u 68 = u68
  generalize u 69 = u69
  generalize u 70 = u70
  generalize u 71 = u71
  generalize u 72 = u72
  generalize u 73 = u73
  generalize u 74 = u74
  generalize u 75 = u75
  generalize u 76 = u76
  generalize u 77 = u77
  generalize u 78 = u78
  generalize u 79 = u79
  generalize u 80 = u80
  generalize u 81 = u81
  generalize u 82 = u82
  generalize u 83 = u83
  generalize u 84 = u84
  generalize u 85 = u85
  generalize u 86 = u86
  generalize u 87 = u87
  generalize u 88 = u88
  generalize u 89 = u89
  generalize u 90 = u90
  generalize u 91 = u91
  generalize u 92 = u92
  generalize u 93 = u93
  generalize u 94 = u94
  generalize u 95 = u95
  generalize u 96 = u96
  generalize u 97 = u97
  generalize u 98 = u98
  generalize u 99 = u99
  generalize u 100 = u100
  generalize u 101 = u101
  generalize u 102 = u102
  generalize u 103 = u103
  generalize u 104 = u104
  generalize u 105 = u105
  generalize u 106 = u106
  generalize u 107 = u107
  generalize u 108 = u108
  generalize u 109 = u109
  generalize u 110 = u110
  generalize u 111 = u111
  generalize u 112 = u112
  generalize u 113 = u113
  generalize u 114 = u114
  generalize u 115 = u115
  generalize u 116 = u116
  generalize u 117 = u117
  generalize u 118 = u118
  generalize u 119 = u119
  generalize u 120 = u120
  generalize u 121 = u121
  generalize u 122 = u122
  generalize u 123 = u123
  generalize u 124 = u124
  generalize u 125 = u125
  generalize u 126 = u126
  clear u
  by_cases h1 : i < n
  · have g1 : (i : Int) < (n : Int) := by omega
    by_cases h2 : i < 60
    · rw [decide_eq_true (And.intro h1 h2)] at HQ
      have g : (i : Int) < 60 := by omega
      go_wp2
      exact HQ.out _ ⟨rfl, rfl, rfl, rfl, rfl, rfl, rfl, rfl, rfl, rfl, rfl, rfl⟩ (by simp)
    · rw [decide_eq_false (fun e => h2 e.2)] at HQ
      have g : ¬ (i : Int) < 60 := by omega
      go_wp2
      exact HQ.out _ ⟨rfl, rfl, rfl, rfl, rfl, rfl, rfl, rfl, rfl, rfl, rfl, rfl⟩ (by simp)
  · rw [decide_eq_false (fun e => h1 e.1)] at HQ
    have g : ¬ (i : Int) < (n : Int) := by omega
    go_wp2
    exact HQ.out _ ⟨rfl, rfl, rfl, rfl, rfl, rfl, rfl, rfl, rfl, rfl, rfl, rfl⟩ (by simp)
set_option maxHeartbeats 8000000 in
set_option maxRecDepth 100000 in
theorem uh_r10 {K : Act → World → Prop} {c : Code} (hc : regOf (Try.f4.body.getD .skip) 10 = some c) (a : Act) {v : Vuh} {wq : World} {n cp i b off : Nat} {g : Int} (hF : Fuh a v) (h2v : v.v2 = .slice (some ⟨b, off, none⟩) n cp) (h10v : v.v10 = .int .i64 (i : Int)) (hi : i < n) (y0 : wq.cell? ⟨b, off + i, none⟩ = some (.int .i64 g)) (hQ : ∀ a', Fuh a' { v with v11 := .int .i64 g } → K a' wq) :
    Code.wp Try.prog c (Exit.then K fun _ _ _ => False) a wq := by
  have HQ := hide hQ
  clear hQ
  obtain ⟨t', d'⟩ := a
  obtain ⟨v2, v3, v4, v6, v7, v8, v9, v10, v11, v12⟩ := v
  simp only at h2v h10v HQ
  subst h2v h10v
  obtain ⟨hs1, hd1, q2, q3, q4, q6, q7, q8, q9, q10, q11, q12⟩ := hF
  obtain ⟨u, hu⟩ := frame_uh t' hs1
  simp only at hd1 q2 q3 q4 q6 q7 q8 q9 q10 q11 q12
  subst hu hd1
  have e2 : u 2 = .slice (some ⟨b, off, none⟩) n cp := q2
  have e3 : u 3 = v3 := q3
  have e4 : u 4 = v4 := q4
  have e6 : u 6 = v6 := q6
  have e7 : u 7 = v7 := q7
  have e8 : u 8 = v8 := q8
  have e9 : u 9 = v9 := q9
  have e10 : u 10 = .int .i64 (i : Int) := q10
  have e11 : u 11 = v11 := q11
  have e12 : u 12 = v12 := q12
  rw [e2, e3, e4, e6, e7, e8, e9, e10, e11, e12]
  clear q2 e2 q3 e3 q4 e4 q6 e6 q7 e7 q8 e8 q9 e9 q10 e10 q11 e11 q12 e12 hs1
  simp only [Try.f4, Option.getD_some, regOf] at hc
  injection hc with hc
  subst hc
  generalize u 0 = u0
  generalize u 1 = u1
  generalize u 5 = u5
  generalize u 13 = u13
  generalize u 14 = u14
  generalize u 15 = u15
  generalize u 16 = u16
  generalize u 17 = u17
  generalize u 18 = u18
  generalize u 19 = u19
  generalize u 20 = u20
  generalize u 21 = u21
  generalize u 22 = u22
  generalize u 23 = u23
  generalize u 24 = u24
  generalize u 25 = u25
  generalize u 26 = u26
  generalize u 27 = u27
  generalize u 28 = u28
  generalize u 29 = u29
  generalize u 30 = u30
  generalize u 31 = u31
  generalize u 32 = u32
  generalize u 33 = u33
  generalize u 34 = u34
  generalize u 35 = u35
  generalize u 36 = u36
  generalize u 37 = u37
  generalize u 38 = u38
  generalize u 39 = u39
  generalize u 40 = u40
  generalize u 41 = u41
  generalize u 42 = u42
  generalize u 43 = u43
  generalize u 44 = u44
  generalize u 45 = u45
  generalize u 46 = u46
  generalize u 47 = u47
  generalize u 48 = u48
  generalize u 49 = u49
  generalize u 50 = u50
  generalize u 51 = u51
  generalize u 52 = u52
  generalize u 53 = u53
  generalize u 54 = u54
  generalize u 55 = u55
  generalize u 56 = u56
  generalize u 57 = u57
  generalize u 58 = u58
  generalize u 59 = u59
  generalize u 60 = u60
  generalize u 61 = u61
  generalize u 62 = u62
  generalize u 63 = u63
  generalize u 64 = u64
  generalize u 65 = u65
  generalize u 66 = u66
  generalize u 67 = u67
  generalize u 68 = u68
  generalize u 69 = u69
  generalize u 70 = u70
  generalize u 71 = u71
  generalize u 72 = u72
  generalize u 73 = u73
  generalize u 74 = u74
  generalize u 75 = u75
  generalize u 76 = u76
  generalize u 77 = u77
  generalize u 78 = u78
  generalize u 79 = u79
  generalize u 80 = u80
  generalize u 81 = u81
  generalize u 82 = u82
  generalize u 83 = u83
  generalize u 84 = u84
  generalize u 85 = u85
  generalize u 86 = u86
  generalize u 87 = u87
  generalize u 88 = u88
  generalize u 89 = u89
  generalize u 90 = u90
  generalize u 91 = u91
  generalize u 92 = u92
  generalize u 93 = u93
  generalize u 94 = u94
  generalize u 95 = u95
  generalize u 96 = u96
  generalize u 97 = u97
  generalize u 98 = u98
  generalize u 99 = u99
  generalize u 100 = u100
  generalize u 101 = u101
  generalize u 102 = u102
  generalize u 103 = u103
  generalize u 104 = u104
  generalize u 105 = u105
  generalize u 106 = u106
  generalize u 107 = u107
  generalize u 108 = u108
  generalize u 109 = u109
  generalize u 110 = u110
  generalize u 111 = u111
  generalize u 112 = u112
  generalize u 113 = u113
  generalize u 114 = u114
  generalize u 115 = u115
  generalize u 116 = u116
  generalize u 117 = u117
  generalize u 118 = u118
  generalize u 119 = u119
  generalize u 120 = u120
  generalize u 121 = u121
  generalize u 122 = u122
  generalize u 123 = u123
  generalize u 124 = u124
  generalize u 125 = u125
  generalize u 126 = u126
  clear u
  have hi0 : (0 : Int) ≤ (i : Int) := by omega
  have hi1 : (i : Int) < (n : Int) := by omega
  go_wp2
  exact HQ.out _ ⟨rfl, rfl, rfl, rfl, rfl, rfl, rfl, rfl, rfl, rfl, rfl, rfl⟩
set_option maxHeartbeats 8000000 in
set_option maxRecDepth 100000 in
theorem uh_r11 {K : Act → World → Prop} {c : Code} (hc : regOf (Try.f4.body.getD .skip) 11 = some c) (a : Act) {v : Vuh} {wq : World} {g : Int} (hF : Fuh a v) (h11v : v.v11 = .int .i64 g) (hQ : ∀ a', Fuh a' v → a'.tmps.getD 66 undef = .bool (decide (g < 0)) → K a' wq) :
    Code.wp Try.prog c (Exit.then K fun _ _ _ => False) a wq := by
  have HQ := hide hQ
  clear hQ
  obtain ⟨t', d'⟩ := a
  obtain ⟨v2, v3, v4, v6, v7, v8, v9, v10, v11, v12⟩ := v
  simp only at h11v HQ
  subst h11v
  obtain ⟨hs1, hd1, q2, q3, q4, q6, q7, q8, q9, q10, q11, q12⟩ := hF
  obtain ⟨u, hu⟩ := frame_uh t' hs1
  simp only at hd1 q2 q3 q4 q6 q7 q8 q9 q10 q11 q12
  subst hu hd1
  have e2 : u 2 = v2 := q2
  have e3 : u 3 = v3 := q3
  have e4 : u 4 = v4 := q4
  have e6 : u 6 = v6 := q6
  have e7 : u 7 = v7 := q7
  have e8 : u 8 = v8 := q8
  have e9 : u 9 = v9 := q9
  have e10 : u 10 = v10 := q10
  have e11 : u 11 = .int .i64 g := q11
  have e12 : u 12 = v12 := q12
  rw [e2, e3, e4, e6, e7, e8, e9, e10, e11, e12]
  clear q2 e2 q3 e3 q4 e4 q6 e6 q7 e7 q8 e8 q9 e9 q10 e10 q11 e11 q12 e12 hs1
  simp only [Try.f4, Option.getD_some, regOf] at hc
  injection hc with hc
  subst hc
  generalize u 0 = u0
  generalize u 1 = u1
  generalize u 5 = u5
  generalize u 13 = u13
  generalize u 14 = u14
  generalize u 15 = u15
  generalize u 16 = u16
  generalize u 17 = u17
  generalize u 18 = u18
  generalize u 19 = u19
  generalize u 20 = u20
  generalize u 21 = u21
  generalize u 22 = u22
  generalize u 23 = u23
  generalize u 24 = u24
  generalize u 25 = u25
  generalize u 26 = u26
  generalize u 27 = u27
  generalize u 28 = u28
  generalize u 29 = u29
  generalize u 30 = u30
  generalize u 31 = u31
  generalize u 32 = u32
  generalize u 33 = u33
  generalize u 34 = u34
  generalize u 35 = u35
  generalize u 36 = u36
  generalize u 37 = u37
  generalize u 38 = u38
  generalize u 39 = u39
  generalize u 40 = u40
  generalize u 41 = u41
  generalize u 42 = u42
  generalize u 43 = u43
  generalize u 44 = u44
  generalize u 45 = u45
  generalize u 46 = u46
  generalize u 47 = u47
  generalize u 48 = u48
  generalize u 49 = u49
  generalize u 50 = u50
  generalize u 51 = u51
  generalize u 52 = u52
  generalize u 53 = u53
  generalize u 54 = u54
  generalize u 55 = u55
  generalize u 56 = u56
  generalize u 57 = u57
  generalize u 58 = u58
  generalize u 59 = u59
  generalize u 60 = u60
  generalize u 61 = u61
  generalize u 62 = u62
  generalize u 63 = u63
  generalize u 64 = u64
  generalize u 65 = u65
  generalize u 66 = u66
  generalize u 67 = u67
  generalize u 68 = u68
  generalize u 69 = u69
  generalize u 70 = u70
  generalize u 71 = u71
  generalize u 72 = u72
  generalize u 73 = u73
  generalize u 74 = u74
  generalize u 75 = u75
  generalize u 76 = u76
  generalize u 77 = u77
  generalize u 78 = u78
  generalize u 79 = u79
  generalize u 80 = u80
  generalize u 81 = u81
  generalize u 82 = u82
  generalize u 83 = u83
  generalize u 84 = u84
  generalize u 85 = u85
  generalize u 86 = u86
  generalize u 87 = u87
  generalize u 88 = u88
  generalize u 89 = u89
  generalize u 90 = u90
  generalize u 91 = u91
  generalize u 92 = u92
  generalize u 93 = u93
  generalize u 94 = u94
  generalize u 95 = u95
  generalize u 96 = u96
  generalize u 97 = u97
  generalize u 98 = u98
  generalize u 99 = u99
  generalize u 100 = u100
  generalize u 101 = u101
  generalize u 102 = u102
  generalize u 103 = u103
  generalize u 104 = u104
  generalize u 105 = u105
  generalize u 106 = u106
  generalize u 107 = u107
  generalize u 108 = u108
  generalize u 109 = u109
  generalize u 110 = u110
  generalize u 111 = u111
  generalize u 112 = u112
  generalize u 113 = u113
  generalize u 114 = u114
  generalize u 115 = u115
  generalize u 116 = u116
  generalize u 117 = u117
  generalize u 118 = u118
  generalize u 119 = u119
  generalize u 120 = u120
  generalize u 121 = u121
  generalize u 122 = u122
  generalize u 123 = u123
  generalize u 124 = u124
  generalize u 125 = u125
  generalize u 126 = u126
  clear u
  by_cases h1 : g < 0
  · rw [decide_eq_true h1] at HQ
    go_wp2
    exact HQ.out _ ⟨rfl, rfl, rfl, rfl, rfl, rfl, rfl, rfl, rfl, rfl, rfl, rfl⟩ (by first | rfl | (simp; done) | (simp; omega))
  · rw [decide_eq_false h1] at HQ
    go_wp2
    exact HQ.out _ ⟨rfl, rfl, rfl, rfl, rfl, rfl, rfl, rfl, rfl, rfl, rfl, rfl⟩ (by first | rfl | (simp; done) | (simp; omega))
set_option maxHeartbeats 8000000 in
set_option maxRecDepth 100000 in
theorem uh_r12 {K : Act → World → Prop} {c : Code} (hc : regOf (Try.f4.body.getD .skip) 12 = some c) (a : Act) {v : Vuh} {wq : World} {g : Int} (hF : Fuh a v) (h11v : v.v11 = .int .i64 g) (h0 : g < 0) (h1 : -9223372036854775808 ≤ g) (hQ : ∀ a', Fuh a' { v with v11 := .int .i64 (-(g + 1)) } → K a' wq) :
    Code.wp Try.prog c (Exit.then K fun _ _ _ => False) a wq := by
  have HQ := hide hQ
  clear hQ
  obtain ⟨t', d'⟩ := a
  obtain ⟨v2, v3, v4, v6, v7, v8, v9, v10, v11, v12⟩ := v
  simp only at h11v HQ
  subst h11v
  obtain ⟨hs1, hd1, q2, q3, q4, q6, q7, q8, q9, q10, q11, q12⟩ := hF
  obtain ⟨u, hu⟩ := frame_uh t' hs1
  simp only at hd1 q2 q3 q4 q6 q7 q8 q9 q10 q11 q12
  subst hu hd1
  have e2 : u 2 = v2 := q2
  have e3 : u 3 = v3 := q3
  have e4 : u 4 = v4 := q4
  have e6 : u 6 = v6 := q6
  have e7 : u 7 = v7 := q7
  have e8 : u 8 = v8 := q8
  have e9 : u 9 = v9 := q9
  have e10 : u 10 = v10 := q10
  have e11 : u 11 = .int .i64 g := q11
  have e12 : u 12 = v12 := q12
  rw [e2, e3, e4, e6, e7, e8, e9, e10, e11, e12]
  clear q2 e2 q3 e3 q4 e4 q6 e6 q7 e7 q8 e8 q9 e9 q10 e10 q11 e11 q12 e12 hs1
  simp only [Try.f4, Option.getD_some, regOf] at hc
  injection hc with hc
  subst hc
  generalize u 0 = u0
  generalize u 1 = u1
  generalize u 5 = u5
  generalize u 13 = u13
  generalize u 14 = u14
  generalize u 15 = u15
  generalize u 16 = u16
  generalize u 17 = u17
  generalize u 18 = u18
  generalize u 19 = u19
  generalize u 20 = u20
  generalize u 21 = u21
  generalize u 22 = u22
  generalize u 23 = u23
  generalize u 24 = u24
  generalize u 25 = u25
  generalize u 26 = u26
  generalize u 27 = u27
  generalize u 28 = u28
  generalize u 29 = u29
  generalize u 30 = u30
  generalize u 31 = u31
  generalize u 32 = u32
  generalize u 33 = u33
  generalize u 34 = u34
  generalize u 35 = u35
  generalize u 36 = u36
  generalize u 37 = u37
  generalize u 38 = u38
  generalize u 39 = u39
  generalize u 40 = u40
  generalize u 41 = u41
  generalize u 42 = u42
  generalize u 43 = u43
  generalize u 44 = u44
  generalize u 45 = u45
  generalize u 46 = u46
  generalize u 47 = u47
  generalize u 48 = u48
  generalize u 49 = u49
  generalize u 50 = u50
  generalize u 51 = u51
  generalize u 52 = u52
  generalize u 53 = u53
  generalize u 54 = u54
  generalize u 55 = u55
  generalize u 56 = u56
  generalize u 57 = u57
  generalize u 58 = u58
  generalize u 59 = u59
  generalize u 60 = u60
  generalize u 61 = u61
  generalize u 62 = u62
  generalize u 63 = u63
  generalize u 64 = u64
  generalize u 65 = u65
  generalize u 66 = u66
  generalize u 67 = u67
  generalize u 68 = u68
  generalize u 69 = u69
  generalize u 70 = u70
  generalize u 71 = u71
  generalize u 72 = u72
  generalize u 73 = u73
  generalize u 74 = u74
  generalize u 75 = u75
  generalize u 76 = u76
  generalize u 77 = u77
  generalize u 78 = u78
  generalize u 79 = u79
  generalize u 80 = u80
  generalize u 81 = u81
  generalize u 82 = u82
  generalize u 83 = u83
  generalize u 84 = u84
  generalize u 85 = u85
  generalize u 86 = u86
  generalize u 87 = u87
  generalize u 88 = u88
  generalize u 89 = u89
  generalize u 90 = u90
  generalize u 91 = u91
  generalize u 92 = u92
  generalize u 93 = u93
  generalize u 94 = u94
  generalize u 95 = u95
  generalize u 96 = u96
  generalize u 97 = u97
  generalize u 98 = u98
  generalize u 99 = u99
  generalize u 100 = u100
  generalize u 101 = u101
  generalize u 102 = u102
  generalize u 103 = u103
  generalize u 104 = u104
  generalize u 105 = u105
  generalize u 106 = u106
  generalize u 107 = u107
  generalize u 108 = u108
  generalize u 109 = u109
  generalize u 110 = u110
  generalize u 111 = u111
  generalize u 112 = u112
  generalize u 113 = u113
  generalize u 114 = u114
  generalize u 115 = u115
  generalize u 116 = u116
  generalize u 117 = u117
  generalize u 118 = u118
  generalize u 119 = u119
  generalize u 120 = u120
  generalize u 121 = u121
  generalize u 122 = u122
  generalize u 123 = u123
  generalize u 124 = u124
  generalize u 125 = u125
  generalize u 126 = u126
  clear u
  have hw1 : IntKind.i64.wrap (g + 1) = g + 1 := by rw [IntKind.wrap_i64]; omega
  have hw2 : IntKind.i64.wrap (-(g + 1)) = -(g + 1) := by rw [IntKind.wrap_i64]; omega
  generalize hz : -(g + 1) = z at *
  generalize hy : g + 1 = y at *
  have hzz : -y = z := hz
  clear h0 h1 hz
  go_wp2
  exact HQ.out _ ⟨rfl, rfl, rfl, rfl, rfl, rfl, rfl, rfl, rfl, rfl, rfl, rfl⟩
set_option maxHeartbeats 8000000 in
set_option maxRecDepth 100000 in
theorem uh_r13 {K : Act → World → Prop} {c : Code} (hc : regOf (Try.f4.body.getD .skip) 13 = some c) (a : Act) {v : Vuh} {wq : World} {g : Int} (hF : Fuh a v) (h11v : v.v11 = .int .i64 g) (h0 : 0 ≤ g) (hQ : ∀ a', Fuh a' { v with v11 := .int .i64 ((g % 7).toNat : Nat) } → K a' wq) :
    Code.wp Try.prog c (Exit.then K fun _ _ _ => False) a wq := by
  have HQ := hide hQ
  clear hQ
  obtain ⟨t', d'⟩ := a
  obtain ⟨v2, v3, v4, v6, v7, v8, v9, v10, v11, v12⟩ := v
  simp only at h11v HQ
  subst h11v
  obtain ⟨hs1, hd1, q2, q3, q4, q6, q7, q8, q9, q10, q11, q12⟩ := hF
  obtain ⟨u, hu⟩ := frame_uh t' hs1
  simp only at hd1 q2 q3 q4 q6 q7 q8 q9 q10 q11 q12
  subst hu hd1
  have e2 : u 2 = v2 := q2
  have e3 : u 3 = v3 := q3
  have e4 : u 4 = v4 := q4
  have e6 : u 6 = v6 := q6
  have e7 : u 7 = v7 := q7
  have e8 : u 8 = v8 := q8
  have e9 : u 9 = v9 := q9
  have e10 : u 10 = v10 := q10
  have e11 : u 11 = .int .i64 g := q11
  have e12 : u 12 = v12 := q12
  rw [e2, e3, e4, e6, e7, e8, e9, e10, e11, e12]
  clear q2 e2 q3 e3 q4 e4 q6 e6 q7 e7 q8 e8 q9 e9 q10 e10 q11 e11 q12 e12 hs1
  simp only [Try.f4, Option.getD_some, regOf] at hc
  injection hc with hc
  subst hc
  generalize u 0 = u0
  generalize u 1 = u1
  generalize u 5 = u5
  generalize u 13 = u13
  generalize u 14 = u14
  generalize u 15 = u15
  generalize u 16 = u16
  generalize u 17 = u17
  generalize u 18 = u18
  generalize u 19 = u19
  generalize u 20 = u20
  generalize u 21 = u21
  generalize u 22 = u22
  generalize u 23 = u23
  generalize u 24 = u24
  generalize u 25 = u25
  generalize u 26 = u26
  generalize u 27 = u27
  generalize u 28 = u28
  generalize u 29 = u29
  generalize u 30 = u30
  generalize u 31 = u31
  generalize u 32 = u32
  generalize u 33 = u33
  generalize u 34 = u34
  generalize u 35 = u35
  generalize u 36 = u36
  generalize u 37 = u37
  generalize u 38 = u38
  generalize u 39 = u39
  generalize u 40 = u40
  generalize u 41 = u41
  generalize u 42 = u42
  generalize u 43 = u43
  generalize u 44 = u44
  generalize u 45 = u45
  generalize u 46 = u46
  generalize u 47 = u47
  generalize u 48 = u48
  generalize u 49 = u49
  generalize u 50 = u50
  generalize u 51 = u51
  generalize u 52 = u52
  generalize u 53 = u53
  generalize u 54 = u54
  generalize u 55 = u55
  generalize u 56 = u56
  generalize u 57 = u57
  generalize u 58 = u58
  generalize u 59 = u59
  generalize u 60 = u60
  generalize u 61 = u61
  generalize u 62 = u62
  generalize u 63 = u63
  generalize u 64 = u64
  generalize u 65 = u65
  generalize u 66 = u66
  generalize u 67 = u67
  generalize u 68 = u68
  generalize u 69 = u69
  generalize u 70 = u70
  generalize u 71 = u71
  generalize u 72 = u72
  generalize u 73 = u73
  generalize u 74 = u74
  generalize u 75 = u75
  generalize u 76 = u76
  generalize u 77 = u77
  generalize u 78 = u78
  generalize u 79 = u79
  generalize u 80 = u80
  generalize u 81 = u81
  generalize u 82 = u82
  generalize u 83 = u83
  generalize u 84 = u84
  generalize u 85 = u85
  generalize u 86 = u86
  generalize u 87 = u87
  generalize u 88 = u88
  generalize u 89 = u89
  generalize u 90 = u90
  generalize u 91 = u91
  generalize u 92 = u92
  generalize u 93 = u93
  generalize u 94 = u94
  generalize u 95 = u95
  generalize u 96 = u96
  generalize u 97 = u97
  generalize u 98 = u98
  generalize u 99 = u99
  generalize u 100 = u100
  generalize u 101 = u101
  generalize u 102 = u102
  generalize u 103 = u103
  generalize u 104 = u104
  generalize u 105 = u105
  generalize u 106 = u106
  generalize u 107 = u107
  generalize u 108 = u108
  generalize u 109 = u109
  generalize u 110 = u110
  generalize u 111 = u111
  generalize u 112 = u112
  generalize u 113 = u113
  generalize u 114 = u114
  generalize u 115 = u115
  generalize u 116 = u116
  generalize u 117 = u117
  generalize u 118 = u118
  generalize u 119 = u119
  generalize u 120 = u120
  generalize u 121 = u121
  generalize u 122 = u122
  generalize u 123 = u123
  generalize u 124 = u124
  generalize u 125 = u125
  generalize u 126 = u126
  clear u
  have hz : (((g % 7).toNat : Nat) : Int) = g.tmod 7 := by rw [Int.tmod_eq_emod_of_nonneg h0]; omega
  rw [hz] at HQ
  have hw : IntKind.i64.wrap (g.tmod 7) = g.tmod 7 := by rw [IntKind.wrap_i64, Int.tmod_eq_emod_of_nonneg h0]; omega
  clear hz h0
  go_wp2
  exact HQ.out _ ⟨rfl, rfl, rfl, rfl, rfl, rfl, rfl, rfl, rfl, rfl, rfl, rfl⟩
set_option maxHeartbeats 8000000 in
set_option maxRecDepth 100000 in
theorem uh_r15 {K : Act → World → Prop} {c : Code} (hc : regOf (Try.f4.body.getD .skip) 15 = some c) (a : Act) {v : Vuh} {wq : World} {k n : Nat} (hF : Fuh a v) (h11v : v.v11 = .int .i64 (n : Int)) (h12v : v.v12 = .int .i64 (k : Int)) (hQ : ∀ a', Fuh a' v → a'.tmps.getD 74 undef = .bool (decide (k < n)) → K a' wq) :
    Code.wp Try.prog c (Exit.then K fun _ _ _ => False) a wq := by
  have HQ := hide hQ
  clear hQ
  obtain ⟨t', d'⟩ := a
  obtain ⟨v2, v3, v4, v6, v7, v8, v9, v10, v11, v12⟩ := v
  simp only at h11v h12v HQ
  subst h11v h12v
  obtain ⟨hs1, hd1, q2, q3, q4, q6, q7, q8, q9, q10, q11, q12⟩ := hF
  obtain ⟨u, hu⟩ := frame_uh t' hs1
  simp only at hd1 q2 q3 q4 q6 q7 q8 q9 q10 q11 q12
  subst hu hd1
  have e2 : u 2 = v2 := q2
  have e3 : u 3 = v3 := q3
  have e4 : u 4 = v4 := q4
  have e6 : u 6 = v6 := q6
  have e7 : u 7 = v7 := q7
  have e8 : u 8 = v8 := q8
  have e9 : u 9 = v9 := q9
  have e10 : u 10 = v10 := q10
  have e11 : u 11 = .int .i64 (n : Int) := q11
  have e12 : u 12 = .int .i64 (k : Int) := q12
  rw [e2, e3, e4, e6, e7, e8, e9, e10, e11, e12]
  clear q2 e2 q3 e3 q4 e4 q6 e6 q7 e7 q8 e8 q9 e9 q10 e10 q11 e11 q12 e12 hs1
  simp only [Try.f4, Option.getD_some, regOf] at hc
  injection hc with hc
  subst hc
  generalize u 0 = u0
  generalize u 1 = u1
  generalize u 5 = u5
  generalize u 13 = u13
  generalize u 14 = u14
  generalize u 15 = u15
  generalize u 16 = u16
  generalize u 17 = u17
  generalize u 18 = u18
  generalize u 19 = u19
  generalize u 20 = u20
  generalize u 21 = u21
  generalize u 22 = u22
  generalize u 23 = u23
  generalize u 24 = u24
  generalize u 25 = u25
  generalize u 26 = u26
  generalize u 27 = u27
  generalize u 28 = u28
  generalize u 29 = u29
  generalize u 30 = u30
  generalize u 31 = u31
  generalize u 32 = u32
  generalize u 33 = u33
  generalize u 34 = u34
  generalize u 35 = u35
  generalize u 36 = u36
  generalize u 37 = u37
  generalize u 38 = u38
  generalize u 39 = u39
  generalize u 40 = u40
  generalize u 41 = u41
  generalize u 42 = u42
  generalize u 43 = u43
  generalize u 44 = u44
  generalize u 45 = u45
  generalize u 46 = u46
  generalize u 47 = u47
  generalize u 48 = u48
  generalize u 49 = u49
  generalize u 50 = u50
  generalize u 51 = u51
  generalize u 52 = u52
  generalize u 53 = u53
  generalize u 54 = u54
  generalize u 55 = u55
  generalize u 56 = u56
  generalize u 57 = u57
  generalize u 58 = u58
  generalize u 59 = u59
  generalize u 60 = u60
  generalize u 61 = u61
  generalize u 62 = u62
  generalize u 63 = u63
  generalize u 64 = u64
  generalize u 65 = u65
  generalize u 66 = u66
  generalize u 67 = u67
  generalize u 68 = u68
  generalize u 69 = u69
  generalize u 70 = u70
  generalize u 71 = u71
  generalize u 72 = u72
  generalize u 73 = u73
  generalize u 74 = u74
  generalize u 75 = u75
  generalize u 76 = u76
  generalize u 77 = u77
  generalize u 78 = u78
  generalize u 79 = u79
  generalize u 80 = u80
  generalize u 81 = u81
  generalize u 82 = u82
  generalize u 83 = u83
  generalize u 84 = u84
  generalize u 85 = u85
  generalize u 86 = u86
  generalize u 87 = u87
  generalize u 88 = u88
  generalize u 89 = u89
  generalize u 90 = u90
  generalize u 91 = u91
  generalize u 92 = u92
  generalize u 93 = u93
  generalize u 94 = u94
  generalize u 95 = u95
  generalize u 96 = u96
  generalize u 97 = u97
  generalize u 98 = u98
  generalize u 99 = u99
  generalize u 100 = u100
  generalize u 101 = u101
  generalize u 102 = u102
  generalize u 103 = u103
  generalize u 104 = u104
  generalize u 105 = u105
  generalize u 106 = u106
  generalize u 107 = u107
  generalize u 108 = u108
  generalize u 109 = u109
  generalize u 110 = u110
  generalize u 111 = u111
  generalize u 112 = u112
  generalize u 113 = u113
  generalize u 114 = u114
  generalize u 115 = u115
  generalize u 116 = u116
  generalize u 117 = u117
  generalize u 118 = u118
  generalize u 119 = u119
  generalize u 120 = u120
  generalize u 121 = u121
  generalize u 122 = u122
  generalize u 123 = u123
  generalize u 124 = u124
  generalize u 125 = u125
  generalize u 126 = u126
  clear u
  by_cases h1 : k < n
  · rw [decide_eq_true h1] at HQ
    have g : (k : Int) < (n : Int) := by omega
    go_wp2
    exact HQ.out _ ⟨rfl, rfl, rfl, rfl, rfl, rfl, rfl, rfl, rfl, rfl, rfl, rfl⟩ (by first | rfl | (simp; done) | (simp; omega))
  · rw [decide_eq_false h1] at HQ
    have g : ¬ (k : Int) < (n : Int) := by omega
    go_wp2
    exact HQ.out _ ⟨rfl, rfl, rfl, rfl, rfl, rfl, rfl, rfl, rfl, rfl, rfl, rfl⟩ (by first | rfl | (simp; done) | (simp; omega))
set_option maxHeartbeats 8000000 in
set_option maxRecDepth 100000 in
theorem uh_r17 {K : Act → World → Prop} {c : Code} (hc : regOf (Try.f4.body.getD .skip) 17 = some c) (a : Act) {v : Vuh} {wq : World} {d2 k : Nat} {o : MB} {ad : Addr} (hF : Fuh a v) (h4v : v.v4 = .pointer (some ⟨d2, 0, none⟩)) (h8v : v.v8 = .pointer (some ad)) (h12v : v.v12 = .int .i64 (k : Int)) (hD2 : wq.heap[d2]? = some (.cells #[.int .i64 o.node, .int .i64 o.life] tMember (0, 0))) (hE : Calls Try.prog 15 #[.pointer (some ad), o.v] wq fun e w' => e = .returned (.bool (decide (k < 5))) ∧ Below wq.heap.size wq w')
    (hQ : ∀ a' w', Fuh a' v → a'.tmps.getD 82 undef = .bool false → Below wq.heap.size wq w' → K a' w') :
    Code.wp Try.prog c (Exit.then K fun _ _ _ => False) a wq := by
  have HQ := hide hQ
  clear hQ
  obtain ⟨t', d'⟩ := a
  obtain ⟨v2, v3, v4, v6, v7, v8, v9, v10, v11, v12⟩ := v
  simp only at h4v h8v h12v HQ
  subst h4v h8v h12v
  obtain ⟨hs1, hd1, q2, q3, q4, q6, q7, q8, q9, q10, q11, q12⟩ := hF
  obtain ⟨u, hu⟩ := frame_uh t' hs1
  simp only at hd1 q2 q3 q4 q6 q7 q8 q9 q10 q11 q12
  subst hu hd1
  have e2 : u 2 = v2 := q2
  have e3 : u 3 = v3 := q3
  have e4 : u 4 = .pointer (some ⟨d2, 0, none⟩) := q4
  have e6 : u 6 = v6 := q6
  have e7 : u 7 = v7 := q7
  have e8 : u 8 = .pointer (some ad) := q8
  have e9 : u 9 = v9 := q9
  have e10 : u 10 = v10 := q10
  have e11 : u 11 = v11 := q11
  have e12 : u 12 = .int .i64 (k : Int) := q12
  rw [e2, e3, e4, e6, e7, e8, e9, e10, e11, e12]
  clear q2 e2 q3 e3 q4 e4 q6 e6 q7 e7 q8 e8 q9 e9 q10 e10 q11 e11 q12 e12 hs1
  simp only [Try.f4, Option.getD_some, regOf] at hc
  injection hc with hc
  subst hc
  generalize u 0 = u0
  generalize u 1 = u1
  generalize u 5 = u5
  generalize u 13 = u13
  generalize u 14 = u14
  generalize u 15 = u15
  generalize u 16 = u16
  generalize u 17 = u17
  generalize u 18 = u18
  generalize u 19 = u19
  generalize u 20 = u20
  generalize u 21 = u21
  generalize u 22 = u22
  generalize u 23 = u23
  generalize u 24 = u24
  generalize u 25 = u25
  generalize u 26 = u26
  generalize u 27 = u27
  generalize u 28 = u28
  generalize u 29 = u29
  generalize u 30 = u30
  generalize u 31 = u31
  generalize u 32 = u32
  generalize u 33 = u33
  generalize u 34 = u34
  generalize u 35 = u35
  generalize u 36 = u36
  generalize u 37 = u37
  generalize u 38 = u38
  generalize u 39 = u39
  generalize u 40 = u40
  generalize u 41 = u41
  generalize u 42 = u42
  generalize u 43 = u43
  generalize u 44 = u44
  generalize u 45 = u45
  generalize u 46 = u46
  generalize u 47 = u47
  generalize u 48 = u48
  generalize u 49 = u49
  generalize u 50 = u50
  generalize u 51 = u51
  generalize u 52 = u52
  generalize u 53 = u53
  generalize u 54 = u54
  generalize u 55 = u55
  generalize u 56 = u56
  generalize u 57 = u57
  generalize u 58 = u58
  generalize u 59 = u59
  generalize u 60 = u60
  generalize u 61 = u61
  generalize u 62 = u62
  generalize u 63 = u63
  generalize u 64 = u64
  generalize u 65 = u65
  generalize u 66 = u66
  generalize u 67 = u67
  generalize u 68 = u68
  generalize u 69 = u69
  generalize u 70 = u70
  generalize u 71 = u71
  generalize u 72 = u72
  generalize u 73 = u73
  generalize u 74 = u74
  generalize u 75 = u75
  generalize u 76 = u76
  generalize u 77 = u77
  generalize u 78 = u78
  generalize u 79 = u79
  generalize u 80 = u80
  generalize u 81 = u81
  generalize u 82 = u82
  generalize u 83 = u83
  generalize u 84 = u84
  generalize u 85 = u85
  generalize u 86 = u86
  generalize u 87 = u87
  generalize u 88 = u88
  generalize u 89 = u89
  generalize u 90 = u90
  generalize u 91 = u91
  generalize u 92 = u92
  generalize u 93 = u93
  generalize u 94 = u94
  generalize u 95 = u95
  generalize u 96 = u96
  generalize u 97 = u97
  generalize u 98 = u98
  generalize u 99 = u99
  generalize u 100 = u100
  generalize u 101 = u101
  generalize u 102 = u102
  generalize u 103 = u103
  generalize u 104 = u104
  generalize u 105 = u105
  generalize u 106 = u106
  generalize u 107 = u107
  generalize u 108 = u108
  generalize u 109 = u109
  generalize u 110 = u110
  generalize u 111 = u111
  generalize u 112 = u112
  generalize u 113 = u113
  generalize u 114 = u114
  generalize u 115 = u115
  generalize u 116 = u116
  generalize u 117 = u117
  generalize u 118 = u118
  generalize u 119 = u119
  generalize u 120 = u120
  generalize u 121 = u121
  generalize u 122 = u122
  generalize u 123 = u123
  generalize u 124 = u124
  generalize u 125 = u125
  generalize u 126 = u126
  clear u
  have HE := hide hE
  clear hE
  have e0 := box_cell hD2 0 rfl
  have e1 := box_cell hD2 1 rfl
  clear hD2
  unfold MB.v at HE
  go_wp2_with fail
  refine HE.out.mono ?_
  rintro e w1 ⟨rfl, b1⟩
  have R1 := hide b1
  clear b1 HE e0 e1
  by_cases h1 : k < 5
  · rw [decide_eq_true h1]
    have g : (k : Int) < 5 := by omega
    go_wp2
    exact HQ.out _ _ ⟨rfl, rfl, rfl, rfl, rfl, rfl, rfl, rfl, rfl, rfl, rfl, rfl⟩ (by first | rfl | (simp; done) | (simp; omega)) R1.out
  · rw [decide_eq_false h1]
    have g : ¬ (k : Int) < 5 := by omega
    go_wp2
    exact HQ.out _ _ ⟨rfl, rfl, rfl, rfl, rfl, rfl, rfl, rfl, rfl, rfl, rfl, rfl⟩ (by first | rfl | (simp; done) | (simp; omega)) R1.out
set_option maxHeartbeats 8000000 in
set_option maxRecDepth 100000 in
theorem uh_r19 {K : Act → World → Prop} {c : Code} (hc : regOf (Try.f4.body.getD .skip) 19 = some c) (a : Act) {v : Vuh} {wq : World} {ad : Addr} {R : World → Prop} (hF : Fuh a v) (h8v : v.v8 = .pointer (some ad))  (hE : Calls Try.prog 9 #[.pointer (some ad)] wq fun e w' => (∃ x, e = .returned x) ∧ R w')
    (hQ : ∀ a' w' , Fuh a' v → R w' → K a' w') :
    Code.wp Try.prog c (Exit.then K fun _ _ _ => False) a wq := by
  have HQ := hide hQ
  clear hQ
  obtain ⟨t', d'⟩ := a
  obtain ⟨v2, v3, v4, v6, v7, v8, v9, v10, v11, v12⟩ := v
  simp only at h8v HQ
  subst h8v
  obtain ⟨hs1, hd1, q2, q3, q4, q6, q7, q8, q9, q10, q11, q12⟩ := hF
  obtain ⟨u, hu⟩ := frame_uh t' hs1
  simp only at hd1 q2 q3 q4 q6 q7 q8 q9 q10 q11 q12
  subst hu hd1
  have e2 : u 2 = v2 := q2
  have e3 : u 3 = v3 := q3
  have e4 : u 4 = v4 := q4
  have e6 : u 6 = v6 := q6
  have e7 : u 7 = v7 := q7
  have e8 : u 8 = .pointer (some ad) := q8
  have e9 : u 9 = v9 := q9
  have e10 : u 10 = v10 := q10
  have e11 : u 11 = v11 := q11
  have e12 : u 12 = v12 := q12
  rw [e2, e3, e4, e6, e7, e8, e9, e10, e11, e12]
  clear q2 e2 q3 e3 q4 e4 q6 e6 q7 e7 q8 e8 q9 e9 q10 e10 q11 e11 q12 e12 hs1
  simp only [Try.f4, Option.getD_some, regOf] at hc
  injection hc with hc
  subst hc
  generalize u 0 = u0
  generalize u 1 = u1
  generalize u 5 = u5
  generalize u 13 = u13
  generalize u 14 = u14
  generalize u 15 = u15
  generalize u 16 = u16
  generalize u 17 = u17
  generalize u 18 = u18
  generalize u 19 = u19
  generalize u 20 = u20
  generalize u 21 = u21
  generalize u 22 = u22
  generalize u 23 = u23
  generalize u 24 = u24
  generalize u 25 = u25
  generalize u 26 = u26
  generalize u 27 = u27
  generalize u 28 = u28
  generalize u 29 = u29
  generalize u 30 = u30
  generalize u 31 = u31
  generalize u 32 = u32
  generalize u 33 = u33
  generalize u 34 = u34
  generalize u 35 = u35
  generalize u 36 = u36
  generalize u 37 = u37
  generalize u 38 = u38
  generalize u 39 = u39
  generalize u 40 = u40
  generalize u 41 = u41
  generalize u 42 = u42
  generalize u 43 = u43
  generalize u 44 = u44
  generalize u 45 = u45
  generalize u 46 = u46
  generalize u 47 = u47
  generalize u 48 = u48
  generalize u 49 = u49
  generalize u 50 = u50
  generalize u 51 = u51
  generalize u 52 = u52
  generalize u 53 = u53
  generalize u 54 = u54
  generalize u 55 = u55
  generalize u 56 = u56
  generalize u 57 = u57
  generalize u 58 = u58
  generalize u 59 = u59
  generalize u 60 = u60
  generalize u 61 = u61
  generalize u 62 = u62
  generalize u 63 = u63
  generalize u 64 = u64
  generalize u 65 = u65
  generalize u 66 = u66
  generalize u 67 = u67
  generalize u 68 = u68
  generalize u 69 = u69
  generalize u 70 = u70
  generalize u 71 = u71
  generalize u 72 = u72
  generalize u 73 = u73
  generalize u 74 = u74
  generalize u 75 = u75
  generalize u 76 = u76
  generalize u 77 = u77
  generalize u 78 = u78
  generalize u 79 = u79
  generalize u 80 = u80
  generalize u 81 = u81
  generalize u 82 = u82
  generalize u 83 = u83
  generalize u 84 = u84
  generalize u 85 = u85
  generalize u 86 = u86
  generalize u 87 = u87
  generalize u 88 = u88
  generalize u 89 = u89
  generalize u 90 = u90
  generalize u 91 = u91
  generalize u 92 = u92
  generalize u 93 = u93
  generalize u 94 = u94
  generalize u 95 = u95
  generalize u 96 = u96
  generalize u 97 = u97
  generalize u 98 = u98
  generalize u 99 = u99
  generalize u 100 = u100
  generalize u 101 = u101
  generalize u 102 = u102
  generalize u 103 = u103
  generalize u 104 = u104
  generalize u 105 = u105
  generalize u 106 = u106
  generalize u 107 = u107
  generalize u 108 = u108
  generalize u 109 = u109
  generalize u 110 = u110
  generalize u 111 = u111
  generalize u 112 = u112
  generalize u 113 = u113
  generalize u 114 = u114
  generalize u 115 = u115
  generalize u 116 = u116
  generalize u 117 = u117
  generalize u 118 = u118
  generalize u 119 = u119
  generalize u 120 = u120
  generalize u 121 = u121
  generalize u 122 = u122
  generalize u 123 = u123
  generalize u 124 = u124
  generalize u 125 = u125
  generalize u 126 = u126
  clear u
  have HE := hide hE
  clear hE
  go_wp2_with fail
  refine HE.out.mono ?_
  rintro e w1 ⟨⟨x, rfl⟩, r1⟩
  have R1 := hide r1
  clear r1 HE
  go_wp2
  exact HQ.out _ _ ⟨rfl, rfl, rfl, rfl, rfl, rfl, rfl, rfl, rfl, rfl, rfl, rfl⟩ R1.out
set_option maxHeartbeats 8000000 in
set_option maxRecDepth 100000 in
theorem uh_r20 {K : Act → World → Prop} {c : Code} (hc : regOf (Try.f4.body.getD .skip) 20 = some c) (a : Act) {v : Vuh} {wq : World} {d2 n : Nat} {o : MB} {ad : Addr} {R : World → Prop} (hF : Fuh a v) (h4v : v.v4 = .pointer (some ⟨d2, 0, none⟩)) (h8v : v.v8 = .pointer (some ad)) (h11v : v.v11 = .int .i64 (n : Int)) (hD2 : wq.heap[d2]? = some (.cells #[.int .i64 o.node, .int .i64 o.life] tMember (0, 0))) (hE : Calls Try.prog 15 #[.pointer (some ad), o.v] wq fun e w' => e = .returned (.bool (decide (n < 5))) ∧ Below wq.heap.size wq w') (hH : ∀ W, Below wq.heap.size wq W → Calls Try.prog 11 #[.pointer (some ad), o.v] W fun e w' => e = .returned (.bool true) ∧ w'.heap[d2]? = some (.cells #[.int .i64 o.node, .int .i64 o.life] tMember (0, 0)) ∧ (Calls Try.prog 15 #[.pointer (some ad), o.v] w' fun e w' => e = .returned (.bool true) ∧ R w'))
    (hQ : ∀ a' w', Fuh a' v → a'.tmps.getD 102 undef = .bool false → R w' → K a' w') :
    Code.wp Try.prog c (Exit.then K fun _ _ _ => False) a wq := by
  have HQ := hide hQ
  clear hQ
  obtain ⟨t', d'⟩ := a
  obtain ⟨v2, v3, v4, v6, v7, v8, v9, v10, v11, v12⟩ := v
  simp only at h4v h8v h11v HQ
  subst h4v h8v h11v
  obtain ⟨hs1, hd1, q2, q3, q4, q6, q7, q8, q9, q10, q11, q12⟩ := hF
  obtain ⟨u, hu⟩ := frame_uh t' hs1
  simp only at hd1 q2 q3 q4 q6 q7 q8 q9 q10 q11 q12
  subst hu hd1
  have e2 : u 2 = v2 := q2
  have e3 : u 3 = v3 := q3
  have e4 : u 4 = .pointer (some ⟨d2, 0, none⟩) := q4
  have e6 : u 6 = v6 := q6
  have e7 : u 7 = v7 := q7
  have e8 : u 8 = .pointer (some ad) := q8
  have e9 : u 9 = v9 := q9
  have e10 : u 10 = v10 := q10
  have e11 : u 11 = .int .i64 (n : Int) := q11
  have e12 : u 12 = v12 := q12
  rw [e2, e3, e4, e6, e7, e8, e9, e10, e11, e12]
  clear q2 e2 q3 e3 q4 e4 q6 e6 q7 e7 q8 e8 q9 e9 q10 e10 q11 e11 q12 e12 hs1
  simp only [Try.f4, Option.getD_some, regOf] at hc
  injection hc with hc
  subst hc
  generalize u 0 = u0
  generalize u 1 = u1
  generalize u 5 = u5
  generalize u 13 = u13
  generalize u 14 = u14
  generalize u 15 = u15
  generalize u 16 = u16
  generalize u 17 = u17
  generalize u 18 = u18
  generalize u 19 = u19
  generalize u 20 = u20
  generalize u 21 = u21
  generalize u 22 = u22
  generalize u 23 = u23
  generalize u 24 = u24
  generalize u 25 = u25
  generalize u 26 = u26
  generalize u 27 = u27
  generalize u 28 = u28
  generalize u 29 = u29
  generalize u 30 = u30
  generalize u 31 = u31
  generalize u 32 = u32
  generalize u 33 = u33
  generalize u 34 = u34
  generalize u 35 = u35
  generalize u 36 = u36
  generalize u 37 = u37
  generalize u 38 = u38
  generalize u 39 = u39
  generalize u 40 = u40
  generalize u 41 = u41
  generalize u 42 = u42
  generalize u 43 = u43
  generalize u 44 = u44
  generalize u 45 = u45
  generalize u 46 = u46
  generalize u 47 = u47
  generalize u 48 = u48
  generalize u 49 = u49
  generalize u 50 = u50
  generalize u 51 = u51
  generalize u 52 = u52
  generalize u 53 = u53
  generalize u 54 = u54
  generalize u 55 = u55
  generalize u 56 = u56
  generalize u 57 = u57
  generalize u 58 = u58
  generalize u 59 = u59
  generalize u 60 = u60
  generalize u 61 = u61
  generalize u 62 = u62
  generalize u 63 = u63
  generalize u 64 = u64
  generalize u 65 = u65
  generalize u 66 = u66
  generalize u 67 = u67
  generalize u 68 = u68
  generalize u 69 = u69
  generalize u 70 = u70
  generalize u 71 = u71
  generalize u 72 = u72
  generalize u 73 = u73
  generalize u 74 = u74
  generalize u 75 = u75
  generalize u 76 = u76
  generalize u 77 = u77
  generalize u 78 = u78
  generalize u 79 = u79
  generalize u 80 = u80
  generalize u 81 = u81
  generalize u 82 = u82
  generalize u 83 = u83
  generalize u 84 = u84
  generalize u 85 = u85
  generalize u 86 = u86
  generalize u 87 = u87
  generalize u 88 = u88
  generalize u 89 = u89
  generalize u 90 = u90
  generalize u 91 = u91
  generalize u 92 = u92
  generalize u 93 = u93
  generalize u 94 = u94
  generalize u 95 = u95
  generalize u 96 = u96
  generalize u 97 = u97
  generalize u 98 = u98
  generalize u 99 = u99
  generalize u 100 = u100
  generalize u 101 = u101
  generalize u 102 = u102
  generalize u 103 = u103
  generalize u 104 = u104
  generalize u 105 = u105
  generalize u 106 = u106
  generalize u 107 = u107
  generalize u 108 = u108
  generalize u 109 = u109
  generalize u 110 = u110
  generalize u 111 = u111
  generalize u 112 = u112
  generalize u 113 = u113
  generalize u 114 = u114
  generalize u 115 = u115
  generalize u 116 = u116
  generalize u 117 = u117
  generalize u 118 = u118
  generalize u 119 = u119
  generalize u 120 = u120
  generalize u 121 = u121
  generalize u 122 = u122
  generalize u 123 = u123
  generalize u 124 = u124
  generalize u 125 = u125
  generalize u 126 = u126
  clear u
  have HE := hide hE
  have HH := hide hH
  have HD2 := hide hD2
  clear hE hH
  have e0 := box_cell hD2 0 rfl
  have e1 := box_cell hD2 1 rfl
  clear hD2
  unfold MB.v at HE HH
  go_wp2_with fail
  refine HE.out.mono ?_
  rintro e w1 ⟨rfl, b1⟩
  have D1 := (b1.block _ (heap_lt HD2.out)).trans HD2.out
  have e0 := box_cell D1 0 rfl
  have e1 := box_cell D1 1 rfl
  have H1 := hide (HH.out w1 b1)
  clear b1 HE HH HD2 D1
  by_cases h1 : n < 5
  case pos =>
    rw [decide_eq_true h1]
    have g : (n : Int) < 5 := by omega
    go_wp2_with fail
    refine H1.out.mono ?_
    rintro e w2 ⟨rfl, D2, h2⟩
    have e0 := box_cell D2 0 rfl
    have e1 := box_cell D2 1 rfl
    have H2 := hide h2
    clear h2 D2
    go_wp2_with fail
    refine H2.out.mono ?_
    rintro e w3 ⟨rfl, r1⟩
    have R1 := hide r1
    clear r1 H2 H1
    go_wp2
    exact HQ.out _ _ ⟨rfl, rfl, rfl, rfl, rfl, rfl, rfl, rfl, rfl, rfl, rfl, rfl⟩ (by first | rfl | (simp; done) | (simp; omega)) R1.out
  case neg =>
    rw [decide_eq_false h1]
    have g : ¬ (n : Int) < 5 := by omega
    go_wp2_with fail
    refine H1.out.mono ?_
    rintro e w2 ⟨rfl, D2, h2⟩
    have e0 := box_cell D2 0 rfl
    have e1 := box_cell D2 1 rfl
    have H2 := hide h2
    clear h2 D2
    go_wp2_with fail
    refine H2.out.mono ?_
    rintro e w3 ⟨rfl, r1⟩
    have R1 := hide r1
    clear r1 H2 H1
    go_wp2
    exact HQ.out _ _ ⟨rfl, rfl, rfl, rfl, rfl, rfl, rfl, rfl, rfl, rfl, rfl, rfl⟩ (by first | rfl | (simp; done) | (simp; omega)) R1.out
set_option maxHeartbeats 8000000 in
set_option maxRecDepth 100000 in
theorem uh_r22n {K : Act → World → Prop} {c : Code} (hc : regOf (Try.f4.body.getD .skip) 22 = some c) (a : Act) {v : Vuh} {wq : World} {d2 : Nat} {o : MB} (hF : Fuh a v) (h4v : v.v4 = .pointer (some ⟨d2, 0, none⟩)) (hD2 : wq.heap[d2]? = some (.cells #[.int .i64 o.node, .int .i64 o.life] tMember (0, 0))) (h1 : ¬ o.life > 1) (hQ : ∀ a', Fuh a' v → a'.tmps.getD 115 undef = .bool false → K a' wq) :
    Code.wp Try.prog c (Exit.then K fun _ _ _ => False) a wq := by
  have HQ := hide hQ
  clear hQ
  obtain ⟨t', d'⟩ := a
  obtain ⟨v2, v3, v4, v6, v7, v8, v9, v10, v11, v12⟩ := v
  simp only at h4v HQ
  subst h4v
  obtain ⟨hs1, hd1, q2, q3, q4, q6, q7, q8, q9, q10, q11, q12⟩ := hF
  obtain ⟨u, hu⟩ := frame_uh t' hs1
  simp only at hd1 q2 q3 q4 q6 q7 q8 q9 q10 q11 q12
  subst hu hd1
  have e2 : u 2 = v2 := q2
  have e3 : u 3 = v3 := q3
  have e4 : u 4 = .pointer (some ⟨d2, 0, none⟩) := q4
  have e6 : u 6 = v6 := q6
  have e7 : u 7 = v7 := q7
  have e8 : u 8 = v8 := q8
  have e9 : u 9 = v9 := q9
  have e10 : u 10 = v10 := q10
  have e11 : u 11 = v11 := q11
  have e12 : u 12 = v12 := q12
  rw [e2, e3, e4, e6, e7, e8, e9, e10, e11, e12]
  clear q2 e2 q3 e3 q4 e4 q6 e6 q7 e7 q8 e8 q9 e9 q10 e10 q11 e11 q12 e12 hs1
  simp only [Try.f4, Option.getD_some, regOf] at hc
  injection hc with hc
  subst hc
  generalize u 0 = u0
  generalize u 1 = u1
  generalize u 5 = u5
  generalize u 13 = u13
  generalize u 14 = u14
  generalize u 15 = u15
  generalize u 16 = u16
  generalize u 17 = u17
  generalize u 18 = u18
  generalize u 19 = u19
  generalize u 20 = u20
  generalize u 21 = u21
  generalize u 22 = u22
  generalize u 23 = u23
  generalize u 24 = u24
  generalize u 25 = u25
  generalize u 26 = u26
  generalize u 27 = u27
  generalize u 28 = u28
  generalize u 29 = u29
  generalize u 30 = u30
  generalize u 31 = u31
  generalize u 32 = u32
  generalize u 33 = u33
  generalize u 34 = u34
  generalize u 35 = u35
  generalize u 36 = u36
  generalize u 37 = u37
  generalize u 38 = u38
  generalize u 39 = u39
  generalize u 40 = u40
  generalize u 41 = u41
  generalize u 42 = u42
  generalize u 43 = u43
  generalize u 44 = u44
  generalize u 45 = u45
  generalize u 46 = u46
  generalize u 47 = u47
  generalize u 48 = u48
  generalize u 49 = u49
  generalize u 50 = u50
  generalize u 51 = u51
  generalize u 52 = u52
  generalize u 53 = u53
  generalize u 54 = u54
  generalize u 55 = u55
  generalize u 56 = u56
  generalize u 57 = u57
  generalize u 58 = u58
  generalize u 59 = u59
  generalize u 60 = u60
  generalize u 61 = u61
  generalize u 62 = u62
  generalize u 63 = u63
  generalize u 64 = u64
  generalize u 65 = u65
  generalize u 66 = u66
  generalize u 67 = u67
  generalize u 68 = u68
  generalize u 69 = u69
  generalize u 70 = u70
  generalize u 71 = u71
  generalize u 72 = u72
  generalize u 73 = u73
  generalize u 74 = u74
  generalize u 75 = u75
  generalize u 76 = u76
  generalize u 77 = u77
  generalize u 78 = u78
  generalize u 79 = u79
  generalize u 80 = u80
  generalize u 81 = u81
  generalize u 82 = u82
  generalize u 83 = u83
  generalize u 84 = u84
  generalize u 85 = u85
  generalize u 86 = u86
  generalize u 87 = u87
  generalize u 88 = u88
  generalize u 89 = u89
  generalize u 90 = u90
  generalize u 91 = u91
  generalize u 92 = u92
  generalize u 93 = u93
  generalize u 94 = u94
  generalize u 95 = u95
  generalize u 96 = u96
  generalize u 97 = u97
  generalize u 98 = u98
  generalize u 99 = u99
  generalize u 100 = u100
  generalize u 101 = u101
  generalize u 102 = u102
  generalize u 103 = u103
  generalize u 104 = u104
  generalize u 105 = u105
  generalize u 106 = u106
  generalize u 107 = u107
  generalize u 108 = u108
  generalize u 109 = u109
  generalize u 110 = u110
  generalize u 111 = u111
  generalize u 112 = u112
  generalize u 113 = u113
  generalize u 114 = u114
  generalize u 115 = u115
  generalize u 116 = u116
  generalize u 117 = u117
  generalize u 118 = u118
  generalize u 119 = u119
  generalize u 120 = u120
  generalize u 121 = u121
  generalize u 122 = u122
  generalize u 123 = u123
  generalize u 124 = u124
  generalize u 125 = u125
  generalize u 126 = u126
  clear u
  have e0 := box_cell hD2 0 rfl
  have e1 := box_cell hD2 1 rfl
  clear hD2
  go_wp2
  exact HQ.out _ ⟨rfl, rfl, rfl, rfl, rfl, rfl, rfl, rfl, rfl, rfl, rfl, rfl⟩ (by first | rfl | (simp; done) | (simp; omega))
set_option maxHeartbeats 8000000 in
set_option maxRecDepth 100000 in
theorem uh_r22 {K : Act → World → Prop} {c : Code} (hc : regOf (Try.f4.body.getD .skip) 22 = some c) (a : Act) {v : Vuh} {wq : World} {d2 : Nat} {o : MB} {ad : Addr} {R : World → Prop} (hF : Fuh a v) (h4v : v.v4 = .pointer (some ⟨d2, 0, none⟩)) (h8v : v.v8 = .pointer (some ad)) (hD2 : wq.heap[d2]? = some (.cells #[.int .i64 o.node, .int .i64 o.life] tMember (0, 0))) (h1 : o.life > 1) (h2 : o.life ≤ 9007199254740991) (hE : Calls Try.prog 11 #[.pointer (some ad), .agg #[.int .i64 o.node, .int .i64 (o.life - 1)]] wq fun e w' => e = .returned (.bool false) ∧ R w')
    (hQ : ∀ a' w', Fuh a' v → a'.tmps.getD 115 undef = .bool false → R w' → K a' w') :
    Code.wp Try.prog c (Exit.then K fun _ _ _ => False) a wq := by
  have HQ := hide hQ
  clear hQ
  obtain ⟨t', d'⟩ := a
  obtain ⟨v2, v3, v4, v6, v7, v8, v9, v10, v11, v12⟩ := v
  simp only at h4v h8v HQ
  subst h4v h8v
  obtain ⟨hs1, hd1, q2, q3, q4, q6, q7, q8, q9, q10, q11, q12⟩ := hF
  obtain ⟨u, hu⟩ := frame_uh t' hs1
  simp only at hd1 q2 q3 q4 q6 q7 q8 q9 q10 q11 q12
  subst hu hd1
  have e2 : u 2 = v2 := q2
  have e3 : u 3 = v3 := q3
  have e4 : u 4 = .pointer (some ⟨d2, 0, none⟩) := q4
  have e6 : u 6 = v6 := q6
  have e7 : u 7 = v7 := q7
  have e8 : u 8 = .pointer (some ad) := q8
  have e9 : u 9 = v9 := q9
  have e10 : u 10 = v10 := q10
  have e11 : u 11 = v11 := q11
  have e12 : u 12 = v12 := q12
  rw [e2, e3, e4, e6, e7, e8, e9, e10, e11, e12]
  clear q2 e2 q3 e3 q4 e4 q6 e6 q7 e7 q8 e8 q9 e9 q10 e10 q11 e11 q12 e12 hs1
  simp only [Try.f4, Option.getD_some, regOf] at hc
  injection hc with hc
  subst hc
  generalize u 0 = u0
  generalize u 1 = u1
  generalize u 5 = u5
  generalize u 13 = u13
  generalize u 14 = u14
  generalize u 15 = u15
  generalize u 16 = u16
  generalize u 17 = u17
  generalize u 18 = u18
  generalize u 19 = u19
  generalize u 20 = u20
  generalize u 21 = u21
  generalize u 22 = u22
  generalize u 23 = u23
  generalize u 24 = u24
  generalize u 25 = u25
  generalize u 26 = u26
  generalize u 27 = u27
  generalize u 28 = u28
  generalize u 29 = u29
  generalize u 30 = u30
  generalize u 31 = u31
  generalize u 32 = u32
  generalize u 33 = u33
  generalize u 34 = u34
  generalize u 35 = u35
  generalize u 36 = u36
  generalize u 37 = u37
  generalize u 38 = u38
  generalize u 39 = u39
  generalize u 40 = u40
  generalize u 41 = u41
  generalize u 42 = u42
  generalize u 43 = u43
  generalize u 44 = u44
  generalize u 45 = u45
  generalize u 46 = u46
  generalize u 47 = u47
  generalize u 48 = u48
  generalize u 49 = u49
  generalize u 50 = u50
  generalize u 51 = u51
  generalize u 52 = u52
  generalize u 53 = u53
  generalize u 54 = u54
  generalize u 55 = u55
  generalize u 56 = u56
  generalize u 57 = u57
  generalize u 58 = u58
  generalize u 59 = u59
  generalize u 60 = u60
  generalize u 61 = u61
  generalize u 62 = u62
  generalize u 63 = u63
  generalize u 64 = u64
  generalize u 65 = u65
  generalize u 66 = u66
  generalize u 67 = u67
  generalize u 68 = u68
  generalize u 69 = u69
  generalize u 70 = u70
  generalize u 71 = u71
  generalize u 72 = u72
  generalize u 73 = u73
  generalize u 74 = u74
  generalize u 75 = u75
  generalize u 76 = u76
  generalize u 77 = u77
  generalize u 78 = u78
  generalize u 79 = u79
  generalize u 80 = u80
  generalize u 81 = u81
  generalize u 82 = u82
  generalize u 83 = u83
  generalize u 84 = u84
  generalize u 85 = u85
  generalize u 86 = u86
  generalize u 87 = u87
  generalize u 88 = u88
  generalize u 89 = u89
  generalize u 90 = u90
  generalize u 91 = u91
  generalize u 92 = u92
  generalize u 93 = u93
  generalize u 94 = u94
  generalize u 95 = u95
  generalize u 96 = u96
  generalize u 97 = u97
  generalize u 98 = u98
  generalize u 99 = u99
  generalize u 100 = u100
  generalize u 101 = u101
  generalize u 102 = u102
  generalize u 103 = u103
  generalize u 104 = u104
  generalize u 105 = u105
  generalize u 106 = u106
  generalize u 107 = u107
  generalize u 108 = u108
  generalize u 109 = u109
  generalize u 110 = u110
  generalize u 111 = u111
  generalize u 112 = u112
  generalize u 113 = u113
  generalize u 114 = u114
  generalize u 115 = u115
  generalize u 116 = u116
  generalize u 117 = u117
  generalize u 118 = u118
  generalize u 119 = u119
  generalize u 120 = u120
  generalize u 121 = u121
  generalize u 122 = u122
  generalize u 123 = u123
  generalize u 124 = u124
  generalize u 125 = u125
  generalize u 126 = u126
  clear u
  have HE := hide hE
  clear hE
  have hw : IntKind.i64.wrap (o.life - 1) = o.life - 1 := by rw [IntKind.wrap_i64]; omega
  clear h2
  have e0 := box_cell hD2 0 rfl
  have e1 := box_cell hD2 1 rfl
  clear hD2
  go_wp2_with fail
  refine HE.out.mono ?_
  rintro e w1 ⟨rfl, r1⟩
  have R1 := hide r1
  clear r1 HE
  go_wp2
  exact HQ.out _ _ ⟨rfl, rfl, rfl, rfl, rfl, rfl, rfl, rfl, rfl, rfl, rfl, rfl⟩ (by first | rfl | (simp; done) | (simp; omega)) R1.out
set_option maxHeartbeats 8000000 in
set_option maxRecDepth 100000 in
theorem uh_r24 {K : Act → World → Prop} {c : Code} (hc : regOf (Try.f4.body.getD .skip) 24 = some c) (a : Act) {v : Vuh} {wq : World} {d d2 : Nat} {m o : MB} {ad : Addr} (hF : Fuh a v) (h3v : v.v3 = .pointer (some ⟨d, 0, none⟩)) (h4v : v.v4 = .pointer (some ⟨d2, 0, none⟩)) (h7v : v.v7 = .bool true) (h8v : v.v8 = .pointer (some ad)) (hD : wq.heap[d]? = some (.cells #[.int .i64 m.node, .int .i64 m.life] tMember (0, 0))) (hD2 : wq.heap[d2]? = some (.cells #[.int .i64 o.node, .int .i64 o.life] tMember (0, 0))) (hE : Calls Try.prog 15 #[.pointer (some ad), m.v] wq fun e w' => e = .returned (.bool true) ∧ Below wq.heap.size wq w') (hH : ∀ W, Below wq.heap.size wq W → Calls Try.prog 15 #[.pointer (some ad), o.v] W fun e w' => e = .returned (.bool true) ∧ Below W.heap.size W w')
    (hQ : ∀ a' w', Fuh a' { v with v6 := .bool true } → Below wq.heap.size wq w' → K a' w') :
    Code.wp Try.prog c (Exit.then K fun _ _ _ => False) a wq := by
  have HQ := hide hQ
  clear hQ
  obtain ⟨t', d'⟩ := a
  obtain ⟨v2, v3, v4, v6, v7, v8, v9, v10, v11, v12⟩ := v
  simp only at h3v h4v h7v h8v HQ
  subst h3v h4v h7v h8v
  obtain ⟨hs1, hd1, q2, q3, q4, q6, q7, q8, q9, q10, q11, q12⟩ := hF
  obtain ⟨u, hu⟩ := frame_uh t' hs1
  simp only at hd1 q2 q3 q4 q6 q7 q8 q9 q10 q11 q12
  subst hu hd1
  have e2 : u 2 = v2 := q2
  have e3 : u 3 = .pointer (some ⟨d, 0, none⟩) := q3
  have e4 : u 4 = .pointer (some ⟨d2, 0, none⟩) := q4
  have e6 : u 6 = v6 := q6
  have e7 : u 7 = .bool true := q7
  have e8 : u 8 = .pointer (some ad) := q8
  have e9 : u 9 = v9 := q9
  have e10 : u 10 = v10 := q10
  have e11 : u 11 = v11 := q11
  have e12 : u 12 = v12 := q12
  rw [e2, e3, e4, e6, e7, e8, e9, e10, e11, e12]
  clear q2 e2 q3 e3 q4 e4 q6 e6 q7 e7 q8 e8 q9 e9 q10 e10 q11 e11 q12 e12 hs1
  simp only [Try.f4, Option.getD_some, regOf] at hc
  injection hc with hc
  subst hc
  generalize u 0 = u0
  generalize u 1 = u1
  generalize u 5 = u5
  generalize u 13 = u13
  generalize u 14 = u14
  generalize u 15 = u15
  generalize u 16 = u16
  generalize u 17 = u17
  generalize u 18 = u18
  generalize u 19 = u19
  generalize u 20 = u20
  generalize u 21 = u21
  generalize u 22 = u22
  generalize u 23 = u23
  generalize u 24 = u24
  generalize u 25 = u25
  generalize u 26 = u26
  generalize u 27 = u27
  generalize u 28 = u28
  generalize u 29 = u29
  generalize u 30 = u30
  generalize u 31 = u31
  generalize u 32 = u32
  generalize u 33 = u33
  generalize u 34 = u34
  generalize u 35 = u35
  generalize u 36 = u36
  generalize u 37 = u37
  generalize u 38 = u38
  generalize u 39 = u39
  generalize u 40 = u40
  generalize u 41 = u41
  generalize u 42 = u42
  generalize u 43 = u43
  generalize u 44 = u44
  generalize u 45 = u45
  generalize u 46 = u46
  generalize u 47 = u47
  generalize u 48 = u48
  generalize u 49 = u49
  generalize u 50 = u50
  generalize u 51 = u51
  generalize u 52 = u52
  generalize u 53 = u53
  generalize u 54 = u54
  generalize u 55 = u55
  generalize u 56 = u56
  generalize u 57 = u57
  generalize u 58 = u58
  generalize u 59 = u59
  generalize u 60 = u60
  generalize u 61 = u61
  generalize u 62 = u62
  generalize u 63 = u63
  generalize u 64 = u64
  generalize u 65 = u65
  generalize u 66 = u66
  generalize u 67 = u67
  generalize u 68 = u68
  generalize u 69 = u69
  generalize u 70 = u70
  generalize u 71 = u71
  generalize u 72 = u72
  generalize u 73 = u73
  generalize u 74 = u74
  generalize u 75 = u75
  generalize u 76 = u76
  generalize u 77 = u77
  generalize u 78 = u78
  generalize u 79 = u79
  generalize u 80 = u80
  generalize u 81 = u81
  generalize u 82 = u82
  generalize u 83 = u83
  generalize u 84 = u84
  generalize u 85 = u85
  generalize u 86 = u86
  generalize u 87 = u87
  generalize u 88 = u88
  generalize u 89 = u89
  generalize u 90 = u90
  generalize u 91 = u91
  generalize u 92 = u92
  generalize u 93 = u93
  generalize u 94 = u94
  generalize u 95 = u95
  generalize u 96 = u96
  generalize u 97 = u97
  generalize u 98 = u98
  generalize u 99 = u99
  generalize u 100 = u100
  generalize u 101 = u101
  generalize u 102 = u102
  generalize u 103 = u103
  generalize u 104 = u104
  generalize u 105 = u105
  generalize u 106 = u106
  generalize u 107 = u107
  generalize u 108 = u108
  generalize u 109 = u109
  generalize u 110 = u110
  generalize u 111 = u111
  generalize u 112 = u112
  generalize u 113 = u113
  generalize u 114 = u114
  generalize u 115 = u115
  generalize u 116 = u116
  generalize u 117 = u117
  generalize u 118 = u118
  generalize u 119 = u119
  generalize u 120 = u120
  generalize u 121 = u121
  generalize u 122 = u122
  generalize u 123 = u123
  generalize u 124 = u124
  generalize u 125 = u125
  generalize u 126 = u126
  clear u
  have HE := hide hE
  have HH := hide hH
  have HD2 := hide hD2
  clear hE hH hD2
  have c0 := box_cell hD 0 rfl
  have c1 := box_cell hD 1 rfl
  clear hD
  unfold MB.v at HE HH
  go_wp2_with fail
  refine HE.out.mono ?_
  rintro e w1 ⟨rfl, b1⟩
  have D1 := (b1.block _ (heap_lt HD2.out)).trans HD2.out
  have e0 := box_cell D1 0 rfl
  have e1 := box_cell D1 1 rfl
  have B1 := hide b1
  clear b1 HE D1 HD2 c0 c1
  go_wp2_with fail
  refine (HH.out w1 B1.out).mono ?_
  rintro e w2 ⟨rfl, b2⟩
  have B2 := hide b2
  clear b2 HH
  go_wp2
  exact HQ.out _ _ ⟨rfl, rfl, rfl, rfl, rfl, (by simp), rfl, rfl, rfl, rfl, rfl, rfl⟩ (B1.out.trans (B2.out.mono B1.out.size))
end Go.Proofs.Ytafjngmdandgmaa
