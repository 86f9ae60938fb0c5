/-
  LinkPlays: both put out, both tick (mkyp.py).
-/
import Derived.Test.YthgfijmpofbchaaZYRa
namespace Go.Proofs.Ythgfijmpofbchaa
open Go.RowKit

attribute [local go_sem ↓] Go.wp_at_zero Go.wp_at_succ
set_option linter.unusedSimpArgs false
set_option linter.unusedVariables false
theorem outs_len9 (l : LK) : l.outs.length ≤ 8 := by
  unfold LK.outs
  split
  · simp
  · rw [← dueL_fr, List.length_map]; exact dueL_len
set_option maxHeartbeats 8000000 in
set_option maxRecDepth 100000 in
theorem yp_r24 {K : Act → World → Prop} {c : Code} (hc : regOf (Try.f3.body.getD .skip) 24 = some c) (a : Act) {v : Vyp} {wq : World} {w0 : World} {bl bx : Nat} {vl vx : Value} {l : LK} (hF : Fyp a v) (h6v : v.v6 = .pointer (some ⟨bl, 0, none⟩)) (h8v : v.v8 = .pointer (some ⟨bx, 0, none⟩)) (hX : LX w0 wq bl bx vl vx l l)
    (hQ : ∀ a' w', Fyp a' { v with v11 := .bool true } → LX w0 w' bl bx vl vx l.put l.put → K a' w') :
    Code.wp Try.prog c (Exit.then K fun _ _ _ => False) a wq := by
  have HQ := hide hQ
  clear hQ
  obtain ⟨t', d'⟩ := a
  obtain ⟨v1, v5, v6, v8, v9, v10, v11, v12, v13, v14, v15, v16, v17, v59⟩ := v
  simp only at h6v h8v HQ
  subst h6v h8v
  obtain ⟨hs1, hd1, q1, q5, q6, q8, q9, q10, q11, q12, q13, q14, q15, q16, q17, q59⟩ := hF
  obtain ⟨u, hu⟩ := frame_yp t' hs1
  simp only at hd1 q1 q5 q6 q8 q9 q10 q11 q12 q13 q14 q15 q16 q17 q59
  subst hu hd1
  have e1 : u 1 = v1 := q1
  have e5 : u 5 = v5 := q5
  have e6 : u 6 = .pointer (some ⟨bl, 0, none⟩) := q6
  have e8 : u 8 = .pointer (some ⟨bx, 0, none⟩) := q8
  have e9 : u 9 = v9 := q9
  have e10 : u 10 = v10 := q10
  have e11 : u 11 = v11 := q11
  have e12 : u 12 = v12 := q12
  have e13 : u 13 = v13 := q13
  have e14 : u 14 = v14 := q14
  have e15 : u 15 = v15 := q15
  have e16 : u 16 = v16 := q16
  have e17 : u 17 = v17 := q17
  have e59 : u 59 = v59 := q59
  rw [e1, e5, e6, e8, e9, e10, e11, e12, e13, e14, e15, e16, e17, e59]
  clear q1 e1 q5 e5 q6 e6 q8 e8 q9 e9 q10 e10 q11 e11 q12 e12 q13 e13 q14 e14 q15 e15 q16 e16 q17 e17 q59 e59 hs1
  simp only [Try.f3, Option.getD_some, regOf] at hc
  injection hc with hc
  subst hc
  generalize u 0 = u0
  generalize u 2 = u2
  generalize u 3 = u3
  generalize u 4 = u4
  generalize u 7 = u7
  generalize u 18 = u18
  generalize u 19 = u19
  generalize u 20 = u20
  generalize u 21 = u21
  generalize u 22 = u22
  generalize u 23 = u23
  generalize u 24 = u24
  generalize u 25 = u25
  generalize u 26 = u26
  generalize u 27 = u27
  generalize u 28 = u28
  generalize u 29 = u29
  generalize u 30 = u30
  generalize u 31 = u31
  generalize u 32 = u32
  generalize u 33 = u33
  generalize u 34 = u34
  generalize u 35 = u35
  generalize u 36 = u36
  generalize u 37 = u37
  generalize u 38 = u38
  generalize u 39 = u39
  generalize u 40 = u40
  generalize u 41 = u41
  generalize u 42 = u42
  generalize u 43 = u43
  generalize u 44 = u44
  generalize u 45 = u45
  generalize u 46 = u46
  generalize u 47 = u47
  generalize u 48 = u48
  generalize u 49 = u49
  generalize u 50 = u50
  generalize u 51 = u51
  generalize u 52 = u52
  generalize u 53 = u53
  generalize u 54 = u54
  generalize u 55 = u55
  generalize u 56 = u56
  generalize u 57 = u57
  generalize u 58 = u58
  generalize u 60 = u60
  generalize u 61 = u61
  generalize u 62 = u62
  generalize u 63 = u63
  generalize u 64 = u64
  generalize u 65 = u65
  generalize u 66 = u66
  generalize u 67 = u67
  generalize u 68 = u68
  generalize u 69 = u69
  generalize u 70 = u70
  generalize u 71 = u71
  generalize u 72 = u72
  generalize u 73 = u73
  generalize u 74 = u74
  generalize u 75 = u75
  generalize u 76 = u76
  generalize u 77 = u77
  generalize u 78 = u78
  generalize u 79 = u79
  generalize u 80 = u80
  generalize u 81 = u81
  generalize u 82 = u82
  generalize u 83 = u83
  generalize u 84 = u84
  generalize u 85 = u85
  generalize u 86 = u86
  generalize u 87 = u87
  generalize u 88 = u88
  generalize u 89 = u89
  generalize u 90 = u90
  generalize u 91 = u91
  generalize u 92 = u92
  generalize u 93 = u93
  generalize u 94 = u94
  generalize u 95 = u95
  generalize u 96 = u96
  generalize u 97 = u97
  generalize u 98 = u98
  generalize u 99 = u99
  generalize u 100 = u100
  generalize u 101 = u101
  generalize u 102 = u102
  generalize u 103 = u103
  generalize u 104 = u104
  generalize u 105 = u105
  generalize u 106 = u106
  generalize u 107 = u107
  generalize u 108 = u108
  generalize u 109 = u109
  generalize u 110 = u110
  generalize u 111 = u111
  generalize u 112 = u112
  generalize u 113 = u113
  generalize u 114 = u114
  generalize u 115 = u115
  generalize u 116 = u116
  generalize u 117 = u117
  generalize u 118 = u118
  generalize u 119 = u119
  generalize u 120 = u120
  generalize u 121 = u121
  generalize u 122 = u122
  generalize u 123 = u123
  generalize u 124 = u124
  generalize u 125 = u125
  generalize u 126 = u126
  generalize u 127 = u127
  generalize u 128 = u128
  generalize u 129 = u129
  generalize u 130 = u130
  generalize u 131 = u131
  generalize u 132 = u132
  generalize u 133 = u133
  generalize u 134 = u134
  generalize u 135 = u135
  generalize u 136 = u136
  generalize u 137 = u137
  generalize u 138 = u138
  generalize u 139 = u139
  generalize u 140 = u140
  generalize u 141 = u141
  generalize u 142 = u142
  generalize u 143 = u143
  generalize u 144 = u144
  generalize u 145 = u145
  generalize u 146 = u146
  generalize u 147 = u147
  generalize u 148 = u148
  generalize u 149 = u149
  generalize u 150 = u150
  generalize u 151 = u151
  generalize u 152 = u152
  clear u
  have HX := hide hX
  have HP := hide (pout hX.p)
  have hol := outs_len9 l
  clear hX
  go_wp2_with fail
  refine HP.out.mono ?_
  rintro e w1 ⟨gg, oc, rfl, gv⟩
  have X1 := hide (HX.out.pstep gv.link ⟨gv.touch, fun _ e => .inl e⟩)
  have R1 := hide gv.row
  clear gv HP
  go_wp2_with fail
  refine (xout X1.out.x X1.out.p.ok).mono ?_
  rintro e w2 ⟨oo, oq, rfl, gx⟩
  have X2 := hide (X1.out.xstep gx.link (gx.touch.mono fun _ _ e => .inl e) (fun _ e => .inl e))
  have R2 := hide gx.row
  have R3 := hide (gx.touch.row R1.out fun j hj e => by
    subst e
    have h1 := (R1.out.lt j hj).1
    have h2 := heap_lt HX.out.x.box
    omega)
  clear gx R1
  go_wp2_with fail
  refine (frames_any R3.out R2.out (by omega)).mono ?_
  rintro e w3 ⟨rfl, b3⟩
  have B3 := hide b3
  clear b3
  go_wp2
  exact HQ.out _ _ ⟨rfl, rfl, rfl, rfl, rfl, rfl, rfl, rfl, rfl, rfl, rfl, rfl, rfl, rfl, rfl, rfl⟩ (X2.out.on B3.out)
set_option maxHeartbeats 8000000 in
set_option maxRecDepth 100000 in
theorem yp_r30 {K : Act → World → Prop} {c : Code} (hc : regOf (Try.f3.body.getD .skip) 30 = some c) (a : Act) {v : Vyp} {wq : World} {w0 : World} {bl bx : Nat} {vl vx : Value} {l : LK} (hF : Fyp a v) (h6v : v.v6 = .pointer (some ⟨bl, 0, none⟩)) (h8v : v.v8 = .pointer (some ⟨bx, 0, none⟩)) (hX : LX w0 wq bl bx vl vx l l)
    (hQ : ∀ a' w', Fyp a' { v with v17 := .bool true } → LX w0 w' bl bx vl vx l.put l.put → K a' w') :
    Code.wp Try.prog c (Exit.then K fun _ _ _ => False) a wq := by
  have HQ := hide hQ
  clear hQ
  obtain ⟨t', d'⟩ := a
  obtain ⟨v1, v5, v6, v8, v9, v10, v11, v12, v13, v14, v15, v16, v17, v59⟩ := v
  simp only at h6v h8v HQ
  subst h6v h8v
  obtain ⟨hs1, hd1, q1, q5, q6, q8, q9, q10, q11, q12, q13, q14, q15, q16, q17, q59⟩ := hF
  obtain ⟨u, hu⟩ := frame_yp t' hs1
  simp only at hd1 q1 q5 q6 q8 q9 q10 q11 q12 q13 q14 q15 q16 q17 q59
  subst hu hd1
  have e1 : u 1 = v1 := q1
  have e5 : u 5 = v5 := q5
  have e6 : u 6 = .pointer (some ⟨bl, 0, none⟩) := q6
  have e8 : u 8 = .pointer (some ⟨bx, 0, none⟩) := q8
  have e9 : u 9 = v9 := q9
  have e10 : u 10 = v10 := q10
  have e11 : u 11 = v11 := q11
  have e12 : u 12 = v12 := q12
  have e13 : u 13 = v13 := q13
  have e14 : u 14 = v14 := q14
  have e15 : u 15 = v15 := q15
  have e16 : u 16 = v16 := q16
  have e17 : u 17 = v17 := q17
  have e59 : u 59 = v59 := q59
  rw [e1, e5, e6, e8, e9, e10, e11, e12, e13, e14, e15, e16, e17, e59]
  clear q1 e1 q5 e5 q6 e6 q8 e8 q9 e9 q10 e10 q11 e11 q12 e12 q13 e13 q14 e14 q15 e15 q16 e16 q17 e17 q59 e59 hs1
  simp only [Try.f3, Option.getD_some, regOf] at hc
  injection hc with hc
  subst hc
  generalize u 0 = u0
  generalize u 2 = u2
  generalize u 3 = u3
  generalize u 4 = u4
  generalize u 7 = u7
  generalize u 18 = u18
  generalize u 19 = u19
  generalize u 20 = u20
  generalize u 21 = u21
  generalize u 22 = u22
  generalize u 23 = u23
  generalize u 24 = u24
  generalize u 25 = u25
  generalize u 26 = u26
  generalize u 27 = u27
  generalize u 28 = u28
  generalize u 29 = u29
  generalize u 30 = u30
  generalize u 31 = u31
  generalize u 32 = u32
  generalize u 33 = u33
  generalize u 34 = u34
  generalize u 35 = u35
  generalize u 36 = u36
  generalize u 37 = u37
  generalize u 38 = u38
  generalize u 39 = u39
  generalize u 40 = u40
  generalize u 41 = u41
  generalize u 42 = u42
  generalize u 43 = u43
  generalize u 44 = u44
  generalize u 45 = u45
  generalize u 46 = u46
  generalize u 47 = u47
  generalize u 48 = u48
  generalize u 49 = u49
  generalize u 50 = u50
  generalize u 51 = u51
  generalize u 52 = u52
  generalize u 53 = u53
  generalize u 54 = u54
  generalize u 55 = u55
  generalize u 56 = u56
  generalize u 57 = u57
  generalize u 58 = u58
  generalize u 60 = u60
  generalize u 61 = u61
  generalize u 62 = u62
  generalize u 63 = u63
  generalize u 64 = u64
  generalize u 65 = u65
  generalize u 66 = u66
  generalize u 67 = u67
  generalize u 68 = u68
  generalize u 69 = u69
  generalize u 70 = u70
  generalize u 71 = u71
  generalize u 72 = u72
  generalize u 73 = u73
  generalize u 74 = u74
  generalize u 75 = u75
  generalize u 76 = u76
  generalize u 77 = u77
  generalize u 78 = u78
  generalize u 79 = u79
  generalize u 80 = u80
  generalize u 81 = u81
  generalize u 82 = u82
  generalize u 83 = u83
  generalize u 84 = u84
  generalize u 85 = u85
  generalize u 86 = u86
  generalize u 87 = u87
  generalize u 88 = u88
  generalize u 89 = u89
  generalize u 90 = u90
  generalize u 91 = u91
  generalize u 92 = u92
  generalize u 93 = u93
  generalize u 94 = u94
  generalize u 95 = u95
  generalize u 96 = u96
  generalize u 97 = u97
  generalize u 98 = u98
  generalize u 99 = u99
  generalize u 100 = u100
  generalize u 101 = u101
  generalize u 102 = u102
  generalize u 103 = u103
  generalize u 104 = u104
  generalize u 105 = u105
  generalize u 106 = u106
  generalize u 107 = u107
  generalize u 108 = u108
  generalize u 109 = u109
  generalize u 110 = u110
  generalize u 111 = u111
  generalize u 112 = u112
  generalize u 113 = u113
  generalize u 114 = u114
  generalize u 115 = u115
  generalize u 116 = u116
  generalize u 117 = u117
  generalize u 118 = u118
  generalize u 119 = u119
  generalize u 120 = u120
  generalize u 121 = u121
  generalize u 122 = u122
  generalize u 123 = u123
  generalize u 124 = u124
  generalize u 125 = u125
  generalize u 126 = u126
  generalize u 127 = u127
  generalize u 128 = u128
  generalize u 129 = u129
  generalize u 130 = u130
  generalize u 131 = u131
  generalize u 132 = u132
  generalize u 133 = u133
  generalize u 134 = u134
  generalize u 135 = u135
  generalize u 136 = u136
  generalize u 137 = u137
  generalize u 138 = u138
  generalize u 139 = u139
  generalize u 140 = u140
  generalize u 141 = u141
  generalize u 142 = u142
  generalize u 143 = u143
  generalize u 144 = u144
  generalize u 145 = u145
  generalize u 146 = u146
  generalize u 147 = u147
  generalize u 148 = u148
  generalize u 149 = u149
  generalize u 150 = u150
  generalize u 151 = u151
  generalize u 152 = u152
  clear u
  have HX := hide hX
  have HP := hide (pout hX.p)
  have hol := outs_len9 l
  clear hX
  go_wp2_with fail
  refine HP.out.mono ?_
  rintro e w1 ⟨gg, oc, rfl, gv⟩
  have X1 := hide (HX.out.pstep gv.link ⟨gv.touch, fun _ e => .inl e⟩)
  have R1 := hide gv.row
  clear gv HP
  go_wp2_with fail
  refine (xout X1.out.x X1.out.p.ok).mono ?_
  rintro e w2 ⟨oo, oq, rfl, gx⟩
  have X2 := hide (X1.out.xstep gx.link (gx.touch.mono fun _ _ e => .inl e) (fun _ e => .inl e))
  have R2 := hide gx.row
  have R3 := hide (gx.touch.row R1.out fun j hj e => by
    subst e
    have h1 := (R1.out.lt j hj).1
    have h2 := heap_lt HX.out.x.box
    omega)
  clear gx R1
  go_wp2_with fail
  refine (frames_any R3.out R2.out (by omega)).mono ?_
  rintro e w3 ⟨rfl, b3⟩
  have B3 := hide b3
  clear b3
  go_wp2
  exact HQ.out _ _ ⟨rfl, rfl, rfl, rfl, rfl, rfl, rfl, rfl, rfl, rfl, rfl, rfl, rfl, rfl, rfl, rfl⟩ (X2.out.on B3.out)
set_option maxHeartbeats 8000000 in
set_option maxRecDepth 100000 in
theorem yp_r26 {K : Act → World → Prop} {c : Code} (hc : regOf (Try.f3.body.getD .skip) 26 = some c) (a : Act) {v : Vyp} {wq : World} {w0 : World} {bl bx : Nat} {vl vx : Value} {l m : LK} (hF : Fyp a v) (h6v : v.v6 = .pointer (some ⟨bl, 0, none⟩)) (hX : LX w0 wq bl bx vl vx l m)
    (hQ : ∀ a' w', Fyp a' v → LX w0 w' bl bx vl vx l.tick m → K a' w') :
    Code.wp Try.prog c (Exit.then K fun _ _ _ => False) a wq := by
  have HQ := hide hQ
  clear hQ
  obtain ⟨t', d'⟩ := a
  obtain ⟨v1, v5, v6, v8, v9, v10, v11, v12, v13, v14, v15, v16, v17, v59⟩ := v
  simp only at h6v HQ
  subst h6v
  obtain ⟨hs1, hd1, q1, q5, q6, q8, q9, q10, q11, q12, q13, q14, q15, q16, q17, q59⟩ := hF
  obtain ⟨u, hu⟩ := frame_yp t' hs1
  simp only at hd1 q1 q5 q6 q8 q9 q10 q11 q12 q13 q14 q15 q16 q17 q59
  subst hu hd1
  have e1 : u 1 = v1 := q1
  have e5 : u 5 = v5 := q5
  have e6 : u 6 = .pointer (some ⟨bl, 0, none⟩) := q6
  have e8 : u 8 = v8 := q8
  have e9 : u 9 = v9 := q9
  have e10 : u 10 = v10 := q10
  have e11 : u 11 = v11 := q11
  have e12 : u 12 = v12 := q12
  have e13 : u 13 = v13 := q13
  have e14 : u 14 = v14 := q14
  have e15 : u 15 = v15 := q15
  have e16 : u 16 = v16 := q16
  have e17 : u 17 = v17 := q17
  have e59 : u 59 = v59 := q59
  rw [e1, e5, e6, e8, e9, e10, e11, e12, e13, e14, e15, e16, e17, e59]
  clear q1 e1 q5 e5 q6 e6 q8 e8 q9 e9 q10 e10 q11 e11 q12 e12 q13 e13 q14 e14 q15 e15 q16 e16 q17 e17 q59 e59 hs1
  simp only [Try.f3, Option.getD_some, regOf] at hc
  injection hc with hc
  subst hc
  generalize u 0 = u0
  generalize u 2 = u2
  generalize u 3 = u3
  generalize u 4 = u4
  generalize u 7 = u7
  generalize u 18 = u18
  generalize u 19 = u19
  generalize u 20 = u20
  generalize u 21 = u21
  generalize u 22 = u22
  generalize u 23 = u23
  generalize u 24 = u24
  generalize u 25 = u25
  generalize u 26 = u26
  generalize u 27 = u27
  generalize u 28 = u28
  generalize u 29 = u29
  generalize u 30 = u30
  generalize u 31 = u31
  generalize u 32 = u32
  generalize u 33 = u33
  generalize u 34 = u34
  generalize u 35 = u35
  generalize u 36 = u36
  generalize u 37 = u37
  generalize u 38 = u38
  generalize u 39 = u39
  generalize u 40 = u40
  generalize u 41 = u41
  generalize u 42 = u42
  generalize u 43 = u43
  generalize u 44 = u44
  generalize u 45 = u45
  generalize u 46 = u46
  generalize u 47 = u47
  generalize u 48 = u48
  generalize u 49 = u49
  generalize u 50 = u50
  generalize u 51 = u51
  generalize u 52 = u52
  generalize u 53 = u53
  generalize u 54 = u54
  generalize u 55 = u55
  generalize u 56 = u56
  generalize u 57 = u57
  generalize u 58 = u58
  generalize u 60 = u60
  generalize u 61 = u61
  generalize u 62 = u62
  generalize u 63 = u63
  generalize u 64 = u64
  generalize u 65 = u65
  generalize u 66 = u66
  generalize u 67 = u67
  generalize u 68 = u68
  generalize u 69 = u69
  generalize u 70 = u70
  generalize u 71 = u71
  generalize u 72 = u72
  generalize u 73 = u73
  generalize u 74 = u74
  generalize u 75 = u75
  generalize u 76 = u76
  generalize u 77 = u77
  generalize u 78 = u78
  generalize u 79 = u79
  generalize u 80 = u80
  generalize u 81 = u81
  generalize u 82 = u82
  generalize u 83 = u83
  generalize u 84 = u84
  generalize u 85 = u85
  generalize u 86 = u86
  generalize u 87 = u87
  generalize u 88 = u88
  generalize u 89 = u89
  generalize u 90 = u90
  generalize u 91 = u91
  generalize u 92 = u92
  generalize u 93 = u93
  generalize u 94 = u94
  generalize u 95 = u95
  generalize u 96 = u96
  generalize u 97 = u97
  generalize u 98 = u98
  generalize u 99 = u99
  generalize u 100 = u100
  generalize u 101 = u101
  generalize u 102 = u102
  generalize u 103 = u103
  generalize u 104 = u104
  generalize u 105 = u105
  generalize u 106 = u106
  generalize u 107 = u107
  generalize u 108 = u108
  generalize u 109 = u109
  generalize u 110 = u110
  generalize u 111 = u111
  generalize u 112 = u112
  generalize u 113 = u113
  generalize u 114 = u114
  generalize u 115 = u115
  generalize u 116 = u116
  generalize u 117 = u117
  generalize u 118 = u118
  generalize u 119 = u119
  generalize u 120 = u120
  generalize u 121 = u121
  generalize u 122 = u122
  generalize u 123 = u123
  generalize u 124 = u124
  generalize u 125 = u125
  generalize u 126 = u126
  generalize u 127 = u127
  generalize u 128 = u128
  generalize u 129 = u129
  generalize u 130 = u130
  generalize u 131 = u131
  generalize u 132 = u132
  generalize u 133 = u133
  generalize u 134 = u134
  generalize u 135 = u135
  generalize u 136 = u136
  generalize u 137 = u137
  generalize u 138 = u138
  generalize u 139 = u139
  generalize u 140 = u140
  generalize u 141 = u141
  generalize u 142 = u142
  generalize u 143 = u143
  generalize u 144 = u144
  generalize u 145 = u145
  generalize u 146 = u146
  generalize u 147 = u147
  generalize u 148 = u148
  generalize u 149 = u149
  generalize u 150 = u150
  generalize u 151 = u151
  generalize u 152 = u152
  clear u
  have HX := hide hX
  have HP := hide (ptick hX.p)
  clear hX
  go_wp2_with fail
  refine HP.out.mono ?_
  rintro e w1 ⟨rfl, p1, t1⟩
  have X1 := hide (HX.out.pstep p1 ⟨t1, fun _ e => .inl e⟩)
  clear p1 t1
  go_wp2
  exact HQ.out _ _ ⟨rfl, rfl, rfl, rfl, rfl, rfl, rfl, rfl, rfl, rfl, rfl, rfl, rfl, rfl, rfl, rfl⟩ X1.out
set_option maxHeartbeats 8000000 in
set_option maxRecDepth 100000 in
theorem yp_r27 {K : Act → World → Prop} {c : Code} (hc : regOf (Try.f3.body.getD .skip) 27 = some c) (a : Act) {v : Vyp} {wq : World} {w0 : World} {bl bx : Nat} {vl vx : Value} {l m : LK} (hF : Fyp a v) (h8v : v.v8 = .pointer (some ⟨bx, 0, none⟩)) (hX : LX w0 wq bl bx vl vx l m)
    (hQ : ∀ a' w', Fyp a' v → LX w0 w' bl bx vl vx l m.tick → K a' w') :
    Code.wp Try.prog c (Exit.then K fun _ _ _ => False) a wq := by
  have HQ := hide hQ
  clear hQ
  obtain ⟨t', d'⟩ := a
  obtain ⟨v1, v5, v6, v8, v9, v10, v11, v12, v13, v14, v15, v16, v17, v59⟩ := v
  simp only at h8v HQ
  subst h8v
  obtain ⟨hs1, hd1, q1, q5, q6, q8, q9, q10, q11, q12, q13, q14, q15, q16, q17, q59⟩ := hF
  obtain ⟨u, hu⟩ := frame_yp t' hs1
  simp only at hd1 q1 q5 q6 q8 q9 q10 q11 q12 q13 q14 q15 q16 q17 q59
  subst hu hd1
  have e1 : u 1 = v1 := q1
  have e5 : u 5 = v5 := q5
  have e6 : u 6 = v6 := q6
  have e8 : u 8 = .pointer (some ⟨bx, 0, none⟩) := q8
  have e9 : u 9 = v9 := q9
  have e10 : u 10 = v10 := q10
  have e11 : u 11 = v11 := q11
  have e12 : u 12 = v12 := q12
  have e13 : u 13 = v13 := q13
  have e14 : u 14 = v14 := q14
  have e15 : u 15 = v15 := q15
  have e16 : u 16 = v16 := q16
  have e17 : u 17 = v17 := q17
  have e59 : u 59 = v59 := q59
  rw [e1, e5, e6, e8, e9, e10, e11, e12, e13, e14, e15, e16, e17, e59]
  clear q1 e1 q5 e5 q6 e6 q8 e8 q9 e9 q10 e10 q11 e11 q12 e12 q13 e13 q14 e14 q15 e15 q16 e16 q17 e17 q59 e59 hs1
  simp only [Try.f3, Option.getD_some, regOf] at hc
  injection hc with hc
  subst hc
  generalize u 0 = u0
  generalize u 2 = u2
  generalize u 3 = u3
  generalize u 4 = u4
  generalize u 7 = u7
  generalize u 18 = u18
  generalize u 19 = u19
  generalize u 20 = u20
  generalize u 21 = u21
  generalize u 22 = u22
  generalize u 23 = u23
  generalize u 24 = u24
  generalize u 25 = u25
  generalize u 26 = u26
  generalize u 27 = u27
  generalize u 28 = u28
  generalize u 29 = u29
  generalize u 30 = u30
  generalize u 31 = u31
  generalize u 32 = u32
  generalize u 33 = u33
  generalize u 34 = u34
  generalize u 35 = u35
  generalize u 36 = u36
  generalize u 37 = u37
  generalize u 38 = u38
  generalize u 39 = u39
  generalize u 40 = u40
  generalize u 41 = u41
  generalize u 42 = u42
  generalize u 43 = u43
  generalize u 44 = u44
  generalize u 45 = u45
  generalize u 46 = u46
  generalize u 47 = u47
  generalize u 48 = u48
  generalize u 49 = u49
  generalize u 50 = u50
  generalize u 51 = u51
  generalize u 52 = u52
  generalize u 53 = u53
  generalize u 54 = u54
  generalize u 55 = u55
  generalize u 56 = u56
  generalize u 57 = u57
  generalize u 58 = u58
  generalize u 60 = u60
  generalize u 61 = u61
  generalize u 62 = u62
  generalize u 63 = u63
  generalize u 64 = u64
  generalize u 65 = u65
  generalize u 66 = u66
  generalize u 67 = u67
  generalize u 68 = u68
  generalize u 69 = u69
  generalize u 70 = u70
  generalize u 71 = u71
  generalize u 72 = u72
  generalize u 73 = u73
  generalize u 74 = u74
  generalize u 75 = u75
  generalize u 76 = u76
  generalize u 77 = u77
  generalize u 78 = u78
  generalize u 79 = u79
  generalize u 80 = u80
  generalize u 81 = u81
  generalize u 82 = u82
  generalize u 83 = u83
  generalize u 84 = u84
  generalize u 85 = u85
  generalize u 86 = u86
  generalize u 87 = u87
  generalize u 88 = u88
  generalize u 89 = u89
  generalize u 90 = u90
  generalize u 91 = u91
  generalize u 92 = u92
  generalize u 93 = u93
  generalize u 94 = u94
  generalize u 95 = u95
  generalize u 96 = u96
  generalize u 97 = u97
  generalize u 98 = u98
  generalize u 99 = u99
  generalize u 100 = u100
  generalize u 101 = u101
  generalize u 102 = u102
  generalize u 103 = u103
  generalize u 104 = u104
  generalize u 105 = u105
  generalize u 106 = u106
  generalize u 107 = u107
  generalize u 108 = u108
  generalize u 109 = u109
  generalize u 110 = u110
  generalize u 111 = u111
  generalize u 112 = u112
  generalize u 113 = u113
  generalize u 114 = u114
  generalize u 115 = u115
  generalize u 116 = u116
  generalize u 117 = u117
  generalize u 118 = u118
  generalize u 119 = u119
  generalize u 120 = u120
  generalize u 121 = u121
  generalize u 122 = u122
  generalize u 123 = u123
  generalize u 124 = u124
  generalize u 125 = u125
  generalize u 126 = u126
  generalize u 127 = u127
  generalize u 128 = u128
  generalize u 129 = u129
  generalize u 130 = u130
  generalize u 131 = u131
  generalize u 132 = u132
  generalize u 133 = u133
  generalize u 134 = u134
  generalize u 135 = u135
  generalize u 136 = u136
  generalize u 137 = u137
  generalize u 138 = u138
  generalize u 139 = u139
  generalize u 140 = u140
  generalize u 141 = u141
  generalize u 142 = u142
  generalize u 143 = u143
  generalize u 144 = u144
  generalize u 145 = u145
  generalize u 146 = u146
  generalize u 147 = u147
  generalize u 148 = u148
  generalize u 149 = u149
  generalize u 150 = u150
  generalize u 151 = u151
  generalize u 152 = u152
  clear u
  have HX := hide hX
  have HP := hide (xtick hX.x)
  clear hX
  go_wp2_with fail
  refine HP.out.mono ?_
  rintro e w1 ⟨rfl, p1, t1⟩
  have X1 := hide (HX.out.xstep p1 (t1.mono fun _ _ e => .inl e) (fun _ e => .inl e))
  clear p1 t1
  go_wp2
  exact HQ.out _ _ ⟨rfl, rfl, rfl, rfl, rfl, rfl, rfl, rfl, rfl, rfl, rfl, rfl, rfl, rfl, rfl, rfl⟩ X1.out
end Go.Proofs.Ythgfijmpofbchaa
