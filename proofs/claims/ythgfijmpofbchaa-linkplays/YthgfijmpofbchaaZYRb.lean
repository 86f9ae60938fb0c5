/-
  LinkPlays: a body is sent to both (mkyp.py).
-/
import Derived.Test.YthgfijmpofbchaaZYRa
namespace Go.Proofs.Ythgfijmpofbchaa
open Go.RowKit

attribute [local go_sem ↓] Go.wp_at_zero Go.wp_at_succ
set_option linter.unusedSimpArgs false
set_option linter.unusedVariables false
set_option maxHeartbeats 8000000 in
set_option maxRecDepth 100000 in
theorem yp_r22 {K : Act → World → Prop} {c : Code} (hc : regOf (Try.f3.body.getD .skip) 22 = some c) (a : Act) {v : Vyp} {wq : World} {w0 : World} {bl bx : Nat} {vl vx : Value} {l : LK} {d : Nat} {t : DD} (hF : Fyp a v) (h6v : v.v6 = .pointer (some ⟨bl, 0, none⟩)) (h8v : v.v8 = .pointer (some ⟨bx, 0, none⟩)) (h10v : v.v10 = .pointer (some ⟨d, 0, none⟩)) (hX : LX w0 wq bl bx vl vx l l) (hD : wq.heap[d]? = some (.cells t.c 33 (0, 0))) (hs : t.s.size ≤ 281474976710656)
    (hQ : ∀ a' w' vl' vx', Fyp a' { v with v11 := .bool true } → LX w0 w' bl bx vl' vx' (l.send t.s).2 (l.send t.s).2 → K a' w') :
    Code.wp Try.prog c (Exit.then K fun _ _ _ => False) a wq := by
  have HQ := hide hQ
  clear hQ
  obtain ⟨t', d'⟩ := a
  obtain ⟨v1, v5, v6, v8, v9, v10, v11, v12, v13, v14, v15, v16, v17, v59⟩ := v
  simp only at h6v h8v h10v HQ
  subst h6v h8v h10v
  obtain ⟨hs1, hd1, q1, q5, q6, q8, q9, q10, q11, q12, q13, q14, q15, q16, q17, q59⟩ := hF
  obtain ⟨u, hu⟩ := frame_yp t' hs1
  simp only at hd1 q1 q5 q6 q8 q9 q10 q11 q12 q13 q14 q15 q16 q17 q59
  subst hu hd1
  have e1 : u 1 = v1 := q1
  have e5 : u 5 = v5 := q5
  have e6 : u 6 = .pointer (some ⟨bl, 0, none⟩) := q6
  have e8 : u 8 = .pointer (some ⟨bx, 0, none⟩) := q8
  have e9 : u 9 = v9 := q9
  have e10 : u 10 = .pointer (some ⟨d, 0, none⟩) := q10
  have e11 : u 11 = v11 := q11
  have e12 : u 12 = v12 := q12
  have e13 : u 13 = v13 := q13
  have e14 : u 14 = v14 := q14
  have e15 : u 15 = v15 := q15
  have e16 : u 16 = v16 := q16
  have e17 : u 17 = v17 := q17
  have e59 : u 59 = v59 := q59
  rw [e1, e5, e6, e8, e9, e10, e11, e12, e13, e14, e15, e16, e17, e59]
  clear q1 e1 q5 e5 q6 e6 q8 e8 q9 e9 q10 e10 q11 e11 q12 e12 q13 e13 q14 e14 q15 e15 q16 e16 q17 e17 q59 e59 hs1
  simp only [Try.f3, Option.getD_some, regOf] at hc
  injection hc with hc
  subst hc
  generalize u 0 = u0
  generalize u 2 = u2
  generalize u 3 = u3
  generalize u 4 = u4
  generalize u 7 = u7
  generalize u 18 = u18
  generalize u 19 = u19
  generalize u 20 = u20
  generalize u 21 = u21
  generalize u 22 = u22
  generalize u 23 = u23
  generalize u 24 = u24
  generalize u 25 = u25
  generalize u 26 = u26
  generalize u 27 = u27
  generalize u 28 = u28
  generalize u 29 = u29
  generalize u 30 = u30
  generalize u 31 = u31
  generalize u 32 = u32
  generalize u 33 = u33
  generalize u 34 = u34
  generalize u 35 = u35
  generalize u 36 = u36
  generalize u 37 = u37
  generalize u 38 = u38
  generalize u 39 = u39
  generalize u 40 = u40
  generalize u 41 = u41
  generalize u 42 = u42
  generalize u 43 = u43
  generalize u 44 = u44
  generalize u 45 = u45
  generalize u 46 = u46
  generalize u 47 = u47
  generalize u 48 = u48
  generalize u 49 = u49
  generalize u 50 = u50
  generalize u 51 = u51
  generalize u 52 = u52
  generalize u 53 = u53
  generalize u 54 = u54
  generalize u 55 = u55
  generalize u 56 = u56
  generalize u 57 = u57
  generalize u 58 = u58
  generalize u 60 = u60
  generalize u 61 = u61
  generalize u 62 = u62
  generalize u 63 = u63
  generalize u 64 = u64
  generalize u 65 = u65
  generalize u 66 = u66
  generalize u 67 = u67
  generalize u 68 = u68
  generalize u 69 = u69
  generalize u 70 = u70
  generalize u 71 = u71
  generalize u 72 = u72
  generalize u 73 = u73
  generalize u 74 = u74
  generalize u 75 = u75
  generalize u 76 = u76
  generalize u 77 = u77
  generalize u 78 = u78
  generalize u 79 = u79
  generalize u 80 = u80
  generalize u 81 = u81
  generalize u 82 = u82
  generalize u 83 = u83
  generalize u 84 = u84
  generalize u 85 = u85
  generalize u 86 = u86
  generalize u 87 = u87
  generalize u 88 = u88
  generalize u 89 = u89
  generalize u 90 = u90
  generalize u 91 = u91
  generalize u 92 = u92
  generalize u 93 = u93
  generalize u 94 = u94
  generalize u 95 = u95
  generalize u 96 = u96
  generalize u 97 = u97
  generalize u 98 = u98
  generalize u 99 = u99
  generalize u 100 = u100
  generalize u 101 = u101
  generalize u 102 = u102
  generalize u 103 = u103
  generalize u 104 = u104
  generalize u 105 = u105
  generalize u 106 = u106
  generalize u 107 = u107
  generalize u 108 = u108
  generalize u 109 = u109
  generalize u 110 = u110
  generalize u 111 = u111
  generalize u 112 = u112
  generalize u 113 = u113
  generalize u 114 = u114
  generalize u 115 = u115
  generalize u 116 = u116
  generalize u 117 = u117
  generalize u 118 = u118
  generalize u 119 = u119
  generalize u 120 = u120
  generalize u 121 = u121
  generalize u 122 = u122
  generalize u 123 = u123
  generalize u 124 = u124
  generalize u 125 = u125
  generalize u 126 = u126
  generalize u 127 = u127
  generalize u 128 = u128
  generalize u 129 = u129
  generalize u 130 = u130
  generalize u 131 = u131
  generalize u 132 = u132
  generalize u 133 = u133
  generalize u 134 = u134
  generalize u 135 = u135
  generalize u 136 = u136
  generalize u 137 = u137
  generalize u 138 = u138
  generalize u 139 = u139
  generalize u 140 = u140
  generalize u 141 = u141
  generalize u 142 = u142
  generalize u 143 = u143
  generalize u 144 = u144
  generalize u 145 = u145
  generalize u 146 = u146
  generalize u 147 = u147
  generalize u 148 = u148
  generalize u 149 = u149
  generalize u 150 = u150
  generalize u 151 = u151
  generalize u 152 = u152
  clear u
  have HX := hide hX
  have HP := hide (fun W vl vx l2 m2 (h : LX w0 W bl bx vl vx l2 m2) => psend h.p t.s hs)
  have HS := hide (fun W vl vx l2 m2 (h : LX w0 W bl bx vl vx l2 m2) => xsend h.x t.s hs)
  have KK1 := hide (enters_of Try.func9 (by kernel_rfl) rfl)
  have KK2 := hide (enters_of Try.func10 (by kernel_rfl) rfl)
  have cd := box_cell hD 1 rfl
  have DW : Hid (∀ W : World, W.heap[d]? = some (.cells t.c 33 (0, 0)) → W.cell? ⟨d, 1, none⟩ = some (.string t.s)) := fun W h => box_cell h 1 rfl
  have D0 := hide hD
  have L0 := hide hX.drew
  clear hX hD hs
  obtain ⟨er, her⟩ : ∃ er, (l.send t.s).1 = er := ⟨_, rfl⟩
  obtain ⟨ls, hls⟩ : ∃ ls, (l.send t.s).2 = ls := ⟨_, rfl⟩
  have HER := hide her
  have HLS := hide hls
  clear her hls
  obtain ⟨tk, ts, tf⟩ := t
  simp only at cd DW HP HS HQ HER HLS
  rw [HLS.out] at HQ
  go_region_held_law (fun w' => w'.cell? ⟨d, 1, none⟩ = some (.string ts)) (first | exact KS2.out | exact KS1.out | exact cd) ((first
    | (refine step_fn_d (by rfl) 107 (by rfl) 9 _ _ (by rfl) KK1.out [.pointer (some ⟨bl, 0, none⟩), .string ts] rfl (HP.out _ _ _ _ _ X1.out) ?_; rintro e w2 ⟨rfl, v2, p2, s2⟩; rw [HER.out]; refine ⟨_, rfl, ?_⟩; have X2 := hide (X1.out.pstep p2 s2); have KS2 : Hid (w2.cell? ⟨d, 1, none⟩ = some (.string ts)) := DW.out _ (s2.touch.at DX1.out (X1.out.p.other DX1.out (by decide) (by decide))); clear p2 s2)
    | (refine step_fn_d (by rfl) 111 (by rfl) 10 _ _ (by rfl) KK2.out [.pointer (some ⟨bx, 0, none⟩), .string ts] rfl (HS.out _ _ _ _ _ P1.out) ?_; rintro e w2 ⟨rfl, v2, p2, s2⟩; rw [HER.out]; refine ⟨_, rfl, ?_⟩; have X2 := hide (P1.out.xstep p2 s2.touch s2.grew); have KS2 : Hid (w2.cell? ⟨d, 1, none⟩ = some (.string ts)) := DW.out _ (s2.touch.at DP1.out (P1.out.x.other DP1.out (by decide) (by decide))); clear p2 s2)
    | (refine step_fn_d (by rfl) 107 (by rfl) 9 _ _ (by rfl) KK1.out [.pointer (some ⟨bl, 0, none⟩), .string ts] rfl (HP.out _ _ _ _ _ L0.out) ?_; rintro e w1 ⟨rfl, v1, p1, s1⟩; rw [HER.out]; refine ⟨_, rfl, ?_⟩; have P1 := hide (L0.out.pstep p1 s1); have DP1 := hide (s1.touch.at D0.out (L0.out.p.other D0.out (by decide) (by decide))); have KS1 : Hid (w1.cell? ⟨d, 1, none⟩ = some (.string ts)) := DW.out _ DP1.out; clear p1 s1)
    | (refine step_fn_d (by rfl) 111 (by rfl) 10 _ _ (by rfl) KK2.out [.pointer (some ⟨bx, 0, none⟩), .string ts] rfl (HS.out _ _ _ _ _ L0.out) ?_; rintro e w1 ⟨rfl, v1, p1, s1⟩; rw [HER.out]; refine ⟨_, rfl, ?_⟩; have X1 := hide (L0.out.xstep p1 s1.touch s1.grew); have DX1 := hide (s1.touch.at D0.out (L0.out.x.other D0.out (by decide) (by decide))); have KS1 : Hid (w1.cell? ⟨d, 1, none⟩ = some (.string ts)) := DW.out _ DX1.out; clear p1 s1)))
  all_goals (
    have X3 := X2.out
    simp only [HLS.out] at X3
    exact HQ.out _ _ _ _ ⟨rfl, rfl, rfl, rfl, rfl, rfl, rfl, rfl, (by first | rfl | simp), rfl, rfl, rfl, rfl, rfl, rfl, rfl⟩ X3)
end Go.Proofs.Ythgfijmpofbchaa
