/-
  ViewMeets: its regions with calls (mklm.py).
-/
import Derived.Test.YtbkglpbkbfopjaaZLM1
namespace Go.Proofs.Ytbkglpbkbfopjaa
open Go.RowKit

attribute [local go_sem ↓] Go.wp_at_zero Go.wp_at_succ
set_option linter.unusedSimpArgs false
set_option linter.unusedVariables false
theorem i64_wrap {n : Int} (h0 : -9223372036854775808 ≤ n) (h1 : n < 9223372036854775808) : IntKind.i64.wrap n = n := by
  simp only [IntKind.wrap, IntKind.bits, IntKind.signed]
  simp
  split <;> omega
set_option maxHeartbeats 8000000 in
set_option maxRecDepth 100000 in
theorem lm_r10 {K : Act → World → Prop} {c : Code} (hc : regOf (Try.f5.body.getD .skip) 10 = some c) (a : Act) {v : Vlm} {wq : World} {d p q k cp k2 cq k3 cr i b off : Nat} {num num2 num3 mn ml : Int} {bo co : Option Addr} {r2 : Bool} (hF : Flm a v) (h4v : v.v4 = .pointer (some ⟨d, 0, none⟩)) (h10v : v.v10 = .pointer (some ⟨p, 0, none⟩)) (h12v : v.v12 = .pointer (some ⟨q, 0, none⟩)) (h15v : v.v15 = .int .i64 (i : Int)) (hi : i < k) (hb : b < wq.heap.size) (hD : wq.heap[d]? = some (.cells #[.int .i64 num, .slice (some ⟨b, off, none⟩) k cp] tView (0, 0))) (hP : wq.heap[p]? = some (.cells #[.int .i64 num2, .slice bo k2 cq] tView (0, 0))) (hR : wq.heap[q]? = some (.cells #[.int .i64 num3, .slice co k3 cr] tView (0, 0))) (y0 : wq.cell? ⟨b, off + i * 2, none⟩ = some (.int .i64 mn)) (y1 : wq.cell? ⟨b, off + i * 2 + 1, none⟩ = some (.int .i64 ml)) (e0 : ∀ W, Below wq.heap.size wq W → Calls Try.prog 15 #[.agg #[.int .i64 num2, .slice bo k2 cq], .agg #[.int .i64 mn, .int .i64 ml]] W fun e w' => e = .returned (.bool true) ∧ Below W.heap.size W w') (e1 : ∀ W, Below wq.heap.size wq W → Calls Try.prog 15 #[.agg #[.int .i64 num3, .slice co k3 cr], .agg #[.int .i64 mn, .int .i64 ml]] W fun e w' => e = .returned (.bool r2) ∧ Below W.heap.size W w')
    (hQ : ∀ a' w', Flm a' v → a'.tmps.getD 75 undef = .bool r2 → Below wq.heap.size wq w' → K a' w') :
    Code.wp Try.prog c (Exit.then K fun _ _ _ => False) a wq := by
  have HQ := hide hQ
  clear hQ
  obtain ⟨t', d'⟩ := a
  obtain ⟨v1, v2, v3, v4, v8, v9, v10, v11, v12, v13, v14, v15, v16, v17, v18, v19, v20⟩ := v
  simp only at h4v h10v h12v h15v HQ
  subst h4v h10v h12v h15v
  obtain ⟨hs1, hd1, q1, q2, q3, q4, q8, q9, q10, q11, q12, q13, q14, q15, q16, q17, q18, q19, q20⟩ := hF
  obtain ⟨u, hu⟩ := frame_lm t' hs1
  simp only at hd1 q1 q2 q3 q4 q8 q9 q10 q11 q12 q13 q14 q15 q16 q17 q18 q19 q20
  subst hu hd1
  have e1 : u 1 = v1 := q1
  have e2 : u 2 = v2 := q2
  have e3 : u 3 = v3 := q3
  have e4 : u 4 = .pointer (some ⟨d, 0, none⟩) := q4
  have e8 : u 8 = v8 := q8
  have e9 : u 9 = v9 := q9
  have e10 : u 10 = .pointer (some ⟨p, 0, none⟩) := q10
  have e11 : u 11 = v11 := q11
  have e12 : u 12 = .pointer (some ⟨q, 0, none⟩) := q12
  have e13 : u 13 = v13 := q13
  have e14 : u 14 = v14 := q14
  have e15 : u 15 = .int .i64 (i : Int) := q15
  have e16 : u 16 = v16 := q16
  have e17 : u 17 = v17 := q17
  have e18 : u 18 = v18 := q18
  have e19 : u 19 = v19 := q19
  have e20 : u 20 = v20 := q20
  rw [e1, e2, e3, e4, e8, e9, e10, e11, e12, e13, e14, e15, e16, e17, e18, e19, e20]
  clear q1 e1 q2 e2 q3 e3 q4 e4 q8 e8 q9 e9 q10 e10 q11 e11 q12 e12 q13 e13 q14 e14 q15 e15 q16 e16 q17 e17 q18 e18 q19 e19 q20 e20 hs1
  simp only [Try.f5, Option.getD_some, regOf] at hc
  injection hc with hc
  subst hc
  generalize u 0 = u0
  generalize u 5 = u5
  generalize u 6 = u6
  generalize u 7 = u7
  generalize u 21 = u21
  generalize u 22 = u22
  generalize u 23 = u23
  generalize u 24 = u24
  generalize u 25 = u25
  generalize u 26 = u26
  generalize u 27 = u27
  generalize u 28 = u28
  generalize u 29 = u29
  generalize u 30 = u30
  generalize u 31 = u31
  generalize u 32 = u32
  generalize u 33 = u33
  generalize u 34 = u34
  generalize u 35 = u35
  generalize u 36 = u36
  generalize u 37 = u37
  generalize u 38 = u38
  generalize u 39 = u39
  generalize u 40 = u40
  generalize u 41 = u41
  generalize u 42 = u42
  generalize u 43 = u43
  generalize u 44 = u44
  generalize u 45 = u45
  generalize u 46 = u46
  generalize u 47 = u47
  generalize u 48 = u48
  generalize u 49 = u49
  generalize u 50 = u50
  generalize u 51 = u51
  generalize u 52 = u52
  generalize u 53 = u53
  generalize u 54 = u54
  generalize u 55 = u55
  generalize u 56 = u56
  generalize u 57 = u57
  generalize u 58 = u58
  generalize u 59 = u59
  generalize u 60 = u60
  generalize u 61 = u61
  generalize u 62 = u62
  generalize u 63 = u63
  generalize u 64 = u64
  generalize u 65 = u65
  generalize u 66 = u66
  generalize u 67 = u67
  generalize u 68 = u68
  generalize u 69 = u69
  generalize u 70 = u70
  generalize u 71 = u71
  generalize u 72 = u72
  generalize u 73 = u73
  generalize u 74 = u74
  generalize u 75 = u75
  generalize u 76 = u76
  generalize u 77 = u77
  generalize u 78 = u78
  generalize u 79 = u79
  generalize u 80 = u80
  generalize u 81 = u81
  generalize u 82 = u82
  generalize u 83 = u83
  generalize u 84 = u84
  generalize u 85 = u85
  generalize u 86 = u86
  generalize u 87 = u87
  generalize u 88 = u88
  generalize u 89 = u89
  generalize u 90 = u90
  generalize u 91 = u91
  generalize u 92 = u92
  generalize u 93 = u93
  generalize u 94 = u94
  generalize u 95 = u95
  generalize u 96 = u96
  generalize u 97 = u97
  generalize u 98 = u98
  generalize u 99 = u99
  generalize u 100 = u100
  generalize u 101 = u101
  generalize u 102 = u102
  generalize u 103 = u103
  generalize u 104 = u104
  generalize u 105 = u105
  generalize u 106 = u106
  generalize u 107 = u107
  generalize u 108 = u108
  generalize u 109 = u109
  generalize u 110 = u110
  generalize u 111 = u111
  generalize u 112 = u112
  generalize u 113 = u113
  generalize u 114 = u114
  generalize u 115 = u115
  generalize u 116 = u116
  generalize u 117 = u117
  generalize u 118 = u118
  generalize u 119 = u119
  generalize u 120 = u120
  generalize u 121 = u121
  generalize u 122 = u122
  generalize u 123 = u123
  generalize u 124 = u124
  generalize u 125 = u125
  generalize u 126 = u126
  generalize u 127 = u127
  generalize u 128 = u128
  generalize u 129 = u129
  generalize u 130 = u130
  generalize u 131 = u131
  generalize u 132 = u132
  generalize u 133 = u133
  generalize u 134 = u134
  generalize u 135 = u135
  generalize u 136 = u136
  generalize u 137 = u137
  generalize u 138 = u138
  generalize u 139 = u139
  generalize u 140 = u140
  generalize u 141 = u141
  generalize u 142 = u142
  generalize u 143 = u143
  generalize u 144 = u144
  generalize u 145 = u145
  generalize u 146 = u146
  generalize u 147 = u147
  generalize u 148 = u148
  generalize u 149 = u149
  generalize u 150 = u150
  generalize u 151 = u151
  generalize u 152 = u152
  generalize u 153 = u153
  generalize u 154 = u154
  clear u
  have HBB := hide hb
  have CS : Hid (∀ W : World, Below wq.heap.size wq W → (W.cell? ⟨d, 1, none⟩ = some (.slice (some ⟨b, off, none⟩) k cp) ∧ W.cell? ⟨p, 0, none⟩ = some (.int .i64 num2) ∧ W.cell? ⟨p, 1, none⟩ = some (.slice bo k2 cq) ∧ W.cell? ⟨q, 0, none⟩ = some (.int .i64 num3) ∧ W.cell? ⟨q, 1, none⟩ = some (.slice co k3 cr) ∧ W.cell? ⟨b, off + i * 2, none⟩ = some (.int .i64 mn) ∧ W.cell? ⟨b, off + i * 2 + 1, none⟩ = some (.int .i64 ml))) := fun W hb => by
    have h1 := (hb.block _ (heap_lt hD)).trans hD
    have h2 := (hb.block _ (heap_lt hP)).trans hP
    have h3 := (hb.block _ (heap_lt hR)).trans hR
    exact ⟨box_cell h1 1 rfl, box_cell h2 0 rfl, box_cell h2 1 rfl, box_cell h3 0 rfl, box_cell h3 1 rfl, (hb.cell (p := ⟨b, _, none⟩) HBB.out).trans y0, (hb.cell (p := ⟨b, _, none⟩) HBB.out).trans y1⟩
  have E0 := hide e0
  have KK0 := hide (enters_of Try.func15 (by kernel_rfl) rfl)
  have E1 := hide e1
  have KK1 := hide (enters_of Try.func15 (by kernel_rfl) rfl)
  have BD : Hid (Below wq.heap.size wq wq.drew) := (Below.refl _ _).drew
  have hi0 : (0 : Int) ≤ (i : Int) := by omega
  have hi1 : (i : Int) < (k : Int) := by omega
  clear hD hP hR e0 e1 y0 y1
  go_region_held_law (fun W => W.cell? ⟨d, 1, none⟩ = some (.slice (some ⟨b, off, none⟩) k cp) ∧ W.cell? ⟨p, 0, none⟩ = some (.int .i64 num2) ∧ W.cell? ⟨p, 1, none⟩ = some (.slice bo k2 cq) ∧ W.cell? ⟨q, 0, none⟩ = some (.int .i64 num3) ∧ W.cell? ⟨q, 1, none⟩ = some (.slice co k3 cr) ∧ W.cell? ⟨b, off + i * 2, none⟩ = some (.int .i64 mn) ∧ W.cell? ⟨b, off + i * 2 + 1, none⟩ = some (.int .i64 ml)) (exact CS.out _ BD.out) ((first
    | (refine step_fn_d (by rfl) 66 (by rfl) 15 _ _ (by rfl) KK0.out [.agg #[.int .i64 num2, .slice bo k2 cq], .agg #[.int .i64 mn, .int .i64 ml]] rfl (E0.out _ BD.out) ?_; rintro e w2 ⟨rfl, b2⟩; refine ⟨_, rfl, ?_⟩; have BD : Hid (Below wq.heap.size wq w2) := BD.out.trans (b2.mono BD.out.size); clear b2)
    | (refine step_fn_d (by rfl) 74 (by rfl) 15 _ _ (by rfl) KK1.out [.agg #[.int .i64 num3, .slice co k3 cr], .agg #[.int .i64 mn, .int .i64 ml]] rfl (E1.out _ BD.out) ?_; rintro e w2 ⟨rfl, b2⟩; refine ⟨_, rfl, ?_⟩; have BD : Hid (Below wq.heap.size wq w2) := BD.out.trans (b2.mono BD.out.size); clear b2)))
  all_goals exact HQ.out _ _ ⟨rfl, rfl, rfl, rfl, rfl, rfl, rfl, rfl, rfl, rfl, rfl, rfl, rfl, rfl, rfl, rfl, rfl, rfl, rfl⟩ (by simp) BD.out
set_option maxHeartbeats 8000000 in
set_option maxRecDepth 100000 in
theorem lm_r27 {K : Act → World → Prop} {c : Code} (hc : regOf (Try.f5.body.getD .skip) 27 = some c) (a : Act) {v : Vlm} {wq : World} {d p k cp k2 cq ct cc mj : Nat} {num : Int} {ao bo : Option Addr} (hF : Flm a v) (h4v : v.v4 = .pointer (some ⟨d, 0, none⟩)) (h9v : v.v9 = .bool true) (h10v : v.v10 = .pointer (some ⟨p, 0, none⟩)) (h14v : v.v14 = .int .i64 (ct : Int)) (hct : 0 < ct) (hmj : mj ≤ cc) (hnum : 1 ≤ num ∧ num ≤ 9007199254740991) (hD : wq.heap[d]? = some (.cells #[.int .i64 num, .slice ao k cp] tView (0, 0))) (hP : wq.heap[p]? = some (.cells #[.int .i64 (num + 1), .slice bo k2 cq] tView (0, 0))) (e0 : ∀ W, Below wq.heap.size wq W → Calls Try.prog 17 #[.agg #[.int .i64 num, .slice ao k cp], .agg #[.int .i64 (num + 1), .slice bo k2 cq]] W fun e w' => e = .returned (.int .i64 (cc : Int)) ∧ Below W.heap.size W w') (e1 : ∀ W, Below wq.heap.size wq W → Calls Try.prog 13 #[.agg #[.int .i64 num, .slice ao k cp]] W fun e w' => e = .returned (.int .i64 (mj : Int)) ∧ Below W.heap.size W w') (e2 : ∀ W, Below wq.heap.size wq W → Calls Try.prog 12 #[.agg #[.int .i64 (num + 1), .slice bo k2 cq]] W fun e w' => e = .returned (.bool true) ∧ Below W.heap.size W w')
    (hQ : ∀ a' w', Flm a' { v with v8 := .bool true } → Below wq.heap.size wq w' → K a' w') :
    Code.wp Try.prog c (Exit.then K fun _ _ _ => False) a wq := by
  have HQ := hide hQ
  clear hQ
  obtain ⟨t', d'⟩ := a
  obtain ⟨v1, v2, v3, v4, v8, v9, v10, v11, v12, v13, v14, v15, v16, v17, v18, v19, v20⟩ := v
  simp only at h4v h9v h10v h14v HQ
  subst h4v h9v h10v h14v
  obtain ⟨hs1, hd1, q1, q2, q3, q4, q8, q9, q10, q11, q12, q13, q14, q15, q16, q17, q18, q19, q20⟩ := hF
  obtain ⟨u, hu⟩ := frame_lm t' hs1
  simp only at hd1 q1 q2 q3 q4 q8 q9 q10 q11 q12 q13 q14 q15 q16 q17 q18 q19 q20
  subst hu hd1
  have e1 : u 1 = v1 := q1
  have e2 : u 2 = v2 := q2
  have e3 : u 3 = v3 := q3
  have e4 : u 4 = .pointer (some ⟨d, 0, none⟩) := q4
  have e8 : u 8 = v8 := q8
  have e9 : u 9 = .bool true := q9
  have e10 : u 10 = .pointer (some ⟨p, 0, none⟩) := q10
  have e11 : u 11 = v11 := q11
  have e12 : u 12 = v12 := q12
  have e13 : u 13 = v13 := q13
  have e14 : u 14 = .int .i64 (ct : Int) := q14
  have e15 : u 15 = v15 := q15
  have e16 : u 16 = v16 := q16
  have e17 : u 17 = v17 := q17
  have e18 : u 18 = v18 := q18
  have e19 : u 19 = v19 := q19
  have e20 : u 20 = v20 := q20
  rw [e1, e2, e3, e4, e8, e9, e10, e11, e12, e13, e14, e15, e16, e17, e18, e19, e20]
  clear q1 e1 q2 e2 q3 e3 q4 e4 q8 e8 q9 e9 q10 e10 q11 e11 q12 e12 q13 e13 q14 e14 q15 e15 q16 e16 q17 e17 q18 e18 q19 e19 q20 e20 hs1
  simp only [Try.f5, Option.getD_some, regOf] at hc
  injection hc with hc
  subst hc
  generalize u 0 = u0
  generalize u 5 = u5
  generalize u 6 = u6
  generalize u 7 = u7
  generalize u 21 = u21
  generalize u 22 = u22
  generalize u 23 = u23
  generalize u 24 = u24
  generalize u 25 = u25
  generalize u 26 = u26
  generalize u 27 = u27
  generalize u 28 = u28
  generalize u 29 = u29
  generalize u 30 = u30
  generalize u 31 = u31
  generalize u 32 = u32
  generalize u 33 = u33
  generalize u 34 = u34
  generalize u 35 = u35
  generalize u 36 = u36
  generalize u 37 = u37
  generalize u 38 = u38
  generalize u 39 = u39
  generalize u 40 = u40
  generalize u 41 = u41
  generalize u 42 = u42
  generalize u 43 = u43
  generalize u 44 = u44
  generalize u 45 = u45
  generalize u 46 = u46
  generalize u 47 = u47
  generalize u 48 = u48
  generalize u 49 = u49
  generalize u 50 = u50
  generalize u 51 = u51
  generalize u 52 = u52
  generalize u 53 = u53
  generalize u 54 = u54
  generalize u 55 = u55
  generalize u 56 = u56
  generalize u 57 = u57
  generalize u 58 = u58
  generalize u 59 = u59
  generalize u 60 = u60
  generalize u 61 = u61
  generalize u 62 = u62
  generalize u 63 = u63
  generalize u 64 = u64
  generalize u 65 = u65
  generalize u 66 = u66
  generalize u 67 = u67
  generalize u 68 = u68
  generalize u 69 = u69
  generalize u 70 = u70
  generalize u 71 = u71
  generalize u 72 = u72
  generalize u 73 = u73
  generalize u 74 = u74
  generalize u 75 = u75
  generalize u 76 = u76
  generalize u 77 = u77
  generalize u 78 = u78
  generalize u 79 = u79
  generalize u 80 = u80
  generalize u 81 = u81
  generalize u 82 = u82
  generalize u 83 = u83
  generalize u 84 = u84
  generalize u 85 = u85
  generalize u 86 = u86
  generalize u 87 = u87
  generalize u 88 = u88
  generalize u 89 = u89
  generalize u 90 = u90
  generalize u 91 = u91
  generalize u 92 = u92
  generalize u 93 = u93
  generalize u 94 = u94
  generalize u 95 = u95
  generalize u 96 = u96
  generalize u 97 = u97
  generalize u 98 = u98
  generalize u 99 = u99
  generalize u 100 = u100
  generalize u 101 = u101
  generalize u 102 = u102
  generalize u 103 = u103
  generalize u 104 = u104
  generalize u 105 = u105
  generalize u 106 = u106
  generalize u 107 = u107
  generalize u 108 = u108
  generalize u 109 = u109
  generalize u 110 = u110
  generalize u 111 = u111
  generalize u 112 = u112
  generalize u 113 = u113
  generalize u 114 = u114
  generalize u 115 = u115
  generalize u 116 = u116
  generalize u 117 = u117
  generalize u 118 = u118
  generalize u 119 = u119
  generalize u 120 = u120
  generalize u 121 = u121
  generalize u 122 = u122
  generalize u 123 = u123
  generalize u 124 = u124
  generalize u 125 = u125
  generalize u 126 = u126
  generalize u 127 = u127
  generalize u 128 = u128
  generalize u 129 = u129
  generalize u 130 = u130
  generalize u 131 = u131
  generalize u 132 = u132
  generalize u 133 = u133
  generalize u 134 = u134
  generalize u 135 = u135
  generalize u 136 = u136
  generalize u 137 = u137
  generalize u 138 = u138
  generalize u 139 = u139
  generalize u 140 = u140
  generalize u 141 = u141
  generalize u 142 = u142
  generalize u 143 = u143
  generalize u 144 = u144
  generalize u 145 = u145
  generalize u 146 = u146
  generalize u 147 = u147
  generalize u 148 = u148
  generalize u 149 = u149
  generalize u 150 = u150
  generalize u 151 = u151
  generalize u 152 = u152
  generalize u 153 = u153
  generalize u 154 = u154
  clear u
  have CS : Hid (∀ W : World, Below wq.heap.size wq W → (W.cell? ⟨d, 0, none⟩ = some (.int .i64 num) ∧ W.cell? ⟨d, 1, none⟩ = some (.slice ao k cp) ∧ W.cell? ⟨p, 0, none⟩ = some (.int .i64 (num + 1)) ∧ W.cell? ⟨p, 1, none⟩ = some (.slice bo k2 cq))) := fun W hb => by
    have h1 := (hb.block _ (heap_lt hD)).trans hD
    have h2 := (hb.block _ (heap_lt hP)).trans hP
    exact ⟨box_cell h1 0 rfl, box_cell h1 1 rfl, box_cell h2 0 rfl, box_cell h2 1 rfl⟩
  have E0 := hide e0
  have KK0 := hide (enters_of Try.func17 (by kernel_rfl) rfl)
  have E1 := hide e1
  have KK1 := hide (enters_of Try.func13 (by kernel_rfl) rfl)
  have E2 := hide e2
  have KK2 := hide (enters_of Try.func12 (by kernel_rfl) rfl)
  have BD : Hid (Below wq.heap.size wq wq.drew) := (Below.refl _ _).drew
  have hc1 : (ct : Int) > 0 := by omega
  have hc2 : (cc : Int) ≥ (mj : Int) := by omega
  obtain ⟨n1, n2⟩ := hnum
  have hx5 : IntKind.i64.wrap (num + 1) = num + 1 := i64_wrap (by omega) (by omega)
  have hc3 : decide ((ct : Int) > 0) = true := decide_eq_true hc1
  have hc4 : decide ((0 : Int) < (ct : Int)) = true := decide_eq_true hc1
  have hc5 : decide ((cc : Int) ≥ (mj : Int)) = true := decide_eq_true hc2
  have hc6 : decide ((mj : Int) ≤ (cc : Int)) = true := decide_eq_true hc2
  have hc7 : decide (0 < ct) = true := decide_eq_true hct
  have hc8 : decide (mj ≤ cc) = true := decide_eq_true hmj
  clear hD hP e0 e1 e2
  go_region_held_law (fun W => W.cell? ⟨d, 0, none⟩ = some (.int .i64 num) ∧ W.cell? ⟨d, 1, none⟩ = some (.slice ao k cp) ∧ W.cell? ⟨p, 0, none⟩ = some (.int .i64 (num + 1)) ∧ W.cell? ⟨p, 1, none⟩ = some (.slice bo k2 cq)) (exact CS.out _ BD.out) ((first
    | (refine step_fn_d (by rfl) 138 (by rfl) 17 _ _ (by rfl) KK0.out [.agg #[.int .i64 num, .slice ao k cp], .agg #[.int .i64 (num + 1), .slice bo k2 cq]] rfl (E0.out _ BD.out) ?_; rintro e w2 ⟨rfl, b2⟩; refine ⟨_, rfl, ?_⟩; have BD : Hid (Below wq.heap.size wq w2) := BD.out.trans (b2.mono BD.out.size); clear b2)
    | (refine step_fn_d (by rfl) 140 (by rfl) 13 _ _ (by rfl) KK1.out [.agg #[.int .i64 num, .slice ao k cp]] rfl (E1.out _ BD.out) ?_; rintro e w2 ⟨rfl, b2⟩; refine ⟨_, rfl, ?_⟩; have BD : Hid (Below wq.heap.size wq w2) := BD.out.trans (b2.mono BD.out.size); clear b2)
    | (refine step_fn_d (by rfl) 145 (by rfl) 12 _ _ (by rfl) KK2.out [.agg #[.int .i64 (num + 1), .slice bo k2 cq]] rfl (E2.out _ BD.out) ?_; rintro e w2 ⟨rfl, b2⟩; refine ⟨_, rfl, ?_⟩; have BD : Hid (Below wq.heap.size wq w2) := BD.out.trans (b2.mono BD.out.size); clear b2)))
  all_goals exact HQ.out _ _ ⟨rfl, rfl, rfl, rfl, rfl, rfl, (by simp), rfl, rfl, rfl, rfl, rfl, rfl, rfl, rfl, rfl, rfl, rfl, rfl⟩ BD.out
end Go.Proofs.Ytbkglpbkbfopjaa
