/-
  SubsRise's drawn regions (mkri.py).
-/
import Derived.Test.YtoafjgioknkeiaaRiR
import Derived.Test.YtoafjgioknkeiaaPhiT
import Derived.Laws.StructEq
namespace Go.Proofs.Ytoafjgioknkeiaa.Y
open Go.RowKit

attribute [local go_sem ↓] Go.wp_at_zero Go.wp_at_succ
set_option linter.unusedSimpArgs false
set_option linter.unusedVariables false
set_option maxHeartbeats 8000000 in
set_option maxRecDepth 100000 in
theorem ri_r28 {K : Act → World → Prop} {c : Code} (hc : regOf (Try.f3.body.getD .skip) 28 = some c) (a : Act) {v : Vri} {wq : World} {sb : Nat} {xn xt yn yt : ByteArray} {xc xx yc yx cd : Int} {RL : List Rec} {L : LOC} {m pk : Int} {db : Nat} (hF : Fri a v) (h11v : v.v11 = .pointer (some ⟨sb, 0, none⟩)) (h8v : v.v8 = .pointer (some ⟨L.b, 0, none⟩)) (h15v : v.v15 = .pointer (some ⟨db, 0, none⟩)) (hS : wq.heap[sb]? = some (.cells #[.string xn, .string xt, .int .i64 xc, .int .i64 xx] 33 (0, 0))) (hbl : db < wq.heap.size) (hcl : wq.cell? ⟨db, 1, none⟩ = some (.int .i64 m)) (hP : ∀ W, Calls Try.prog 9 #[.int .i64 m, .int .i64 50] W fun e w' => e = .returned (.int .i64 pk) ∧ w' = W) (k0 : 0 ≤ pk) (k1 : pk < 50) (hE : ∀ W, Below wq.heap.size wq W → Calls Try.prog 15 #[.agg #[.string xn, .string xt, .int .i64 xc, .int .i64 xx], .pointer (some ⟨L.b, 0, none⟩), .int .i64 (1 + pk)] W fun e w' => ∃ ao cp, e = .returned (.tuple #[.agg #[.string yn, .string yt, .int .i64 yc, .int .i64 yx], .slice ao RL.length cp, .int .i64 cd]) ∧ RecsAt w' (.slice ao RL.length cp) RL ∧ Below W.heap.size W w' ∧ ∀ g, (Value.slice ao 0 cp).ownBlock = some g → wq.heap.size ≤ g)
    (hQ : ∀ a' w' ao cp, Fri a' { v with v17 := .slice ao RL.length cp, v12 := .int .i64 cd } → Touch (fun k => k = sb) wq w' → w'.heap[sb]? = some (.cells #[.string yn, .string yt, .int .i64 yc, .int .i64 yx] 33 (0, 0)) → RecsAt w' (.slice ao RL.length cp) RL → K a' w') :
    Code.wp Try.prog c (Exit.then K fun _ _ _ => False) a wq := by
  have HQ := hide hQ
  clear hQ
  obtain ⟨t', d'⟩ := a
  obtain ⟨v0, v1, v2, v6, v7, v8, v10, v11, v12, v13, v14, v15, v16, v17, v18, v19, v72⟩ := v
  simp only at h11v h8v h15v HQ
  subst h11v h8v h15v
  obtain ⟨hs1, hd1, q0, q1, q2, q6, q7, q8, q10, q11, q12, q13, q14, q15, q16, q17, q18, q19, q72⟩ := hF
  obtain ⟨u, hu⟩ := frame_ri t' hs1
  simp only at hd1 q0 q1 q2 q6 q7 q8 q10 q11 q12 q13 q14 q15 q16 q17 q18 q19 q72
  subst hu hd1
  have e0 : u 0 = v0 := q0
  have e1 : u 1 = v1 := q1
  have e2 : u 2 = v2 := q2
  have e6 : u 6 = v6 := q6
  have e7 : u 7 = v7 := q7
  have e8 : u 8 = .pointer (some ⟨L.b, 0, none⟩) := q8
  have e10 : u 10 = v10 := q10
  have e11 : u 11 = .pointer (some ⟨sb, 0, none⟩) := q11
  have e12 : u 12 = v12 := q12
  have e13 : u 13 = v13 := q13
  have e14 : u 14 = v14 := q14
  have e15 : u 15 = .pointer (some ⟨db, 0, none⟩) := q15
  have e16 : u 16 = v16 := q16
  have e17 : u 17 = v17 := q17
  have e18 : u 18 = v18 := q18
  have e19 : u 19 = v19 := q19
  have e72 : u 72 = v72 := q72
  rw [e0, e1, e2, e6, e7, e8, e10, e11, e12, e13, e14, e15, e16, e17, e18, e19, e72]
  clear q0 e0 q1 e1 q2 e2 q6 e6 q7 e7 q8 e8 q10 e10 q11 e11 q12 e12 q13 e13 q14 e14 q15 e15 q16 e16 q17 e17 q18 e18 q19 e19 q72 e72 hs1
  simp only [Try.f3, Option.getD_some, regOf] at hc
  injection hc with hc
  subst hc
  generalize u 3 = u3
  generalize u 4 = u4
  generalize u 5 = u5
  generalize u 9 = u9
  generalize u 20 = u20
  generalize u 21 = u21
  generalize u 22 = u22
  generalize u 23 = u23
  generalize u 24 = u24
  generalize u 25 = u25
  generalize u 26 = u26
  generalize u 27 = u27
  generalize u 28 = u28
  generalize u 29 = u29
  generalize u 30 = u30
  generalize u 31 = u31
  generalize u 32 = u32
  generalize u 33 = u33
  generalize u 34 = u34
  generalize u 35 = u35
  generalize u 36 = u36
  generalize u 37 = u37
  generalize u 38 = u38
  generalize u 39 = u39
  generalize u 40 = u40
  generalize u 41 = u41
  generalize u 42 = u42
  generalize u 43 = u43
  generalize u 44 = u44
  generalize u 45 = u45
  generalize u 46 = u46
  generalize u 47 = u47
  generalize u 48 = u48
  generalize u 49 = u49
  generalize u 50 = u50
  generalize u 51 = u51
  generalize u 52 = u52
  generalize u 53 = u53
  generalize u 54 = u54
  generalize u 55 = u55
  generalize u 56 = u56
  generalize u 57 = u57
  generalize u 58 = u58
  generalize u 59 = u59
  generalize u 60 = u60
  generalize u 61 = u61
  generalize u 62 = u62
  generalize u 63 = u63
  generalize u 64 = u64
  generalize u 65 = u65
  generalize u 66 = u66
  generalize u 67 = u67
  generalize u 68 = u68
  generalize u 69 = u69
  generalize u 70 = u70
  generalize u 71 = u71
  generalize u 73 = u73
  generalize u 74 = u74
  generalize u 75 = u75
  generalize u 76 = u76
  generalize u 77 = u77
  generalize u 78 = u78
  generalize u 79 = u79
  generalize u 80 = u80
  generalize u 81 = u81
  generalize u 82 = u82
  generalize u 83 = u83
  generalize u 84 = u84
  generalize u 85 = u85
  generalize u 86 = u86
  generalize u 87 = u87
  generalize u 88 = u88
  generalize u 89 = u89
  generalize u 90 = u90
  generalize u 91 = u91
  generalize u 92 = u92
  generalize u 93 = u93
  generalize u 94 = u94
  generalize u 95 = u95
  generalize u 96 = u96
  generalize u 97 = u97
  generalize u 98 = u98
  generalize u 99 = u99
  generalize u 100 = u100
  generalize u 101 = u101
  generalize u 102 = u102
  generalize u 103 = u103
  generalize u 104 = u104
  generalize u 105 = u105
  generalize u 106 = u106
  generalize u 107 = u107
  generalize u 108 = u108
  generalize u 109 = u109
  generalize u 110 = u110
  generalize u 111 = u111
  generalize u 112 = u112
  generalize u 113 = u113
  generalize u 114 = u114
  generalize u 115 = u115
  generalize u 116 = u116
  generalize u 117 = u117
  generalize u 118 = u118
  generalize u 119 = u119
  generalize u 120 = u120
  generalize u 121 = u121
  generalize u 122 = u122
  generalize u 123 = u123
  generalize u 124 = u124
  generalize u 125 = u125
  generalize u 126 = u126
  generalize u 127 = u127
  generalize u 128 = u128
  generalize u 129 = u129
  generalize u 130 = u130
  generalize u 131 = u131
  generalize u 132 = u132
  generalize u 133 = u133
  generalize u 134 = u134
  generalize u 135 = u135
  generalize u 136 = u136
  generalize u 137 = u137
  generalize u 138 = u138
  generalize u 139 = u139
  generalize u 140 = u140
  generalize u 141 = u141
  generalize u 142 = u142
  generalize u 143 = u143
  generalize u 144 = u144
  generalize u 145 = u145
  generalize u 146 = u146
  generalize u 147 = u147
  generalize u 148 = u148
  generalize u 149 = u149
  generalize u 150 = u150
  generalize u 151 = u151
  generalize u 152 = u152
  generalize u 153 = u153
  generalize u 154 = u154
  generalize u 155 = u155
  generalize u 156 = u156
  generalize u 157 = u157
  generalize u 158 = u158
  generalize u 159 = u159
  generalize u 160 = u160
  generalize u 161 = u161
  generalize u 162 = u162
  generalize u 163 = u163
  generalize u 164 = u164
  generalize u 165 = u165
  generalize u 166 = u166
  generalize u 167 = u167
  generalize u 168 = u168
  generalize u 169 = u169
  generalize u 170 = u170
  generalize u 171 = u171
  generalize u 172 = u172
  generalize u 173 = u173
  generalize u 174 = u174
  generalize u 175 = u175
  generalize u 176 = u176
  generalize u 177 = u177
  generalize u 178 = u178
  generalize u 179 = u179
  generalize u 180 = u180
  generalize u 181 = u181
  generalize u 182 = u182
  generalize u 183 = u183
  generalize u 184 = u184
  generalize u 185 = u185
  generalize u 186 = u186
  generalize u 187 = u187
  generalize u 188 = u188
  clear u
  have HS := hide hS
  have HLT : Hid (sb < wq.heap.size) := heap_lt hS
  have HP := hide hP
  have HE := hide hE
  have HBL := hide hbl
  have HC := hide hcl
  have HY : Hid (IntKind.i64.wrap (1 + pk) = 1 + pk) := by
    show _ = _
    rw [IntKind.wrap_i64]
    omega
  clear hP hE k0 k1 hbl hcl
  clear hS
  refine wp_region_any rfl ?_
  refine wpAny_store (ns := 189) (uses := (fun i => match i with | 0 => [103] | 1 => [104] | 2 => [105] | 3 => [106] | 4 => [107] | 5 => [108] | 6 => [109] | 7 => [102] | 8 => [110] | 9 => [111] | 10 => [112] | 11 => [] | 12 => [17] | 13 => [12] | _ => [])) (by kernel_rfl) (by kernel_rfl) (fun j w w' => (j ≠ 11 → Below w.heap.size w w') ∧ (j = 11 → Touch (fun k => k = sb) w w')) 11 (by decide) (fun bb w => (bb = false → Below wq.heap.size wq w) ∧ Touch (fun k => k = sb) wq w) (fun j b w w' hj h r => ⟨fun e => (h.1 e).trans ((r.1 hj).mono (h.1 e).size), h.2.below (r.1 hj)⟩) (fun w w' h r => ⟨fun e => (by cases e), h.2.andThen (r.2 rfl) (fun _ _ e => e)⟩) ⟨fun _ => (Below.refl _ _).drew, (Touch.refl _ _).drew⟩ (fun i => match i with | 0 => fun s w => s 103 = .agg #[.string xn, .string xt, .int .i64 xc, .int .i64 xx] | 1 => fun s w => s 104 = .pointer (some ⟨L.b, 0, none⟩) | 2 => fun s w => s 105 = .pointer (some ⟨db, 1, none⟩) | 3 => fun s w => s 106 = .int .i64 m | 4 => fun s w => s 107 = .int .i64 pk | 5 => fun s w => s 108 = .int .i64 (1 + pk) | 6 => fun s w => ∃ ao cp, s 109 = .tuple #[.agg #[.string yn, .string yt, .int .i64 yc, .int .i64 yx], .slice ao RL.length cp, .int .i64 cd] ∧ RecsAt w (.slice ao RL.length cp) RL ∧ ∀ g, (Value.slice ao 0 cp).ownBlock = some g → wq.heap.size ≤ g | 7 => fun s w => ∃ ao cp, s 102 = .tuple #[.agg #[.string yn, .string yt, .int .i64 yc, .int .i64 yx], .slice ao RL.length cp, .int .i64 cd] ∧ RecsAt w (.slice ao RL.length cp) RL ∧ ∀ g, (Value.slice ao 0 cp).ownBlock = some g → wq.heap.size ≤ g | 8 => fun s w => s 110 = .agg #[.string yn, .string yt, .int .i64 yc, .int .i64 yx] | 9 => fun s w => ∃ ao cp, s 111 = .slice ao RL.length cp ∧ RecsAt w (.slice ao RL.length cp) RL ∧ ∀ g, (Value.slice ao 0 cp).ownBlock = some g → wq.heap.size ≤ g | 10 => fun s w => s 112 = .int .i64 cd | 11 => fun s w => w.heap[sb]? = some (.cells #[.string yn, .string yt, .int .i64 yc, .int .i64 yx] 33 (0, 0)) | 12 => fun s w => ∃ ao cp, s 17 = .slice ao RL.length cp ∧ RecsAt w (.slice ao RL.length cp) RL ∧ ∀ g, (Value.slice ao 0 cp).ownBlock = some g → wq.heap.size ≤ g | 13 => fun s w => s 12 = .int .i64 cd | _ => fun _ _ => True) ?phc ?phh ?pstep ?pdone
  case phc =>
    intro i s s' w hx h
    match i, hx, h with
    | 0, hx, h =>
      have e103 := hx 103 (by simp)
      first | exact (show _ from by simp only [← e103] at *; exact h) | (simp only [e103] at h; exact h)
    | 1, hx, h =>
      have e104 := hx 104 (by simp)
      first | exact (show _ from by simp only [← e104] at *; exact h) | (simp only [e104] at h; exact h)
    | 2, hx, h =>
      have e105 := hx 105 (by simp)
      first | exact (show _ from by simp only [← e105] at *; exact h) | (simp only [e105] at h; exact h)
    | 3, hx, h =>
      have e106 := hx 106 (by simp)
      first | exact (show _ from by simp only [← e106] at *; exact h) | (simp only [e106] at h; exact h)
    | 4, hx, h =>
      have e107 := hx 107 (by simp)
      first | exact (show _ from by simp only [← e107] at *; exact h) | (simp only [e107] at h; exact h)
    | 5, hx, h =>
      have e108 := hx 108 (by simp)
      first | exact (show _ from by simp only [← e108] at *; exact h) | (simp only [e108] at h; exact h)
    | 6, hx, h =>
      have e109 := hx 109 (by simp)
      first | exact (show _ from by simp only [← e109] at *; exact h) | (simp only [e109] at h; exact h)
    | 7, hx, h =>
      have e102 := hx 102 (by simp)
      first | exact (show _ from by simp only [← e102] at *; exact h) | (simp only [e102] at h; exact h)
    | 8, hx, h =>
      have e110 := hx 110 (by simp)
      first | exact (show _ from by simp only [← e110] at *; exact h) | (simp only [e110] at h; exact h)
    | 9, hx, h =>
      have e111 := hx 111 (by simp)
      first | exact (show _ from by simp only [← e111] at *; exact h) | (simp only [e111] at h; exact h)
    | 10, hx, h =>
      have e112 := hx 112 (by simp)
      first | exact (show _ from by simp only [← e112] at *; exact h) | (simp only [e112] at h; exact h)
    | 11, hx, h =>
      exact h
    | 12, hx, h =>
      have e17 := hx 17 (by simp)
      first | exact (show _ from by simp only [← e17] at *; exact h) | (simp only [e17] at h; exact h)
    | 13, hx, h =>
      have e12 := hx 12 (by simp)
      first | exact (show _ from by simp only [← e12] at *; exact h) | (simp only [e12] at h; exact h)
    | (n + 14), _, h => exact h
  case phh =>
    intro i j s w w' hij h r
    match i, hij, h with
    | 0, hij, h =>
      exact h
    | 1, hij, h =>
      exact h
    | 2, hij, h =>
      exact h
    | 3, hij, h =>
      exact h
    | 4, hij, h =>
      exact h
    | 5, hij, h =>
      exact h
    | 6, hij, h =>
      obtain ⟨ao, cp, h1, h2, h3⟩ := h
      exact ⟨ao, cp, h1, rel_recs HLT.out h2 h3 r, h3⟩
    | 7, hij, h =>
      obtain ⟨ao, cp, h1, h2, h3⟩ := h
      exact ⟨ao, cp, h1, rel_recs HLT.out h2 h3 r, h3⟩
    | 8, hij, h =>
      exact h
    | 9, hij, h =>
      obtain ⟨ao, cp, h1, h2, h3⟩ := h
      exact ⟨ao, cp, h1, rel_recs HLT.out h2 h3 r, h3⟩
    | 10, hij, h =>
      exact h
    | 11, hij, h =>
      exact Below.at (r.1 (fun e => hij e.symm)) h
    | 12, hij, h =>
      obtain ⟨ao, cp, h1, h2, h3⟩ := h
      exact ⟨ao, cp, h1, rel_recs HLT.out h2 h3 r, h3⟩
    | 13, hij, h =>
      exact h
    | (n + 14), _, h => exact h
  case pstep =>
    intro i o ho a' w' bb hbb hsa hb hd
    match i, ho with
    | 0, ho =>
      obtain rfl := Option.some.inj ho
      try dsimp only at hd
      have hb0 := hb.1 (hbb (by kernel_rfl))
      have g11 : a'.tmps.getD 11 undef = .pointer (some ⟨sb, 0, none⟩) := hsa.rest 11 (by rfl)
      obtain ⟨⟨z0, z1, z2, z3⟩, _⟩ := box4 (Below.at hb0 HS.out)
      refine wpOp_of rfl rfl ?_
      refine op_run (v := .agg #[.string xn, .string xt, .int .i64 xc, .int .i64 xx]) (w' := w') ?_ ⟨_, rfl, ?_, ?_⟩
      · simp only [execOp, Act.eval, List.map_toArray, List.map_cons, List.map_nil, g11, z0, z1, z2, z3]; first | (go_simp; done) | rfl
      · try dsimp only
        exact (slots_put (ns := 189) (hsa.size.trans rfl) (by decide))
      · exact ⟨fun _ => Below.refl _ _, fun e => by cases e⟩
    | 1, ho =>
      obtain rfl := Option.some.inj ho
      try dsimp only at hd
      have g8 : a'.tmps.getD 8 undef = .pointer (some ⟨L.b, 0, none⟩) := hsa.rest 8 (by rfl)
      refine wpOp_of rfl rfl ?_
      refine op_run (v := .pointer (some ⟨L.b, 0, none⟩)) (w' := w') ?_ ⟨_, rfl, ?_, ?_⟩
      · simp only [execOp, Act.eval, List.map_toArray, List.map_cons, List.map_nil, g8]; first | (go_simp; done) | rfl
      · try dsimp only
        exact (slots_put (ns := 189) (hsa.size.trans rfl) (by decide))
      · exact ⟨fun _ => Below.refl _ _, fun e => by cases e⟩
    | 2, ho =>
      obtain rfl := Option.some.inj ho
      try dsimp only at hd
      have g15 : a'.tmps.getD 15 undef = .pointer (some ⟨db, 0, none⟩) := hsa.rest 15 (by rfl)
      refine wpOp_of rfl rfl ?_
      refine op_run (v := .pointer (some ⟨db, 1, none⟩)) (w' := w') ?_ ⟨_, rfl, ?_, ?_⟩
      · simp only [execOp, Act.eval, List.map_toArray, List.map_cons, List.map_nil, g15]; first | (go_simp; done) | rfl
      · try dsimp only
        exact (slots_put (ns := 189) (hsa.size.trans rfl) (by decide))
      · exact ⟨fun _ => Below.refl _ _, fun e => by cases e⟩
    | 3, ho =>
      obtain rfl := Option.some.inj ho
      try dsimp only at hd
      have hb0 := hb.1 (hbb (by kernel_rfl))
      have d2 : a'.tmps.getD 105 undef = .pointer (some ⟨db, 1, none⟩) := hd 2 (by rfl)
      have y : w'.cell? ⟨db, 1, none⟩ = some (.int .i64 m) := (hb0.cell (p := ⟨db, 1, none⟩) HBL.out).trans HC.out
      refine wpOp_of rfl rfl ?_
      refine op_run (v := .int .i64 m) (w' := w') ?_ ⟨_, rfl, ?_, ?_⟩
      · simp only [execOp, Act.eval, List.map_toArray, List.map_cons, List.map_nil, d2, y]; first | (go_simp; done) | rfl
      · try dsimp only
        exact (slots_put (ns := 189) (hsa.size.trans rfl) (by decide))
      · exact ⟨fun _ => Below.refl _ _, fun e => by cases e⟩
    | 4, ho =>
      obtain rfl := Option.some.inj ho
      try dsimp only at hd
      have d3 : a'.tmps.getD 106 undef = .int .i64 m := hd 3 (by rfl)
      refine wpOp_of rfl rfl ?_
      refine op_call 9 _ _ rfl (enters_of Try.func9 (by kernel_rfl) rfl) [.int .i64 m, .int .i64 50] (by simp only [List.map, Act.eval, d3]) (HP.out w') ?_
      rintro e w'' ⟨rfl, rfl⟩
      refine ⟨_, rfl, _, rfl, ?_, ?_⟩
      · try dsimp only
        exact (slots_put (ns := 189) (hsa.size.trans rfl) (by decide))
      · exact ⟨fun _ => Below.refl _ _, fun e => by cases e⟩
    | 5, ho =>
      obtain rfl := Option.some.inj ho
      try dsimp only at hd
      have d4 : a'.tmps.getD 107 undef = .int .i64 pk := hd 4 (by rfl)
      have y := HY.out
      refine wpOp_of rfl rfl ?_
      refine op_run (v := .int .i64 (1 + pk)) (w' := w') ?_ ⟨_, rfl, ?_, ?_⟩
      · simp only [execOp, Act.eval, List.map_toArray, List.map_cons, List.map_nil, d4, y]; first | (go_simp; done) | rfl
      · try dsimp only
        exact (slots_put (ns := 189) (hsa.size.trans rfl) (by decide))
      · exact ⟨fun _ => Below.refl _ _, fun e => by cases e⟩
    | 6, ho =>
      obtain rfl := Option.some.inj ho
      try dsimp only at hd
      have hb0 := hb.1 (hbb (by kernel_rfl))
      have d0 : a'.tmps.getD 103 undef = .agg #[.string xn, .string xt, .int .i64 xc, .int .i64 xx] := hd 0 (by rfl)
      have d1 : a'.tmps.getD 104 undef = .pointer (some ⟨L.b, 0, none⟩) := hd 1 (by rfl)
      have d5 : a'.tmps.getD 108 undef = .int .i64 (1 + pk) := hd 5 (by rfl)
      refine wpOp_of rfl rfl ?_
      refine op_call 15 _ _ rfl (enters_of Try.func15 (by kernel_rfl) rfl) [.agg #[.string xn, .string xt, .int .i64 xc, .int .i64 xx], .pointer (some ⟨L.b, 0, none⟩), .int .i64 (1 + pk)] (by simp only [List.map, Act.eval, d0, d1, d5]) (HE.out w' hb0) ?_
      rintro e w'' ⟨ao, cp, rfl, r2, b2, n2⟩
      refine ⟨_, rfl, _, rfl, ?_, ?_⟩
      · try dsimp only
        exact ⟨ao, cp, (slots_put (ns := 189) (hsa.size.trans rfl) (by decide)), r2, n2⟩
      · exact ⟨fun _ => b2, fun e => by cases e⟩
    | 7, ho =>
      obtain rfl := Option.some.inj ho
      try dsimp only at hd
      have d6 : ∃ ao cp, a'.tmps.getD 109 undef = .tuple #[.agg #[.string yn, .string yt, .int .i64 yc, .int .i64 yx], .slice ao RL.length cp, .int .i64 cd] ∧ RecsAt w' (.slice ao RL.length cp) RL ∧ ∀ g, (Value.slice ao 0 cp).ownBlock = some g → wq.heap.size ≤ g := hd 6 (by rfl)
      obtain ⟨ao, cp, d6, r1, r2⟩ := d6
      refine wpOp_of rfl rfl ?_
      refine op_run (v := .tuple #[.agg #[.string yn, .string yt, .int .i64 yc, .int .i64 yx], .slice ao RL.length cp, .int .i64 cd]) (w' := w') ?_ ⟨_, rfl, ?_, ?_⟩
      · simp only [execOp, Act.eval, List.map_toArray, List.map_cons, List.map_nil, d6]; first | (go_simp; done) | rfl
      · try dsimp only
        exact ⟨ao, cp, (slots_put (ns := 189) (hsa.size.trans rfl) (by decide)), r1, r2⟩
      · exact ⟨fun _ => Below.refl _ _, fun e => by cases e⟩
    | 8, ho =>
      obtain rfl := Option.some.inj ho
      try dsimp only at hd
      have d7 : ∃ ao cp, a'.tmps.getD 102 undef = .tuple #[.agg #[.string yn, .string yt, .int .i64 yc, .int .i64 yx], .slice ao RL.length cp, .int .i64 cd] ∧ RecsAt w' (.slice ao RL.length cp) RL ∧ ∀ g, (Value.slice ao 0 cp).ownBlock = some g → wq.heap.size ≤ g := hd 7 (by rfl)
      obtain ⟨ao, cp, d7, r1, r2⟩ := d7
      refine wpOp_of rfl rfl ?_
      refine op_run (v := .agg #[.string yn, .string yt, .int .i64 yc, .int .i64 yx]) (w' := w') ?_ ⟨_, rfl, ?_, ?_⟩
      · simp only [execOp, Act.eval, List.map_toArray, List.map_cons, List.map_nil, d7]; first | (go_simp; done) | rfl
      · try dsimp only
        exact (slots_put (ns := 189) (hsa.size.trans rfl) (by decide))
      · exact ⟨fun _ => Below.refl _ _, fun e => by cases e⟩
    | 9, ho =>
      obtain rfl := Option.some.inj ho
      try dsimp only at hd
      have d7 : ∃ ao cp, a'.tmps.getD 102 undef = .tuple #[.agg #[.string yn, .string yt, .int .i64 yc, .int .i64 yx], .slice ao RL.length cp, .int .i64 cd] ∧ RecsAt w' (.slice ao RL.length cp) RL ∧ ∀ g, (Value.slice ao 0 cp).ownBlock = some g → wq.heap.size ≤ g := hd 7 (by rfl)
      obtain ⟨ao, cp, d7, r1, r2⟩ := d7
      refine wpOp_of rfl rfl ?_
      refine op_run (v := .slice ao RL.length cp) (w' := w') ?_ ⟨_, rfl, ?_, ?_⟩
      · simp only [execOp, Act.eval, List.map_toArray, List.map_cons, List.map_nil, d7]; first | (go_simp; done) | rfl
      · try dsimp only
        exact ⟨ao, cp, (slots_put (ns := 189) (hsa.size.trans rfl) (by decide)), r1, r2⟩
      · exact ⟨fun _ => Below.refl _ _, fun e => by cases e⟩
    | 10, ho =>
      obtain rfl := Option.some.inj ho
      try dsimp only at hd
      have d7 : ∃ ao cp, a'.tmps.getD 102 undef = .tuple #[.agg #[.string yn, .string yt, .int .i64 yc, .int .i64 yx], .slice ao RL.length cp, .int .i64 cd] ∧ RecsAt w' (.slice ao RL.length cp) RL ∧ ∀ g, (Value.slice ao 0 cp).ownBlock = some g → wq.heap.size ≤ g := hd 7 (by rfl)
      obtain ⟨ao, cp, d7, r1, r2⟩ := d7
      refine wpOp_of rfl rfl ?_
      refine op_run (v := .int .i64 cd) (w' := w') ?_ ⟨_, rfl, ?_, ?_⟩
      · simp only [execOp, Act.eval, List.map_toArray, List.map_cons, List.map_nil, d7]; first | (go_simp; done) | rfl
      · try dsimp only
        exact (slots_put (ns := 189) (hsa.size.trans rfl) (by decide))
      · exact ⟨fun _ => Below.refl _ _, fun e => by cases e⟩
    | 11, ho =>
      obtain rfl := Option.some.inj ho
      try dsimp only at hd
      have hb0 := hb.1 (hbb (by kernel_rfl))
      have d8 : a'.tmps.getD 110 undef = .agg #[.string yn, .string yt, .int .i64 yc, .int .i64 yx] := hd 8 (by rfl)
      have g11 : a'.tmps.getD 11 undef = .pointer (some ⟨sb, 0, none⟩) := hsa.rest 11 (by rfl)
      obtain ⟨⟨z0, z1, z2, z3⟩, f0, f1, f2, f3⟩ := box4 (Below.at hb0 HS.out)
      refine wpOp_of rfl rfl ?_
      refine op_skip (w' := ((((w'.setCell ⟨sb, 0, none⟩ (.string yn)).setCell ⟨sb, 1, none⟩ (.string yt)).setCell ⟨sb, 2, none⟩ (.int .i64 yc)).setCell ⟨sb, 3, none⟩ (.int .i64 yx))) ?_ ⟨undef, rfl, ?_, ?_⟩
      · simp only [execOp, Act.eval, d8, g11]; first | (go_simp; done) | rfl
      · try dsimp only
        exact set4_box (Below.at hb0 HS.out)
      · exact ⟨fun e => absurd rfl e, fun _ => set4_touch _ _⟩
    | 12, ho =>
      obtain rfl := Option.some.inj ho
      try dsimp only at hd
      have d9 : ∃ ao cp, a'.tmps.getD 111 undef = .slice ao RL.length cp ∧ RecsAt w' (.slice ao RL.length cp) RL ∧ ∀ g, (Value.slice ao 0 cp).ownBlock = some g → wq.heap.size ≤ g := hd 9 (by rfl)
      obtain ⟨ao, cp, d9, r1, r2⟩ := d9
      refine wpOp_of rfl rfl ?_
      refine op_run (v := .slice ao RL.length cp) (w' := w') ?_ ⟨_, rfl, ?_, ?_⟩
      · simp only [execOp, Act.eval, List.map_toArray, List.map_cons, List.map_nil, d9]; first | (go_simp; done) | rfl
      · try dsimp only
        exact ⟨ao, cp, (slots_put (ns := 189) (hsa.size.trans rfl) (by decide)), r1, r2⟩
      · exact ⟨fun _ => Below.refl _ _, fun e => by cases e⟩
    | 13, ho =>
      obtain rfl := Option.some.inj ho
      try dsimp only at hd
      have d10 : a'.tmps.getD 112 undef = .int .i64 cd := hd 10 (by rfl)
      refine wpOp_of rfl rfl ?_
      refine op_run (v := .int .i64 cd) (w' := w') ?_ ⟨_, rfl, ?_, ?_⟩
      · simp only [execOp, Act.eval, List.map_toArray, List.map_cons, List.map_nil, d10]; first | (go_simp; done) | rfl
      · try dsimp only
        exact (slots_put (ns := 189) (hsa.size.trans rfl) (by decide))
      · exact ⟨fun _ => Below.refl _ _, fun e => by cases e⟩
    | (n + 14), ho => exact absurd ho (by simp)
  case pdone =>
    intro a' w' hsa hb hd
    have d0 : a'.tmps.getD 103 undef = .agg #[.string xn, .string xt, .int .i64 xc, .int .i64 xx] := hd 0 (by decide)
    have d1 : a'.tmps.getD 104 undef = .pointer (some ⟨L.b, 0, none⟩) := hd 1 (by decide)
    have d2 : a'.tmps.getD 105 undef = .pointer (some ⟨db, 1, none⟩) := hd 2 (by decide)
    have d3 : a'.tmps.getD 106 undef = .int .i64 m := hd 3 (by decide)
    have d4 : a'.tmps.getD 107 undef = .int .i64 pk := hd 4 (by decide)
    have d5 : a'.tmps.getD 108 undef = .int .i64 (1 + pk) := hd 5 (by decide)
    have d6 : ∃ ao cp, a'.tmps.getD 109 undef = .tuple #[.agg #[.string yn, .string yt, .int .i64 yc, .int .i64 yx], .slice ao RL.length cp, .int .i64 cd] ∧ RecsAt w' (.slice ao RL.length cp) RL ∧ ∀ g, (Value.slice ao 0 cp).ownBlock = some g → wq.heap.size ≤ g := hd 6 (by decide)
    have d7 : ∃ ao cp, a'.tmps.getD 102 undef = .tuple #[.agg #[.string yn, .string yt, .int .i64 yc, .int .i64 yx], .slice ao RL.length cp, .int .i64 cd] ∧ RecsAt w' (.slice ao RL.length cp) RL ∧ ∀ g, (Value.slice ao 0 cp).ownBlock = some g → wq.heap.size ≤ g := hd 7 (by decide)
    have d8 : a'.tmps.getD 110 undef = .agg #[.string yn, .string yt, .int .i64 yc, .int .i64 yx] := hd 8 (by decide)
    have d9 : ∃ ao cp, a'.tmps.getD 111 undef = .slice ao RL.length cp ∧ RecsAt w' (.slice ao RL.length cp) RL ∧ ∀ g, (Value.slice ao 0 cp).ownBlock = some g → wq.heap.size ≤ g := hd 9 (by decide)
    have d10 : a'.tmps.getD 112 undef = .int .i64 cd := hd 10 (by decide)
    have d11 : w'.heap[sb]? = some (.cells #[.string yn, .string yt, .int .i64 yc, .int .i64 yx] 33 (0, 0)) := hd 11 (by decide)
    have d12 : ∃ ao cp, a'.tmps.getD 17 undef = .slice ao RL.length cp ∧ RecsAt w' (.slice ao RL.length cp) RL ∧ ∀ g, (Value.slice ao 0 cp).ownBlock = some g → wq.heap.size ≤ g := hd 12 (by decide)
    have d13 : a'.tmps.getD 12 undef = .int .i64 cd := hd 13 (by decide)
    obtain ⟨ao, cp, d12, r1, r2⟩ := d12
    exact HQ.out _ _ ao cp ⟨hsa.size.trans rfl, hsa.defers.trans rfl, hsa.rest 0 (by rfl), hsa.rest 1 (by rfl), hsa.rest 2 (by rfl), hsa.rest 6 (by rfl), hsa.rest 7 (by rfl), hsa.rest 8 (by rfl), hsa.rest 10 (by rfl), hsa.rest 11 (by rfl), d13, hsa.rest 13 (by rfl), hsa.rest 14 (by rfl), hsa.rest 15 (by rfl), hsa.rest 16 (by rfl), d12, hsa.rest 18 (by rfl), hsa.rest 19 (by rfl), hsa.rest 72 (by rfl)⟩ hb.2 d11 r1
set_option maxHeartbeats 8000000 in
set_option maxRecDepth 100000 in
theorem ri_r34 {K : Act → World → Prop} {c : Code} (hc : regOf (Try.f3.body.getD .skip) 34 = some c) (a : Act) {v : Vri} {wq : World} {ba bb oba obb nba nbb qba qbb kq : Nat} {x0 x2 y : Int} {x1 x3 x4 : ByteArray} (hF : Fri a v) (h13v : v.v13 = .int .i64 y) (h16v : v.v16 = .slice (some ⟨bb, obb, none⟩) nbb qbb) (h17v : v.v17 = .slice (some ⟨ba, oba, none⟩) nba qba) (h18v : v.v18 = .int .i64 (kq : Int)) (hy : y < x0) (hiba : kq < nba) (hlba : ba < wq.heap.size) (hcba0 : wq.cell? ⟨ba, oba + kq * 5, none⟩ = some (.int .i64 x0)) (hcba1 : wq.cell? ⟨ba, oba + kq * 5 + 1, none⟩ = some (.string x1)) (hcba2 : wq.cell? ⟨ba, oba + kq * 5 + 2, none⟩ = some (.int .i64 x2)) (hcba3 : wq.cell? ⟨ba, oba + kq * 5 + 3, none⟩ = some (.string x3)) (hcba4 : wq.cell? ⟨ba, oba + kq * 5 + 4, none⟩ = some (.string x4)) (hibb : kq < nbb) (hlbb : bb < wq.heap.size) (hcbb0 : wq.cell? ⟨bb, obb + kq * 5, none⟩ = some (.int .i64 x0)) (hcbb1 : wq.cell? ⟨bb, obb + kq * 5 + 1, none⟩ = some (.string x1)) (hcbb2 : wq.cell? ⟨bb, obb + kq * 5 + 2, none⟩ = some (.int .i64 x2)) (hcbb3 : wq.cell? ⟨bb, obb + kq * 5 + 3, none⟩ = some (.string x3)) (hcbb4 : wq.cell? ⟨bb, obb + kq * 5 + 4, none⟩ = some (.string x4))
    (hQ : ∀ a' w', Fri a' v → a'.tmps.getD 138 undef = .bool false → Below wq.heap.size wq w' → K a' w') :
    Code.wp Try.prog c (Exit.then K fun _ _ _ => False) a wq := by
  have HQ := hide hQ
  clear hQ
  obtain ⟨t', d'⟩ := a
  obtain ⟨v0, v1, v2, v6, v7, v8, v10, v11, v12, v13, v14, v15, v16, v17, v18, v19, v72⟩ := v
  simp only at h13v h16v h17v h18v HQ
  subst h13v h16v h17v h18v
  obtain ⟨hs1, hd1, q0, q1, q2, q6, q7, q8, q10, q11, q12, q13, q14, q15, q16, q17, q18, q19, q72⟩ := hF
  obtain ⟨u, hu⟩ := frame_ri t' hs1
  simp only at hd1 q0 q1 q2 q6 q7 q8 q10 q11 q12 q13 q14 q15 q16 q17 q18 q19 q72
  subst hu hd1
  have e0 : u 0 = v0 := q0
  have e1 : u 1 = v1 := q1
  have e2 : u 2 = v2 := q2
  have e6 : u 6 = v6 := q6
  have e7 : u 7 = v7 := q7
  have e8 : u 8 = v8 := q8
  have e10 : u 10 = v10 := q10
  have e11 : u 11 = v11 := q11
  have e12 : u 12 = v12 := q12
  have e13 : u 13 = .int .i64 y := q13
  have e14 : u 14 = v14 := q14
  have e15 : u 15 = v15 := q15
  have e16 : u 16 = .slice (some ⟨bb, obb, none⟩) nbb qbb := q16
  have e17 : u 17 = .slice (some ⟨ba, oba, none⟩) nba qba := q17
  have e18 : u 18 = .int .i64 (kq : Int) := q18
  have e19 : u 19 = v19 := q19
  have e72 : u 72 = v72 := q72
  rw [e0, e1, e2, e6, e7, e8, e10, e11, e12, e13, e14, e15, e16, e17, e18, e19, e72]
  clear q0 e0 q1 e1 q2 e2 q6 e6 q7 e7 q8 e8 q10 e10 q11 e11 q12 e12 q13 e13 q14 e14 q15 e15 q16 e16 q17 e17 q18 e18 q19 e19 q72 e72 hs1
  simp only [Try.f3, Option.getD_some, regOf] at hc
  injection hc with hc
  subst hc
  generalize u 3 = u3
  generalize u 4 = u4
  generalize u 5 = u5
  generalize u 9 = u9
  generalize u 20 = u20
  generalize u 21 = u21
  generalize u 22 = u22
  generalize u 23 = u23
  generalize u 24 = u24
  generalize u 25 = u25
  generalize u 26 = u26
  generalize u 27 = u27
  generalize u 28 = u28
  generalize u 29 = u29
  generalize u 30 = u30
  generalize u 31 = u31
  generalize u 32 = u32
  generalize u 33 = u33
  generalize u 34 = u34
  generalize u 35 = u35
  generalize u 36 = u36
  generalize u 37 = u37
  generalize u 38 = u38
  generalize u 39 = u39
  generalize u 40 = u40
  generalize u 41 = u41
  generalize u 42 = u42
  generalize u 43 = u43
  generalize u 44 = u44
  generalize u 45 = u45
  generalize u 46 = u46
  generalize u 47 = u47
  generalize u 48 = u48
  generalize u 49 = u49
  generalize u 50 = u50
  generalize u 51 = u51
  generalize u 52 = u52
  generalize u 53 = u53
  generalize u 54 = u54
  generalize u 55 = u55
  generalize u 56 = u56
  generalize u 57 = u57
  generalize u 58 = u58
  generalize u 59 = u59
  generalize u 60 = u60
  generalize u 61 = u61
  generalize u 62 = u62
  generalize u 63 = u63
  generalize u 64 = u64
  generalize u 65 = u65
  generalize u 66 = u66
  generalize u 67 = u67
  generalize u 68 = u68
  generalize u 69 = u69
  generalize u 70 = u70
  generalize u 71 = u71
  generalize u 73 = u73
  generalize u 74 = u74
  generalize u 75 = u75
  generalize u 76 = u76
  generalize u 77 = u77
  generalize u 78 = u78
  generalize u 79 = u79
  generalize u 80 = u80
  generalize u 81 = u81
  generalize u 82 = u82
  generalize u 83 = u83
  generalize u 84 = u84
  generalize u 85 = u85
  generalize u 86 = u86
  generalize u 87 = u87
  generalize u 88 = u88
  generalize u 89 = u89
  generalize u 90 = u90
  generalize u 91 = u91
  generalize u 92 = u92
  generalize u 93 = u93
  generalize u 94 = u94
  generalize u 95 = u95
  generalize u 96 = u96
  generalize u 97 = u97
  generalize u 98 = u98
  generalize u 99 = u99
  generalize u 100 = u100
  generalize u 101 = u101
  generalize u 102 = u102
  generalize u 103 = u103
  generalize u 104 = u104
  generalize u 105 = u105
  generalize u 106 = u106
  generalize u 107 = u107
  generalize u 108 = u108
  generalize u 109 = u109
  generalize u 110 = u110
  generalize u 111 = u111
  generalize u 112 = u112
  generalize u 113 = u113
  generalize u 114 = u114
  generalize u 115 = u115
  generalize u 116 = u116
  generalize u 117 = u117
  generalize u 118 = u118
  generalize u 119 = u119
  generalize u 120 = u120
  generalize u 121 = u121
  generalize u 122 = u122
  generalize u 123 = u123
  generalize u 124 = u124
  generalize u 125 = u125
  generalize u 126 = u126
  generalize u 127 = u127
  generalize u 128 = u128
  generalize u 129 = u129
  generalize u 130 = u130
  generalize u 131 = u131
  generalize u 132 = u132
  generalize u 133 = u133
  generalize u 134 = u134
  generalize u 135 = u135
  generalize u 136 = u136
  generalize u 137 = u137
  generalize u 138 = u138
  generalize u 139 = u139
  generalize u 140 = u140
  generalize u 141 = u141
  generalize u 142 = u142
  generalize u 143 = u143
  generalize u 144 = u144
  generalize u 145 = u145
  generalize u 146 = u146
  generalize u 147 = u147
  generalize u 148 = u148
  generalize u 149 = u149
  generalize u 150 = u150
  generalize u 151 = u151
  generalize u 152 = u152
  generalize u 153 = u153
  generalize u 154 = u154
  generalize u 155 = u155
  generalize u 156 = u156
  generalize u 157 = u157
  generalize u 158 = u158
  generalize u 159 = u159
  generalize u 160 = u160
  generalize u 161 = u161
  generalize u 162 = u162
  generalize u 163 = u163
  generalize u 164 = u164
  generalize u 165 = u165
  generalize u 166 = u166
  generalize u 167 = u167
  generalize u 168 = u168
  generalize u 169 = u169
  generalize u 170 = u170
  generalize u 171 = u171
  generalize u 172 = u172
  generalize u 173 = u173
  generalize u 174 = u174
  generalize u 175 = u175
  generalize u 176 = u176
  generalize u 177 = u177
  generalize u 178 = u178
  generalize u 179 = u179
  generalize u 180 = u180
  generalize u 181 = u181
  generalize u 182 = u182
  generalize u 183 = u183
  generalize u 184 = u184
  generalize u 185 = u185
  generalize u 186 = u186
  generalize u 187 = u187
  generalize u 188 = u188
  clear u
  have HLba := hide hlba
  have HIba1 : Hid ((kq : Int) < (nba : Int)) := by
    show _ < _
    omega
  have HIba2 : Hid (kq < nba) := hiba
  have HCba0 := hide hcba0
  have HCba1 := hide hcba1
  have HCba2 := hide hcba2
  have HCba3 := hide hcba3
  have HCba4 := hide hcba4
  clear hiba hlba hcba0 hcba1 hcba2 hcba3 hcba4
  have HLbb := hide hlbb
  have HIbb1 : Hid ((kq : Int) < (nbb : Int)) := by
    show _ < _
    omega
  have HIbb2 : Hid (kq < nbb) := hibb
  have HCbb0 := hide hcbb0
  have HCbb1 := hide hcbb1
  have HCbb2 := hide hcbb2
  have HCbb3 := hide hcbb3
  have HCbb4 := hide hcbb4
  clear hibb hlbb hcbb0 hcbb1 hcbb2 hcbb3 hcbb4
  have HI3 : Hid ((0 : Int) ≤ (kq : Int)) := Int.natCast_nonneg kq
  have HY : Hid (¬ x0 ≤ y) := by
    show ¬ _
    omega
  have HY2 : Hid (y < x0) := hy
  clear hy
  refine wp_region_phi (by kernel_rfl) (ns := 189) (uses := (fun i => match i with | 0 => [121] | 1 => [122] | 2 => [123] | 3 => [124] | 4 => [125] | 5 => [126] | 6 => [127] | 7 => [128] | 8 => [129] | 9 => [130] | 10 => [131] | 11 => [132] | 12 => [133] | 13 => [134] | 14 => [135] | 15 => [136] | 16 => [137] | 17 => [138] | _ => [])) (by kernel_rfl) (by kernel_rfl) (fun _ w w' => Below w.heap.size w w') (fun w => Below wq.heap.size wq w) (fun _ _ _ h r => h.trans (r.mono h.size)) ((Below.refl _ _).drew) (fun i => match i with | 0 => fun s w => s 121 = .slice (some ⟨ba, oba, none⟩) nba qba | 1 => fun s w => s 122 = .int .i64 (kq : Int) | 2 => fun s w => s 123 = .pointer (some ⟨ba, oba + kq * 5, none⟩) | 3 => fun s w => s 124 = .pointer (some ⟨ba, oba + kq * 5, none⟩) | 4 => fun s w => s 125 = .int .i64 x0 | 5 => fun s w => s 126 = .int .i64 y | 6 => fun s w => s 127 = .bool false | 7 => fun s w => s 128 = .bool false | 8 => fun s w => s 129 = .slice (some ⟨ba, oba, none⟩) nba qba | 9 => fun s w => s 130 = .int .i64 (kq : Int) | 10 => fun s w => s 131 = .pointer (some ⟨ba, oba + kq * 5, none⟩) | 11 => fun s w => s 132 = .agg #[.int .i64 x0, .string x1, .int .i64 x2, .string x3, .string x4] | 12 => fun s w => s 133 = .slice (some ⟨bb, obb, none⟩) nbb qbb | 13 => fun s w => s 134 = .int .i64 (kq : Int) | 14 => fun s w => s 135 = .pointer (some ⟨bb, obb + kq * 5, none⟩) | 15 => fun s w => s 136 = .agg #[.int .i64 x0, .string x1, .int .i64 x2, .string x3, .string x4] | 16 => fun s w => s 137 = .bool false | 17 => fun s w => s 138 = .bool false | _ => fun _ _ => True) ?phc ?phh ?pstep ?pdone
  case phc =>
    intro i s s' w hx h
    match i, hx, h with
    | 0, hx, h =>
      have e121 := hx 121 (by simp)
      first | exact (show _ from by simp only [← e121] at *; exact h) | (simp only [e121] at h; exact h)
    | 1, hx, h =>
      have e122 := hx 122 (by simp)
      first | exact (show _ from by simp only [← e122] at *; exact h) | (simp only [e122] at h; exact h)
    | 2, hx, h =>
      have e123 := hx 123 (by simp)
      first | exact (show _ from by simp only [← e123] at *; exact h) | (simp only [e123] at h; exact h)
    | 3, hx, h =>
      have e124 := hx 124 (by simp)
      first | exact (show _ from by simp only [← e124] at *; exact h) | (simp only [e124] at h; exact h)
    | 4, hx, h =>
      have e125 := hx 125 (by simp)
      first | exact (show _ from by simp only [← e125] at *; exact h) | (simp only [e125] at h; exact h)
    | 5, hx, h =>
      have e126 := hx 126 (by simp)
      first | exact (show _ from by simp only [← e126] at *; exact h) | (simp only [e126] at h; exact h)
    | 6, hx, h =>
      have e127 := hx 127 (by simp)
      first | exact (show _ from by simp only [← e127] at *; exact h) | (simp only [e127] at h; exact h)
    | 7, hx, h =>
      have e128 := hx 128 (by simp)
      first | exact (show _ from by simp only [← e128] at *; exact h) | (simp only [e128] at h; exact h)
    | 8, hx, h =>
      have e129 := hx 129 (by simp)
      first | exact (show _ from by simp only [← e129] at *; exact h) | (simp only [e129] at h; exact h)
    | 9, hx, h =>
      have e130 := hx 130 (by simp)
      first | exact (show _ from by simp only [← e130] at *; exact h) | (simp only [e130] at h; exact h)
    | 10, hx, h =>
      have e131 := hx 131 (by simp)
      first | exact (show _ from by simp only [← e131] at *; exact h) | (simp only [e131] at h; exact h)
    | 11, hx, h =>
      have e132 := hx 132 (by simp)
      first | exact (show _ from by simp only [← e132] at *; exact h) | (simp only [e132] at h; exact h)
    | 12, hx, h =>
      have e133 := hx 133 (by simp)
      first | exact (show _ from by simp only [← e133] at *; exact h) | (simp only [e133] at h; exact h)
    | 13, hx, h =>
      have e134 := hx 134 (by simp)
      first | exact (show _ from by simp only [← e134] at *; exact h) | (simp only [e134] at h; exact h)
    | 14, hx, h =>
      have e135 := hx 135 (by simp)
      first | exact (show _ from by simp only [← e135] at *; exact h) | (simp only [e135] at h; exact h)
    | 15, hx, h =>
      have e136 := hx 136 (by simp)
      first | exact (show _ from by simp only [← e136] at *; exact h) | (simp only [e136] at h; exact h)
    | 16, hx, h =>
      have e137 := hx 137 (by simp)
      first | exact (show _ from by simp only [← e137] at *; exact h) | (simp only [e137] at h; exact h)
    | 17, hx, h =>
      have e138 := hx 138 (by simp)
      first | exact (show _ from by simp only [← e138] at *; exact h) | (simp only [e138] at h; exact h)
    | (n + 18), _, h => exact h
  case phh =>
    intro i j s w w' hij h hb r
    match i, hij, h with
    | 0, hij, h =>
      exact h
    | 1, hij, h =>
      exact h
    | 2, hij, h =>
      exact h
    | 3, hij, h =>
      exact h
    | 4, hij, h =>
      exact h
    | 5, hij, h =>
      exact h
    | 6, hij, h =>
      exact h
    | 7, hij, h =>
      exact h
    | 8, hij, h =>
      exact h
    | 9, hij, h =>
      exact h
    | 10, hij, h =>
      exact h
    | 11, hij, h =>
      exact h
    | 12, hij, h =>
      exact h
    | 13, hij, h =>
      exact h
    | 14, hij, h =>
      exact h
    | 15, hij, h =>
      exact h
    | 16, hij, h =>
      exact h
    | 17, hij, h =>
      exact h
    | (n + 18), _, h => exact h
  case pstep =>
    intro i o ho a' w' hsa hb hd
    match i, ho with
    | 0, ho =>
      obtain rfl := Option.some.inj ho
      try dsimp only at hd
      have g17 : a'.tmps.getD 17 undef = .slice (some ⟨ba, oba, none⟩) nba qba := hsa.rest 17 (by rfl)
      refine wpOp_of rfl rfl ?_
      refine op_run (v := .slice (some ⟨ba, oba, none⟩) nba qba) (w' := w') ?_ ⟨_, rfl, ?_, ?_⟩
      · simp only [execOp, Act.eval, List.map_toArray, List.map_cons, List.map_nil, g17]; first | (go_simp; done) | rfl
      · try dsimp only
        exact (slots_put (ns := 189) (hsa.size.trans rfl) (by decide))
      · exact Below.refl _ _
    | 1, ho =>
      obtain rfl := Option.some.inj ho
      try dsimp only at hd
      have g18 : a'.tmps.getD 18 undef = .int .i64 (kq : Int) := hsa.rest 18 (by rfl)
      refine wpOp_of rfl rfl ?_
      refine op_run (v := .int .i64 (kq : Int)) (w' := w') ?_ ⟨_, rfl, ?_, ?_⟩
      · simp only [execOp, Act.eval, List.map_toArray, List.map_cons, List.map_nil, g18]; first | (go_simp; done) | rfl
      · try dsimp only
        exact (slots_put (ns := 189) (hsa.size.trans rfl) (by decide))
      · exact Below.refl _ _
    | 2, ho =>
      obtain rfl := Option.some.inj ho
      try dsimp only at hd
      have d0 : a'.tmps.getD 121 undef = .slice (some ⟨ba, oba, none⟩) nba qba := hd 0 (by rfl)
      have d1 : a'.tmps.getD 122 undef = .int .i64 (kq : Int) := hd 1 (by rfl)
      have y1 := HIba1.out
      have y2 := HIba2.out
      have y3 := HI3.out
      refine wpOp_of rfl rfl ?_
      refine op_run (v := .pointer (some ⟨ba, oba + kq * 5, none⟩)) (w' := w') ?_ ⟨_, rfl, ?_, ?_⟩
      · simp only [execOp, Act.eval, List.map_toArray, List.map_cons, List.map_nil, d0, d1, y1, y2, y3]; first | (go_simp; done) | rfl
      · try dsimp only
        exact (slots_put (ns := 189) (hsa.size.trans rfl) (by decide))
      · exact Below.refl _ _
    | 3, ho =>
      obtain rfl := Option.some.inj ho
      try dsimp only at hd
      have d2 : a'.tmps.getD 123 undef = .pointer (some ⟨ba, oba + kq * 5, none⟩) := hd 2 (by rfl)
      refine wpOp_of rfl rfl ?_
      refine op_run (v := .pointer (some ⟨ba, oba + kq * 5, none⟩)) (w' := w') ?_ ⟨_, rfl, ?_, ?_⟩
      · simp only [execOp, Act.eval, List.map_toArray, List.map_cons, List.map_nil, d2]; first | (go_simp; done) | rfl
      · try dsimp only
        exact (slots_put (ns := 189) (hsa.size.trans rfl) (by decide))
      · exact Below.refl _ _
    | 4, ho =>
      obtain rfl := Option.some.inj ho
      try dsimp only at hd
      have d3 : a'.tmps.getD 124 undef = .pointer (some ⟨ba, oba + kq * 5, none⟩) := hd 3 (by rfl)
      have y0 : w'.cell? ⟨ba, oba + kq * 5, none⟩ = some (.int .i64 x0) := (hb.cell (p := ⟨ba, oba + kq * 5, none⟩) HLba.out).trans HCba0.out
      have y1 : w'.cell? ⟨ba, oba + kq * 5 + 1, none⟩ = some (.string x1) := (hb.cell (p := ⟨ba, oba + kq * 5 + 1, none⟩) HLba.out).trans HCba1.out
      have y2 : w'.cell? ⟨ba, oba + kq * 5 + 2, none⟩ = some (.int .i64 x2) := (hb.cell (p := ⟨ba, oba + kq * 5 + 2, none⟩) HLba.out).trans HCba2.out
      have y3 : w'.cell? ⟨ba, oba + kq * 5 + 3, none⟩ = some (.string x3) := (hb.cell (p := ⟨ba, oba + kq * 5 + 3, none⟩) HLba.out).trans HCba3.out
      have y4 : w'.cell? ⟨ba, oba + kq * 5 + 4, none⟩ = some (.string x4) := (hb.cell (p := ⟨ba, oba + kq * 5 + 4, none⟩) HLba.out).trans HCba4.out
      refine wpOp_of rfl rfl ?_
      refine op_run (v := .int .i64 x0) (w' := w') ?_ ⟨_, rfl, ?_, ?_⟩
      · simp only [execOp, Act.eval, List.map_toArray, List.map_cons, List.map_nil, d3, y0, y1, y2, y3, y4]; first | (go_simp; done) | rfl
      · try dsimp only
        exact (slots_put (ns := 189) (hsa.size.trans rfl) (by decide))
      · exact Below.refl _ _
    | 5, ho =>
      obtain rfl := Option.some.inj ho
      try dsimp only at hd
      have g13 : a'.tmps.getD 13 undef = .int .i64 y := hsa.rest 13 (by rfl)
      refine wpOp_of rfl rfl ?_
      refine op_run (v := .int .i64 y) (w' := w') ?_ ⟨_, rfl, ?_, ?_⟩
      · simp only [execOp, Act.eval, List.map_toArray, List.map_cons, List.map_nil, g13]; first | (go_simp; done) | rfl
      · try dsimp only
        exact (slots_put (ns := 189) (hsa.size.trans rfl) (by decide))
      · exact Below.refl _ _
    | 6, ho =>
      obtain rfl := Option.some.inj ho
      try dsimp only at hd
      have d4 : a'.tmps.getD 125 undef = .int .i64 x0 := hd 4 (by rfl)
      have d5 : a'.tmps.getD 126 undef = .int .i64 y := hd 5 (by rfl)
      have y1 := HY.out
      have y2 := HY2.out
      refine wpOp_of rfl rfl ?_
      refine op_run (v := .bool false) (w' := w') ?_ ⟨_, rfl, ?_, ?_⟩
      · simp only [execOp, Act.eval, List.map_toArray, List.map_cons, List.map_nil, d4, d5, y1, y2]; first | (go_simp; done) | rfl
      · try dsimp only
        exact (slots_put (ns := 189) (hsa.size.trans rfl) (by decide))
      · exact Below.refl _ _
    | 7, ho =>
      obtain rfl := Option.some.inj ho
      try dsimp only at hd
      have d6 : a'.tmps.getD 127 undef = .bool false := hd 6 (by rfl)
      refine wpOp_of rfl rfl ?_
      refine op_run (v := .bool false) (w' := w') ?_ ⟨_, rfl, ?_, ?_⟩
      · simp only [execOp, Act.eval, List.map_toArray, List.map_cons, List.map_nil, d6]; first | (go_simp; done) | rfl
      · try dsimp only
        exact (slots_put (ns := 189) (hsa.size.trans rfl) (by decide))
      · exact Below.refl _ _
    | 8, ho =>
      obtain rfl := Option.some.inj ho
      try dsimp only at hd
      have d7 : a'.tmps.getD 128 undef = .bool false := hd 7 (by rfl)
      have g17 : a'.tmps.getD 17 undef = .slice (some ⟨ba, oba, none⟩) nba qba := hsa.rest 17 (by rfl)
      refine wpOp_on (j := 7) (dj := 128) rfl rfl rfl d7 ?_
      refine op_run (v := .slice (some ⟨ba, oba, none⟩) nba qba) (w' := w') ?_ ⟨_, rfl, ?_, ?_⟩
      · simp only [execOp, Act.eval, List.map_toArray, List.map_cons, List.map_nil, d7, g17]; first | (go_simp; done) | rfl
      · try dsimp only
        exact (slots_put (ns := 189) (hsa.size.trans rfl) (by decide))
      · exact Below.refl _ _
    | 9, ho =>
      obtain rfl := Option.some.inj ho
      try dsimp only at hd
      have d7 : a'.tmps.getD 128 undef = .bool false := hd 7 (by rfl)
      have g18 : a'.tmps.getD 18 undef = .int .i64 (kq : Int) := hsa.rest 18 (by rfl)
      refine wpOp_on (j := 7) (dj := 128) rfl rfl rfl d7 ?_
      refine op_run (v := .int .i64 (kq : Int)) (w' := w') ?_ ⟨_, rfl, ?_, ?_⟩
      · simp only [execOp, Act.eval, List.map_toArray, List.map_cons, List.map_nil, d7, g18]; first | (go_simp; done) | rfl
      · try dsimp only
        exact (slots_put (ns := 189) (hsa.size.trans rfl) (by decide))
      · exact Below.refl _ _
    | 10, ho =>
      obtain rfl := Option.some.inj ho
      try dsimp only at hd
      have d7 : a'.tmps.getD 128 undef = .bool false := hd 7 (by rfl)
      have d8 : a'.tmps.getD 129 undef = .slice (some ⟨ba, oba, none⟩) nba qba := hd 8 (by rfl)
      have d9 : a'.tmps.getD 130 undef = .int .i64 (kq : Int) := hd 9 (by rfl)
      have y1 := HIba1.out
      have y2 := HIba2.out
      have y3 := HI3.out
      refine wpOp_on (j := 7) (dj := 128) rfl rfl rfl d7 ?_
      refine op_run (v := .pointer (some ⟨ba, oba + kq * 5, none⟩)) (w' := w') ?_ ⟨_, rfl, ?_, ?_⟩
      · simp only [execOp, Act.eval, List.map_toArray, List.map_cons, List.map_nil, d7, d8, d9, y1, y2, y3]; first | (go_simp; done) | rfl
      · try dsimp only
        exact (slots_put (ns := 189) (hsa.size.trans rfl) (by decide))
      · exact Below.refl _ _
    | 11, ho =>
      obtain rfl := Option.some.inj ho
      try dsimp only at hd
      have d7 : a'.tmps.getD 128 undef = .bool false := hd 7 (by rfl)
      have d10 : a'.tmps.getD 131 undef = .pointer (some ⟨ba, oba + kq * 5, none⟩) := hd 10 (by rfl)
      have y0 : w'.cell? ⟨ba, oba + kq * 5, none⟩ = some (.int .i64 x0) := (hb.cell (p := ⟨ba, oba + kq * 5, none⟩) HLba.out).trans HCba0.out
      have y1 : w'.cell? ⟨ba, oba + kq * 5 + 1, none⟩ = some (.string x1) := (hb.cell (p := ⟨ba, oba + kq * 5 + 1, none⟩) HLba.out).trans HCba1.out
      have y2 : w'.cell? ⟨ba, oba + kq * 5 + 2, none⟩ = some (.int .i64 x2) := (hb.cell (p := ⟨ba, oba + kq * 5 + 2, none⟩) HLba.out).trans HCba2.out
      have y3 : w'.cell? ⟨ba, oba + kq * 5 + 3, none⟩ = some (.string x3) := (hb.cell (p := ⟨ba, oba + kq * 5 + 3, none⟩) HLba.out).trans HCba3.out
      have y4 : w'.cell? ⟨ba, oba + kq * 5 + 4, none⟩ = some (.string x4) := (hb.cell (p := ⟨ba, oba + kq * 5 + 4, none⟩) HLba.out).trans HCba4.out
      refine wpOp_on (j := 7) (dj := 128) rfl rfl rfl d7 ?_
      refine op_run (v := .agg #[.int .i64 x0, .string x1, .int .i64 x2, .string x3, .string x4]) (w' := w') ?_ ⟨_, rfl, ?_, ?_⟩
      · simp only [execOp, Act.eval, List.map_toArray, List.map_cons, List.map_nil, d7, d10, y0, y1, y2, y3, y4]; first | (go_simp; done) | rfl
      · try dsimp only
        exact (slots_put (ns := 189) (hsa.size.trans rfl) (by decide))
      · exact Below.refl _ _
    | 12, ho =>
      obtain rfl := Option.some.inj ho
      try dsimp only at hd
      have d7 : a'.tmps.getD 128 undef = .bool false := hd 7 (by rfl)
      have g16 : a'.tmps.getD 16 undef = .slice (some ⟨bb, obb, none⟩) nbb qbb := hsa.rest 16 (by rfl)
      refine wpOp_on (j := 7) (dj := 128) rfl rfl rfl d7 ?_
      refine op_run (v := .slice (some ⟨bb, obb, none⟩) nbb qbb) (w' := w') ?_ ⟨_, rfl, ?_, ?_⟩
      · simp only [execOp, Act.eval, List.map_toArray, List.map_cons, List.map_nil, d7, g16]; first | (go_simp; done) | rfl
      · try dsimp only
        exact (slots_put (ns := 189) (hsa.size.trans rfl) (by decide))
      · exact Below.refl _ _
    | 13, ho =>
      obtain rfl := Option.some.inj ho
      try dsimp only at hd
      have d7 : a'.tmps.getD 128 undef = .bool false := hd 7 (by rfl)
      have g18 : a'.tmps.getD 18 undef = .int .i64 (kq : Int) := hsa.rest 18 (by rfl)
      refine wpOp_on (j := 7) (dj := 128) rfl rfl rfl d7 ?_
      refine op_run (v := .int .i64 (kq : Int)) (w' := w') ?_ ⟨_, rfl, ?_, ?_⟩
      · simp only [execOp, Act.eval, List.map_toArray, List.map_cons, List.map_nil, d7, g18]; first | (go_simp; done) | rfl
      · try dsimp only
        exact (slots_put (ns := 189) (hsa.size.trans rfl) (by decide))
      · exact Below.refl _ _
    | 14, ho =>
      obtain rfl := Option.some.inj ho
      try dsimp only at hd
      have d7 : a'.tmps.getD 128 undef = .bool false := hd 7 (by rfl)
      have d12 : a'.tmps.getD 133 undef = .slice (some ⟨bb, obb, none⟩) nbb qbb := hd 12 (by rfl)
      have d13 : a'.tmps.getD 134 undef = .int .i64 (kq : Int) := hd 13 (by rfl)
      have y1 := HIbb1.out
      have y2 := HIbb2.out
      have y3 := HI3.out
      refine wpOp_on (j := 7) (dj := 128) rfl rfl rfl d7 ?_
      refine op_run (v := .pointer (some ⟨bb, obb + kq * 5, none⟩)) (w' := w') ?_ ⟨_, rfl, ?_, ?_⟩
      · simp only [execOp, Act.eval, List.map_toArray, List.map_cons, List.map_nil, d7, d12, d13, y1, y2, y3]; first | (go_simp; done) | rfl
      · try dsimp only
        exact (slots_put (ns := 189) (hsa.size.trans rfl) (by decide))
      · exact Below.refl _ _
    | 15, ho =>
      obtain rfl := Option.some.inj ho
      try dsimp only at hd
      have d7 : a'.tmps.getD 128 undef = .bool false := hd 7 (by rfl)
      have d14 : a'.tmps.getD 135 undef = .pointer (some ⟨bb, obb + kq * 5, none⟩) := hd 14 (by rfl)
      have y0 : w'.cell? ⟨bb, obb + kq * 5, none⟩ = some (.int .i64 x0) := (hb.cell (p := ⟨bb, obb + kq * 5, none⟩) HLbb.out).trans HCbb0.out
      have y1 : w'.cell? ⟨bb, obb + kq * 5 + 1, none⟩ = some (.string x1) := (hb.cell (p := ⟨bb, obb + kq * 5 + 1, none⟩) HLbb.out).trans HCbb1.out
      have y2 : w'.cell? ⟨bb, obb + kq * 5 + 2, none⟩ = some (.int .i64 x2) := (hb.cell (p := ⟨bb, obb + kq * 5 + 2, none⟩) HLbb.out).trans HCbb2.out
      have y3 : w'.cell? ⟨bb, obb + kq * 5 + 3, none⟩ = some (.string x3) := (hb.cell (p := ⟨bb, obb + kq * 5 + 3, none⟩) HLbb.out).trans HCbb3.out
      have y4 : w'.cell? ⟨bb, obb + kq * 5 + 4, none⟩ = some (.string x4) := (hb.cell (p := ⟨bb, obb + kq * 5 + 4, none⟩) HLbb.out).trans HCbb4.out
      refine wpOp_on (j := 7) (dj := 128) rfl rfl rfl d7 ?_
      refine op_run (v := .agg #[.int .i64 x0, .string x1, .int .i64 x2, .string x3, .string x4]) (w' := w') ?_ ⟨_, rfl, ?_, ?_⟩
      · simp only [execOp, Act.eval, List.map_toArray, List.map_cons, List.map_nil, d7, d14, y0, y1, y2, y3, y4]; first | (go_simp; done) | rfl
      · try dsimp only
        exact (slots_put (ns := 189) (hsa.size.trans rfl) (by decide))
      · exact Below.refl _ _
    | 16, ho =>
      obtain rfl := Option.some.inj ho
      try dsimp only at hd
      have d7 : a'.tmps.getD 128 undef = .bool false := hd 7 (by rfl)
      have d11 : a'.tmps.getD 132 undef = .agg #[.int .i64 x0, .string x1, .int .i64 x2, .string x3, .string x4] := hd 11 (by rfl)
      have d15 : a'.tmps.getD 136 undef = .agg #[.int .i64 x0, .string x1, .int .i64 x2, .string x3, .string x4] := hd 15 (by rfl)
      refine wpOp_on (j := 7) (dj := 128) rfl rfl rfl d7 ?_
      refine op_run (v := .bool false) (w' := w') ?_ ⟨_, rfl, ?_, ?_⟩
      · simp only [execOp, Act.eval, List.map_toArray, List.map_cons, List.map_nil, d7, d11, d15]; first | (go_simp; done) | rfl
      · try dsimp only
        exact (slots_put (ns := 189) (hsa.size.trans rfl) (by decide))
      · exact Below.refl _ _
    | 17, ho =>
      obtain rfl := Option.some.inj ho
      try dsimp only at hd
      have d7 : a'.tmps.getD 128 undef = .bool false := hd 7 (by rfl)
      have d16 : a'.tmps.getD 137 undef = .bool false := hd 16 (by rfl)
      refine wpOp_of rfl rfl ?_
      refine op_run (v := .bool false) (w' := w') ?_ ⟨_, rfl, ?_, ?_⟩
      · simp only [execOp, Act.eval, List.map_toArray, List.map_cons, List.map_nil, d7, d16]; first | (go_simp; done) | rfl
      · try dsimp only
        exact (slots_put (ns := 189) (hsa.size.trans rfl) (by decide))
      · exact Below.refl _ _
    | (n + 18), ho => exact absurd ho (by simp)
  case pdone =>
    intro a' w' hsa hb hd
    have d0 : a'.tmps.getD 121 undef = .slice (some ⟨ba, oba, none⟩) nba qba := hd 0 (by decide)
    have d1 : a'.tmps.getD 122 undef = .int .i64 (kq : Int) := hd 1 (by decide)
    have d2 : a'.tmps.getD 123 undef = .pointer (some ⟨ba, oba + kq * 5, none⟩) := hd 2 (by decide)
    have d3 : a'.tmps.getD 124 undef = .pointer (some ⟨ba, oba + kq * 5, none⟩) := hd 3 (by decide)
    have d4 : a'.tmps.getD 125 undef = .int .i64 x0 := hd 4 (by decide)
    have d5 : a'.tmps.getD 126 undef = .int .i64 y := hd 5 (by decide)
    have d6 : a'.tmps.getD 127 undef = .bool false := hd 6 (by decide)
    have d7 : a'.tmps.getD 128 undef = .bool false := hd 7 (by decide)
    have d8 : a'.tmps.getD 129 undef = .slice (some ⟨ba, oba, none⟩) nba qba := hd 8 (by decide)
    have d9 : a'.tmps.getD 130 undef = .int .i64 (kq : Int) := hd 9 (by decide)
    have d10 : a'.tmps.getD 131 undef = .pointer (some ⟨ba, oba + kq * 5, none⟩) := hd 10 (by decide)
    have d11 : a'.tmps.getD 132 undef = .agg #[.int .i64 x0, .string x1, .int .i64 x2, .string x3, .string x4] := hd 11 (by decide)
    have d12 : a'.tmps.getD 133 undef = .slice (some ⟨bb, obb, none⟩) nbb qbb := hd 12 (by decide)
    have d13 : a'.tmps.getD 134 undef = .int .i64 (kq : Int) := hd 13 (by decide)
    have d14 : a'.tmps.getD 135 undef = .pointer (some ⟨bb, obb + kq * 5, none⟩) := hd 14 (by decide)
    have d15 : a'.tmps.getD 136 undef = .agg #[.int .i64 x0, .string x1, .int .i64 x2, .string x3, .string x4] := hd 15 (by decide)
    have d16 : a'.tmps.getD 137 undef = .bool false := hd 16 (by decide)
    have d17 : a'.tmps.getD 138 undef = .bool false := hd 17 (by decide)
    exact HQ.out _ _ ⟨hsa.size.trans rfl, hsa.defers.trans rfl, hsa.rest 0 (by rfl), hsa.rest 1 (by rfl), hsa.rest 2 (by rfl), hsa.rest 6 (by rfl), hsa.rest 7 (by rfl), hsa.rest 8 (by rfl), hsa.rest 10 (by rfl), hsa.rest 11 (by rfl), hsa.rest 12 (by rfl), hsa.rest 13 (by rfl), hsa.rest 14 (by rfl), hsa.rest 15 (by rfl), hsa.rest 16 (by rfl), hsa.rest 17 (by rfl), hsa.rest 18 (by rfl), hsa.rest 19 (by rfl), hsa.rest 72 (by rfl)⟩ d17 hb
set_option maxHeartbeats 8000000 in
set_option maxRecDepth 100000 in
theorem ri_r45 {K : Act → World → Prop} {c : Code} (hc : regOf (Try.f3.body.getD .skip) 45 = some c) (a : Act) {v : Vri} {wq : World} {L : LOC} {db : Nat} {m xf xp : Int} {R : World → Prop} (hF : Fri a v) (h8v : v.v8 = .pointer (some ⟨L.b, 0, none⟩)) (h15v : v.v15 = .pointer (some ⟨db, 0, none⟩)) (q0 : 0 ≤ xf) (q1 : xf ≤ 1000000) (hbl : db < wq.heap.size) (hcl : wq.cell? ⟨db, 1, none⟩ = some (.int .i64 m)) (hR : ∀ w w', R w → Below w.heap.size w w' → R w') (hE1 : ∀ W, Below wq.heap.size wq W → Calls Try.prog 12 #[.pointer (some ⟨L.b, 0, none⟩)] W fun e w' => e = .returned (.int .i64 xf) ∧ w' = W) (hE2 : ∀ W, Calls Try.prog 9 #[.int .i64 m, .int .i64 (xf + 1)] W fun e w' => e = .returned (.int .i64 xp) ∧ w' = W) (hE3 : ∀ W, Below wq.heap.size wq W → Calls Try.prog 18 #[.pointer (some ⟨L.b, 0, none⟩), .int .i64 xp] W fun e w' => (∃ z : Int, e = .returned (.int .i64 z)) ∧ R w')
    (hQ : ∀ a' w', Fri a' v → R w' → K a' w') :
    Code.wp Try.prog c (Exit.then K fun _ _ _ => False) a wq := by
  have HQ := hide hQ
  clear hQ
  obtain ⟨t', d'⟩ := a
  obtain ⟨v0, v1, v2, v6, v7, v8, v10, v11, v12, v13, v14, v15, v16, v17, v18, v19, v72⟩ := v
  simp only at h8v h15v HQ
  subst h8v h15v
  obtain ⟨hs1, hd1, q0, q1, q2, q6, q7, q8, q10, q11, q12, q13, q14, q15, q16, q17, q18, q19, q72⟩ := hF
  obtain ⟨u, hu⟩ := frame_ri t' hs1
  simp only at hd1 q0 q1 q2 q6 q7 q8 q10 q11 q12 q13 q14 q15 q16 q17 q18 q19 q72
  subst hu hd1
  have e0 : u 0 = v0 := q0
  have e1 : u 1 = v1 := q1
  have e2 : u 2 = v2 := q2
  have e6 : u 6 = v6 := q6
  have e7 : u 7 = v7 := q7
  have e8 : u 8 = .pointer (some ⟨L.b, 0, none⟩) := q8
  have e10 : u 10 = v10 := q10
  have e11 : u 11 = v11 := q11
  have e12 : u 12 = v12 := q12
  have e13 : u 13 = v13 := q13
  have e14 : u 14 = v14 := q14
  have e15 : u 15 = .pointer (some ⟨db, 0, none⟩) := q15
  have e16 : u 16 = v16 := q16
  have e17 : u 17 = v17 := q17
  have e18 : u 18 = v18 := q18
  have e19 : u 19 = v19 := q19
  have e72 : u 72 = v72 := q72
  rw [e0, e1, e2, e6, e7, e8, e10, e11, e12, e13, e14, e15, e16, e17, e18, e19, e72]
  clear q0 e0 q1 e1 q2 e2 q6 e6 q7 e7 q8 e8 q10 e10 q11 e11 q12 e12 q13 e13 q14 e14 q15 e15 q16 e16 q17 e17 q18 e18 q19 e19 q72 e72 hs1
  simp only [Try.f3, Option.getD_some, regOf] at hc
  injection hc with hc
  subst hc
  generalize u 3 = u3
  generalize u 4 = u4
  generalize u 5 = u5
  generalize u 9 = u9
  generalize u 20 = u20
  generalize u 21 = u21
  generalize u 22 = u22
  generalize u 23 = u23
  generalize u 24 = u24
  generalize u 25 = u25
  generalize u 26 = u26
  generalize u 27 = u27
  generalize u 28 = u28
  generalize u 29 = u29
  generalize u 30 = u30
  generalize u 31 = u31
  generalize u 32 = u32
  generalize u 33 = u33
  generalize u 34 = u34
  generalize u 35 = u35
  generalize u 36 = u36
  generalize u 37 = u37
  generalize u 38 = u38
  generalize u 39 = u39
  generalize u 40 = u40
  generalize u 41 = u41
  generalize u 42 = u42
  generalize u 43 = u43
  generalize u 44 = u44
  generalize u 45 = u45
  generalize u 46 = u46
  generalize u 47 = u47
  generalize u 48 = u48
  generalize u 49 = u49
  generalize u 50 = u50
  generalize u 51 = u51
  generalize u 52 = u52
  generalize u 53 = u53
  generalize u 54 = u54
  generalize u 55 = u55
  generalize u 56 = u56
  generalize u 57 = u57
  generalize u 58 = u58
  generalize u 59 = u59
  generalize u 60 = u60
  generalize u 61 = u61
  generalize u 62 = u62
  generalize u 63 = u63
  generalize u 64 = u64
  generalize u 65 = u65
  generalize u 66 = u66
  generalize u 67 = u67
  generalize u 68 = u68
  generalize u 69 = u69
  generalize u 70 = u70
  generalize u 71 = u71
  generalize u 73 = u73
  generalize u 74 = u74
  generalize u 75 = u75
  generalize u 76 = u76
  generalize u 77 = u77
  generalize u 78 = u78
  generalize u 79 = u79
  generalize u 80 = u80
  generalize u 81 = u81
  generalize u 82 = u82
  generalize u 83 = u83
  generalize u 84 = u84
  generalize u 85 = u85
  generalize u 86 = u86
  generalize u 87 = u87
  generalize u 88 = u88
  generalize u 89 = u89
  generalize u 90 = u90
  generalize u 91 = u91
  generalize u 92 = u92
  generalize u 93 = u93
  generalize u 94 = u94
  generalize u 95 = u95
  generalize u 96 = u96
  generalize u 97 = u97
  generalize u 98 = u98
  generalize u 99 = u99
  generalize u 100 = u100
  generalize u 101 = u101
  generalize u 102 = u102
  generalize u 103 = u103
  generalize u 104 = u104
  generalize u 105 = u105
  generalize u 106 = u106
  generalize u 107 = u107
  generalize u 108 = u108
  generalize u 109 = u109
  generalize u 110 = u110
  generalize u 111 = u111
  generalize u 112 = u112
  generalize u 113 = u113
  generalize u 114 = u114
  generalize u 115 = u115
  generalize u 116 = u116
  generalize u 117 = u117
  generalize u 118 = u118
  generalize u 119 = u119
  generalize u 120 = u120
  generalize u 121 = u121
  generalize u 122 = u122
  generalize u 123 = u123
  generalize u 124 = u124
  generalize u 125 = u125
  generalize u 126 = u126
  generalize u 127 = u127
  generalize u 128 = u128
  generalize u 129 = u129
  generalize u 130 = u130
  generalize u 131 = u131
  generalize u 132 = u132
  generalize u 133 = u133
  generalize u 134 = u134
  generalize u 135 = u135
  generalize u 136 = u136
  generalize u 137 = u137
  generalize u 138 = u138
  generalize u 139 = u139
  generalize u 140 = u140
  generalize u 141 = u141
  generalize u 142 = u142
  generalize u 143 = u143
  generalize u 144 = u144
  generalize u 145 = u145
  generalize u 146 = u146
  generalize u 147 = u147
  generalize u 148 = u148
  generalize u 149 = u149
  generalize u 150 = u150
  generalize u 151 = u151
  generalize u 152 = u152
  generalize u 153 = u153
  generalize u 154 = u154
  generalize u 155 = u155
  generalize u 156 = u156
  generalize u 157 = u157
  generalize u 158 = u158
  generalize u 159 = u159
  generalize u 160 = u160
  generalize u 161 = u161
  generalize u 162 = u162
  generalize u 163 = u163
  generalize u 164 = u164
  generalize u 165 = u165
  generalize u 166 = u166
  generalize u 167 = u167
  generalize u 168 = u168
  generalize u 169 = u169
  generalize u 170 = u170
  generalize u 171 = u171
  generalize u 172 = u172
  generalize u 173 = u173
  generalize u 174 = u174
  generalize u 175 = u175
  generalize u 176 = u176
  generalize u 177 = u177
  generalize u 178 = u178
  generalize u 179 = u179
  generalize u 180 = u180
  generalize u 181 = u181
  generalize u 182 = u182
  generalize u 183 = u183
  generalize u 184 = u184
  generalize u 185 = u185
  generalize u 186 = u186
  generalize u 187 = u187
  generalize u 188 = u188
  clear u
  have HR := hide hR
  have HE1 := hide hE1
  have HE2 := hide hE2
  have HE3 := hide hE3
  have HBL := hide hbl
  have HC := hide hcl
  have HY : Hid (IntKind.i64.wrap (xf + 1) = xf + 1) := by
    show _ = _
    rw [IntKind.wrap_i64]
    omega
  clear hR hE1 hE2 hE3 hbl hcl q0 q1
  refine wp_region_any rfl ?_
  refine wpAny_storeT (ns := 189) (uses := (fun i => match i with | 0 => [170] | 1 => [171] | 2 => [172] | 3 => [173] | 4 => [174] | 5 => [175] | 6 => [176] | 7 => [] | _ => [])) (by kernel_rfl) (by kernel_rfl) (fun j w w' => (j ≠ 7 → Below w.heap.size w w') ∧ (j = 7 → R w')) 7 (by decide) (fun bb w => (bb = false → Below wq.heap.size wq w) ∧ (bb = true → R w)) (fun j b w w' hj h r => ⟨fun e => (h.1 e).trans ((r.1 hj).mono (h.1 e).size), fun e => HR.out _ _ (h.2 e) (r.1 hj)⟩) (fun w w' h r => ⟨fun e => (by cases e), fun _ => r.2 rfl⟩) ⟨fun _ => (Below.refl _ _).drew, fun e => by cases e⟩ (fun i => match i with | 0 => fun s w => s 170 = .pointer (some ⟨L.b, 0, none⟩) | 1 => fun s w => s 171 = .pointer (some ⟨db, 1, none⟩) | 2 => fun s w => s 172 = .int .i64 m | 3 => fun s w => s 173 = .pointer (some ⟨L.b, 0, none⟩) | 4 => fun s w => s 174 = .int .i64 xf | 5 => fun s w => s 175 = .int .i64 (xf + 1) | 6 => fun s w => s 176 = .int .i64 xp | 7 => fun s w => True | _ => fun _ _ => True) ?phc ?phh ?pstep ?pdone
  case phc =>
    intro i s s' w hx h
    match i, hx, h with
    | 0, hx, h =>
      have e170 := hx 170 (by simp)
      first | exact (show _ from by simp only [← e170] at *; exact h) | (simp only [e170] at h; exact h)
    | 1, hx, h =>
      have e171 := hx 171 (by simp)
      first | exact (show _ from by simp only [← e171] at *; exact h) | (simp only [e171] at h; exact h)
    | 2, hx, h =>
      have e172 := hx 172 (by simp)
      first | exact (show _ from by simp only [← e172] at *; exact h) | (simp only [e172] at h; exact h)
    | 3, hx, h =>
      have e173 := hx 173 (by simp)
      first | exact (show _ from by simp only [← e173] at *; exact h) | (simp only [e173] at h; exact h)
    | 4, hx, h =>
      have e174 := hx 174 (by simp)
      first | exact (show _ from by simp only [← e174] at *; exact h) | (simp only [e174] at h; exact h)
    | 5, hx, h =>
      have e175 := hx 175 (by simp)
      first | exact (show _ from by simp only [← e175] at *; exact h) | (simp only [e175] at h; exact h)
    | 6, hx, h =>
      have e176 := hx 176 (by simp)
      first | exact (show _ from by simp only [← e176] at *; exact h) | (simp only [e176] at h; exact h)
    | 7, hx, h =>
      exact h
    | (n + 8), _, h => exact h
  case phh =>
    intro i j s w w' hij h r
    match i, hij, h with
    | 0, hij, h =>
      exact h
    | 1, hij, h =>
      exact h
    | 2, hij, h =>
      exact h
    | 3, hij, h =>
      exact h
    | 4, hij, h =>
      exact h
    | 5, hij, h =>
      exact h
    | 6, hij, h =>
      exact h
    | 7, hij, h =>
      exact h
    | (n + 8), _, h => exact h
  case pstep =>
    intro i o ho a' w' bb hbb hsa hb hd
    match i, ho with
    | 0, ho =>
      obtain rfl := Option.some.inj ho
      try dsimp only at hd
      have g8 : a'.tmps.getD 8 undef = .pointer (some ⟨L.b, 0, none⟩) := hsa.rest 8 (by rfl)
      refine wpOp_of rfl rfl ?_
      refine op_run (v := .pointer (some ⟨L.b, 0, none⟩)) (w' := w') ?_ ⟨_, rfl, ?_, ?_⟩
      · simp only [execOp, Act.eval, List.map_toArray, List.map_cons, List.map_nil, g8]; first | (go_simp; done) | rfl
      · try dsimp only
        exact (slots_put (ns := 189) (hsa.size.trans rfl) (by decide))
      · exact ⟨fun _ => Below.refl _ _, fun e => by cases e⟩
    | 1, ho =>
      obtain rfl := Option.some.inj ho
      try dsimp only at hd
      have g15 : a'.tmps.getD 15 undef = .pointer (some ⟨db, 0, none⟩) := hsa.rest 15 (by rfl)
      refine wpOp_of rfl rfl ?_
      refine op_run (v := .pointer (some ⟨db, 1, none⟩)) (w' := w') ?_ ⟨_, rfl, ?_, ?_⟩
      · simp only [execOp, Act.eval, List.map_toArray, List.map_cons, List.map_nil, g15]; first | (go_simp; done) | rfl
      · try dsimp only
        exact (slots_put (ns := 189) (hsa.size.trans rfl) (by decide))
      · exact ⟨fun _ => Below.refl _ _, fun e => by cases e⟩
    | 2, ho =>
      obtain rfl := Option.some.inj ho
      try dsimp only at hd
      have hb0 := hb.1 (hbb (by kernel_rfl))
      have d1 : a'.tmps.getD 171 undef = .pointer (some ⟨db, 1, none⟩) := hd 1 (by rfl)
      have y : w'.cell? ⟨db, 1, none⟩ = some (.int .i64 m) := (hb0.cell (p := ⟨db, 1, none⟩) HBL.out).trans HC.out
      refine wpOp_of rfl rfl ?_
      refine op_run (v := .int .i64 m) (w' := w') ?_ ⟨_, rfl, ?_, ?_⟩
      · simp only [execOp, Act.eval, List.map_toArray, List.map_cons, List.map_nil, d1, y]; first | (go_simp; done) | rfl
      · try dsimp only
        exact (slots_put (ns := 189) (hsa.size.trans rfl) (by decide))
      · exact ⟨fun _ => Below.refl _ _, fun e => by cases e⟩
    | 3, ho =>
      obtain rfl := Option.some.inj ho
      try dsimp only at hd
      have g8 : a'.tmps.getD 8 undef = .pointer (some ⟨L.b, 0, none⟩) := hsa.rest 8 (by rfl)
      refine wpOp_of rfl rfl ?_
      refine op_run (v := .pointer (some ⟨L.b, 0, none⟩)) (w' := w') ?_ ⟨_, rfl, ?_, ?_⟩
      · simp only [execOp, Act.eval, List.map_toArray, List.map_cons, List.map_nil, g8]; first | (go_simp; done) | rfl
      · try dsimp only
        exact (slots_put (ns := 189) (hsa.size.trans rfl) (by decide))
      · exact ⟨fun _ => Below.refl _ _, fun e => by cases e⟩
    | 4, ho =>
      obtain rfl := Option.some.inj ho
      try dsimp only at hd
      have hb0 := hb.1 (hbb (by kernel_rfl))
      have d3 : a'.tmps.getD 173 undef = .pointer (some ⟨L.b, 0, none⟩) := hd 3 (by rfl)
      refine wpOp_of rfl rfl ?_
      refine op_call 12 _ _ rfl (enters_of Try.func12 (by kernel_rfl) rfl) [.pointer (some ⟨L.b, 0, none⟩)] (by simp only [List.map, Act.eval, d3]) (HE1.out w' hb0) ?_
      rintro e w'' ⟨rfl, rfl⟩
      refine ⟨_, rfl, _, rfl, ?_, ?_⟩
      · try dsimp only
        exact (slots_put (ns := 189) (hsa.size.trans rfl) (by decide))
      · exact ⟨fun _ => Below.refl _ _, fun e => by cases e⟩
    | 5, ho =>
      obtain rfl := Option.some.inj ho
      try dsimp only at hd
      have d4 : a'.tmps.getD 174 undef = .int .i64 xf := hd 4 (by rfl)
      have y := HY.out
      refine wpOp_of rfl rfl ?_
      refine op_run (v := .int .i64 (xf + 1)) (w' := w') ?_ ⟨_, rfl, ?_, ?_⟩
      · simp only [execOp, Act.eval, List.map_toArray, List.map_cons, List.map_nil, d4, y]; first | (go_simp; done) | rfl
      · try dsimp only
        exact (slots_put (ns := 189) (hsa.size.trans rfl) (by decide))
      · exact ⟨fun _ => Below.refl _ _, fun e => by cases e⟩
    | 6, ho =>
      obtain rfl := Option.some.inj ho
      try dsimp only at hd
      have d2 : a'.tmps.getD 172 undef = .int .i64 m := hd 2 (by rfl)
      have d5 : a'.tmps.getD 175 undef = .int .i64 (xf + 1) := hd 5 (by rfl)
      refine wpOp_of rfl rfl ?_
      refine op_call 9 _ _ rfl (enters_of Try.func9 (by kernel_rfl) rfl) [.int .i64 m, .int .i64 (xf + 1)] (by simp only [List.map, Act.eval, d2, d5]) (HE2.out w') ?_
      rintro e w'' ⟨rfl, rfl⟩
      refine ⟨_, rfl, _, rfl, ?_, ?_⟩
      · try dsimp only
        exact (slots_put (ns := 189) (hsa.size.trans rfl) (by decide))
      · exact ⟨fun _ => Below.refl _ _, fun e => by cases e⟩
    | 7, ho =>
      obtain rfl := Option.some.inj ho
      try dsimp only at hd
      have hb0 := hb.1 (hbb (by kernel_rfl))
      have d0 : a'.tmps.getD 170 undef = .pointer (some ⟨L.b, 0, none⟩) := hd 0 (by rfl)
      have d6 : a'.tmps.getD 176 undef = .int .i64 xp := hd 6 (by rfl)
      refine wpOp_of rfl rfl ?_
      refine op_call 18 _ _ rfl (enters_of Try.func18 (by kernel_rfl) rfl) [.pointer (some ⟨L.b, 0, none⟩), .int .i64 xp] (by simp only [List.map, Act.eval, d0, d6]) (HE3.out w' hb0) ?_
      rintro e w'' ⟨⟨z, rfl⟩, r2⟩
      refine ⟨_, rfl, _, rfl, ?_, ?_⟩
      · try dsimp only
        trivial
      · exact ⟨fun e => absurd rfl e, fun _ => r2⟩
    | (n + 8), ho => exact absurd ho (by simp)
  case pdone =>
    intro a' w' hsa hb hd
    have d0 : a'.tmps.getD 170 undef = .pointer (some ⟨L.b, 0, none⟩) := hd 0 (by decide)
    have d1 : a'.tmps.getD 171 undef = .pointer (some ⟨db, 1, none⟩) := hd 1 (by decide)
    have d2 : a'.tmps.getD 172 undef = .int .i64 m := hd 2 (by decide)
    have d3 : a'.tmps.getD 173 undef = .pointer (some ⟨L.b, 0, none⟩) := hd 3 (by decide)
    have d4 : a'.tmps.getD 174 undef = .int .i64 xf := hd 4 (by decide)
    have d5 : a'.tmps.getD 175 undef = .int .i64 (xf + 1) := hd 5 (by decide)
    have d6 : a'.tmps.getD 176 undef = .int .i64 xp := hd 6 (by decide)
    have d7 : True := hd 7 (by decide)
    exact HQ.out _ _ ⟨hsa.size.trans rfl, hsa.defers.trans rfl, hsa.rest 0 (by rfl), hsa.rest 1 (by rfl), hsa.rest 2 (by rfl), hsa.rest 6 (by rfl), hsa.rest 7 (by rfl), hsa.rest 8 (by rfl), hsa.rest 10 (by rfl), hsa.rest 11 (by rfl), hsa.rest 12 (by rfl), hsa.rest 13 (by rfl), hsa.rest 14 (by rfl), hsa.rest 15 (by rfl), hsa.rest 16 (by rfl), hsa.rest 17 (by rfl), hsa.rest 18 (by rfl), hsa.rest 19 (by rfl), hsa.rest 72 (by rfl)⟩ (hb.2 rfl)
end Go.Proofs.Ytoafjgioknkeiaa.Y
