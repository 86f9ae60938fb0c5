/-
  carillonref12's Next: its other regions (mkvn.py).
-/
import Derived.Test.YtbkglpbkbfopjaaZVN1
namespace Go.Proofs.Ytbkglpbkbfopjaa
open Go.RowKit

attribute [local go_sem ↓] Go.wp_at_zero Go.wp_at_succ
set_option linter.unusedSimpArgs false
set_option linter.unusedVariables false
theorem infoMB : (Try.prog.info? tMember).map (fun i => (i.zero, i.size, i.bytes)) = some (some (.agg #[.int .i64 0, .int .i64 0]), 2, 16) := by kernel_rfl
set_option maxHeartbeats 8000000 in
set_option maxRecDepth 100000 in
theorem vn_r7 {K : Act → World → Prop} {c : Code} (hc : regOf (Try.f19.body.getD .skip) 7 = some c) (a : Act) {v : Vvn} {wq : World} {b off n cp i : Nat} {m : MB} (hF : Fvn a v) (h1v : v.v1 = .slice (some ⟨b, off, none⟩) n cp) (h9v : v.v9 = .int .i64 (i : Int)) (hi : i < n) (y0 : wq.cell? ⟨b, off + i * 2, none⟩ = some (.int .i64 m.node)) (y1 : wq.cell? ⟨b, off + i * 2 + 1, none⟩ = some (.int .i64 m.life))
    (hQ : ∀ a' w', Fvn a' { v with v10 := .bool (decide m.right) } → Below wq.heap.size wq w' → K a' w') :
    Code.wp Try.prog c (Exit.then K fun _ _ _ => False) a wq := by
  have HQ := hide hQ
  clear hQ
  obtain ⟨t', d'⟩ := a
  obtain ⟨v1, v2, v3, v6, v7, v8, v9, v10, v11, v12, v13, v14, v15, v16⟩ := v
  simp only at h1v h9v HQ
  subst h1v h9v
  obtain ⟨hs1, hd1, q1, q2, q3, q6, q7, q8, q9, q10, q11, q12, q13, q14, q15, q16⟩ := hF
  obtain ⟨u, hu⟩ := frame_vn t' hs1
  simp only at hd1 q1 q2 q3 q6 q7 q8 q9 q10 q11 q12 q13 q14 q15 q16
  subst hu hd1
  have e1 : u 1 = .slice (some ⟨b, off, none⟩) n cp := q1
  have e2 : u 2 = v2 := q2
  have e3 : u 3 = v3 := q3
  have e6 : u 6 = v6 := q6
  have e7 : u 7 = v7 := q7
  have e8 : u 8 = v8 := q8
  have e9 : u 9 = .int .i64 (i : Int) := q9
  have e10 : u 10 = v10 := q10
  have e11 : u 11 = v11 := q11
  have e12 : u 12 = v12 := q12
  have e13 : u 13 = v13 := q13
  have e14 : u 14 = v14 := q14
  have e15 : u 15 = v15 := q15
  have e16 : u 16 = v16 := q16
  rw [e1, e2, e3, e6, e7, e8, e9, e10, e11, e12, e13, e14, e15, e16]
  clear q1 e1 q2 e2 q3 e3 q6 e6 q7 e7 q8 e8 q9 e9 q10 e10 q11 e11 q12 e12 q13 e13 q14 e14 q15 e15 q16 e16 hs1
  simp only [Try.f19, Option.getD_some, regOf] at hc
  injection hc with hc
  subst hc
  generalize u 0 = u0
  generalize u 4 = u4
  generalize u 5 = u5
  generalize u 17 = u17
  generalize u 18 = u18
  generalize u 19 = u19
  generalize u 20 = u20
  generalize u 21 = u21
  generalize u 22 = u22
  generalize u 23 = u23
  generalize u 24 = u24
  generalize u 25 = u25
  generalize u 26 = u26
  generalize u 27 = u27
  generalize u 28 = u28
  generalize u 29 = u29
  generalize u 30 = u30
  generalize u 31 = u31
  generalize u 32 = u32
  generalize u 33 = u33
  generalize u 34 = u34
  generalize u 35 = u35
  generalize u 36 = u36
  generalize u 37 = u37
  generalize u 38 = u38
  generalize u 39 = u39
  generalize u 40 = u40
  generalize u 41 = u41
  generalize u 42 = u42
  generalize u 43 = u43
  generalize u 44 = u44
  generalize u 45 = u45
  generalize u 46 = u46
  generalize u 47 = u47
  generalize u 48 = u48
  generalize u 49 = u49
  generalize u 50 = u50
  generalize u 51 = u51
  generalize u 52 = u52
  generalize u 53 = u53
  generalize u 54 = u54
  generalize u 55 = u55
  generalize u 56 = u56
  generalize u 57 = u57
  generalize u 58 = u58
  generalize u 59 = u59
  generalize u 60 = u60
  generalize u 61 = u61
  generalize u 62 = u62
  generalize u 63 = u63
  generalize u 64 = u64
  generalize u 65 = u65
  generalize u 66 = u66
  generalize u 67 = u67
  generalize u 68 = u68
  generalize u 69 = u69
  generalize u 70 = u70
  generalize u 71 = u71
  generalize u 72 = u72
  generalize u 73 = u73
  generalize u 74 = u74
  generalize u 75 = u75
  generalize u 76 = u76
  generalize u 77 = u77
  generalize u 78 = u78
  generalize u 79 = u79
  generalize u 80 = u80
  generalize u 81 = u81
  generalize u 82 = u82
  generalize u 83 = u83
  generalize u 84 = u84
  generalize u 85 = u85
  generalize u 86 = u86
  generalize u 87 = u87
  generalize u 88 = u88
  generalize u 89 = u89
  generalize u 90 = u90
  generalize u 91 = u91
  generalize u 92 = u92
  generalize u 93 = u93
  generalize u 94 = u94
  generalize u 95 = u95
  generalize u 96 = u96
  generalize u 97 = u97
  generalize u 98 = u98
  generalize u 99 = u99
  generalize u 100 = u100
  generalize u 101 = u101
  generalize u 102 = u102
  generalize u 103 = u103
  generalize u 104 = u104
  clear u
  have HR := hide (rmember m wq)
  generalize decide m.right = r at *
  obtain ⟨mn, ml⟩ := m
  simp only [MB.v] at *
  have hi0 : (0 : Int) ≤ (i : Int) := by omega
  have hi1 : (i : Int) < (n : Int) := by omega
  go_wp2_with fail
  refine HR.out.mono ?_
  rintro e w1 ⟨rfl, b1⟩
  have B1 := hide b1
  clear b1 HR
  go_wp2
  exact HQ.out _ _ ⟨rfl, rfl, rfl, rfl, rfl, rfl, rfl, rfl, rfl, rfl, rfl, rfl, rfl, rfl, rfl, rfl⟩ B1.out
set_option maxHeartbeats 8000000 in
set_option maxRecDepth 100000 in
theorem vn_r8 {K : Act → World → Prop} {c : Code} (hc : regOf (Try.f19.body.getD .skip) 8 = some c) (a : Act) {v : Vvn} {wq : World} {r : Bool} (hF : Fvn a v) (h10v : v.v10 = .bool r) (hQ : ∀ a', Fvn a' v → a'.tmps.getD 39 undef = .bool (!r) → K a' wq) :
    Code.wp Try.prog c (Exit.then K fun _ _ _ => False) a wq := by
  have HQ := hide hQ
  clear hQ
  obtain ⟨t', d'⟩ := a
  obtain ⟨v1, v2, v3, v6, v7, v8, v9, v10, v11, v12, v13, v14, v15, v16⟩ := v
  simp only at h10v HQ
  subst h10v
  obtain ⟨hs1, hd1, q1, q2, q3, q6, q7, q8, q9, q10, q11, q12, q13, q14, q15, q16⟩ := hF
  obtain ⟨u, hu⟩ := frame_vn t' hs1
  simp only at hd1 q1 q2 q3 q6 q7 q8 q9 q10 q11 q12 q13 q14 q15 q16
  subst hu hd1
  have e1 : u 1 = v1 := q1
  have e2 : u 2 = v2 := q2
  have e3 : u 3 = v3 := q3
  have e6 : u 6 = v6 := q6
  have e7 : u 7 = v7 := q7
  have e8 : u 8 = v8 := q8
  have e9 : u 9 = v9 := q9
  have e10 : u 10 = .bool r := q10
  have e11 : u 11 = v11 := q11
  have e12 : u 12 = v12 := q12
  have e13 : u 13 = v13 := q13
  have e14 : u 14 = v14 := q14
  have e15 : u 15 = v15 := q15
  have e16 : u 16 = v16 := q16
  rw [e1, e2, e3, e6, e7, e8, e9, e10, e11, e12, e13, e14, e15, e16]
  clear q1 e1 q2 e2 q3 e3 q6 e6 q7 e7 q8 e8 q9 e9 q10 e10 q11 e11 q12 e12 q13 e13 q14 e14 q15 e15 q16 e16 hs1
  simp only [Try.f19, Option.getD_some, regOf] at hc
  injection hc with hc
  subst hc
  generalize u 0 = u0
  generalize u 4 = u4
  generalize u 5 = u5
  generalize u 17 = u17
  generalize u 18 = u18
  generalize u 19 = u19
  generalize u 20 = u20
  generalize u 21 = u21
  generalize u 22 = u22
  generalize u 23 = u23
  generalize u 24 = u24
  generalize u 25 = u25
  generalize u 26 = u26
  generalize u 27 = u27
  generalize u 28 = u28
  generalize u 29 = u29
  generalize u 30 = u30
  generalize u 31 = u31
  generalize u 32 = u32
  generalize u 33 = u33
  generalize u 34 = u34
  generalize u 35 = u35
  generalize u 36 = u36
  generalize u 37 = u37
  generalize u 38 = u38
  generalize u 39 = u39
  generalize u 40 = u40
  generalize u 41 = u41
  generalize u 42 = u42
  generalize u 43 = u43
  generalize u 44 = u44
  generalize u 45 = u45
  generalize u 46 = u46
  generalize u 47 = u47
  generalize u 48 = u48
  generalize u 49 = u49
  generalize u 50 = u50
  generalize u 51 = u51
  generalize u 52 = u52
  generalize u 53 = u53
  generalize u 54 = u54
  generalize u 55 = u55
  generalize u 56 = u56
  generalize u 57 = u57
  generalize u 58 = u58
  generalize u 59 = u59
  generalize u 60 = u60
  generalize u 61 = u61
  generalize u 62 = u62
  generalize u 63 = u63
  generalize u 64 = u64
  generalize u 65 = u65
  generalize u 66 = u66
  generalize u 67 = u67
  generalize u 68 = u68
  generalize u 69 = u69
  generalize u 70 = u70
  generalize u 71 = u71
  generalize u 72 = u72
  generalize u 73 = u73
  generalize u 74 = u74
  generalize u 75 = u75
  generalize u 76 = u76
  generalize u 77 = u77
  generalize u 78 = u78
  generalize u 79 = u79
  generalize u 80 = u80
  generalize u 81 = u81
  generalize u 82 = u82
  generalize u 83 = u83
  generalize u 84 = u84
  generalize u 85 = u85
  generalize u 86 = u86
  generalize u 87 = u87
  generalize u 88 = u88
  generalize u 89 = u89
  generalize u 90 = u90
  generalize u 91 = u91
  generalize u 92 = u92
  generalize u 93 = u93
  generalize u 94 = u94
  generalize u 95 = u95
  generalize u 96 = u96
  generalize u 97 = u97
  generalize u 98 = u98
  generalize u 99 = u99
  generalize u 100 = u100
  generalize u 101 = u101
  generalize u 102 = u102
  generalize u 103 = u103
  generalize u 104 = u104
  clear u
  go_wp2
  exact HQ.out _ ⟨rfl, rfl, rfl, rfl, rfl, rfl, rfl, rfl, rfl, rfl, rfl, rfl, rfl, rfl, rfl, rfl⟩ rfl
set_option maxHeartbeats 8000000 in
set_option maxRecDepth 100000 in
theorem vn_r10 {K : Act → World → Prop} {c : Code} (hc : regOf (Try.f19.body.getD .skip) 10 = some c) (a : Act) {v : Vvn} {wq : World} {d n cp : Nat} {num : Int} {ao : Option Addr} (hF : Fvn a v) (h3v : v.v3 = .pointer (some ⟨d, 0, none⟩)) (hD : wq.heap[d]? = some (.cells #[.int .i64 num, .slice ao n cp] tView (0, 0))) (hn : 1 ≤ num ∧ num < big)
    (hQ : ∀ a', Fvn a' { v with v11 := .pointer (some ⟨wq.heap.size, 0, none⟩) } → K a' (wq.alloc (.cells #[.int .i64 (num + 1), .slice none 0 0] tView))) :
    Code.wp Try.prog c (Exit.then K fun _ _ _ => False) a wq := by
  have HQ := hide hQ
  clear hQ
  obtain ⟨t', d'⟩ := a
  obtain ⟨v1, v2, v3, v6, v7, v8, v9, v10, v11, v12, v13, v14, v15, v16⟩ := v
  simp only at h3v HQ
  subst h3v
  obtain ⟨hs1, hd1, q1, q2, q3, q6, q7, q8, q9, q10, q11, q12, q13, q14, q15, q16⟩ := hF
  obtain ⟨u, hu⟩ := frame_vn t' hs1
  simp only at hd1 q1 q2 q3 q6 q7 q8 q9 q10 q11 q12 q13 q14 q15 q16
  subst hu hd1
  have e1 : u 1 = v1 := q1
  have e2 : u 2 = v2 := q2
  have e3 : u 3 = .pointer (some ⟨d, 0, none⟩) := q3
  have e6 : u 6 = v6 := q6
  have e7 : u 7 = v7 := q7
  have e8 : u 8 = v8 := q8
  have e9 : u 9 = v9 := q9
  have e10 : u 10 = v10 := q10
  have e11 : u 11 = v11 := q11
  have e12 : u 12 = v12 := q12
  have e13 : u 13 = v13 := q13
  have e14 : u 14 = v14 := q14
  have e15 : u 15 = v15 := q15
  have e16 : u 16 = v16 := q16
  rw [e1, e2, e3, e6, e7, e8, e9, e10, e11, e12, e13, e14, e15, e16]
  clear q1 e1 q2 e2 q3 e3 q6 e6 q7 e7 q8 e8 q9 e9 q10 e10 q11 e11 q12 e12 q13 e13 q14 e14 q15 e15 q16 e16 hs1
  simp only [Try.f19, Option.getD_some, regOf] at hc
  injection hc with hc
  subst hc
  generalize u 0 = u0
  generalize u 4 = u4
  generalize u 5 = u5
  generalize u 17 = u17
  generalize u 18 = u18
  generalize u 19 = u19
  generalize u 20 = u20
  generalize u 21 = u21
  generalize u 22 = u22
  generalize u 23 = u23
  generalize u 24 = u24
  generalize u 25 = u25
  generalize u 26 = u26
  generalize u 27 = u27
  generalize u 28 = u28
  generalize u 29 = u29
  generalize u 30 = u30
  generalize u 31 = u31
  generalize u 32 = u32
  generalize u 33 = u33
  generalize u 34 = u34
  generalize u 35 = u35
  generalize u 36 = u36
  generalize u 37 = u37
  generalize u 38 = u38
  generalize u 39 = u39
  generalize u 40 = u40
  generalize u 41 = u41
  generalize u 42 = u42
  generalize u 43 = u43
  generalize u 44 = u44
  generalize u 45 = u45
  generalize u 46 = u46
  generalize u 47 = u47
  generalize u 48 = u48
  generalize u 49 = u49
  generalize u 50 = u50
  generalize u 51 = u51
  generalize u 52 = u52
  generalize u 53 = u53
  generalize u 54 = u54
  generalize u 55 = u55
  generalize u 56 = u56
  generalize u 57 = u57
  generalize u 58 = u58
  generalize u 59 = u59
  generalize u 60 = u60
  generalize u 61 = u61
  generalize u 62 = u62
  generalize u 63 = u63
  generalize u 64 = u64
  generalize u 65 = u65
  generalize u 66 = u66
  generalize u 67 = u67
  generalize u 68 = u68
  generalize u 69 = u69
  generalize u 70 = u70
  generalize u 71 = u71
  generalize u 72 = u72
  generalize u 73 = u73
  generalize u 74 = u74
  generalize u 75 = u75
  generalize u 76 = u76
  generalize u 77 = u77
  generalize u 78 = u78
  generalize u 79 = u79
  generalize u 80 = u80
  generalize u 81 = u81
  generalize u 82 = u82
  generalize u 83 = u83
  generalize u 84 = u84
  generalize u 85 = u85
  generalize u 86 = u86
  generalize u 87 = u87
  generalize u 88 = u88
  generalize u 89 = u89
  generalize u 90 = u90
  generalize u 91 = u91
  generalize u 92 = u92
  generalize u 93 = u93
  generalize u 94 = u94
  generalize u 95 = u95
  generalize u 96 = u96
  generalize u 97 = u97
  generalize u 98 = u98
  generalize u 99 = u99
  generalize u 100 = u100
  generalize u 101 = u101
  generalize u 102 = u102
  generalize u 103 = u103
  generalize u 104 = u104
  clear u
  have c0 := box_cell hD 0 rfl
  clear hD
  have hn1 : 1 ≤ num := hn.1
  have hn2 : num < 9007199254740991 := hn.2
  clear hn
  go_wp2
  exact HQ.out _ ⟨rfl, rfl, rfl, rfl, rfl, rfl, rfl, rfl, rfl, rfl, rfl, rfl, rfl, rfl, rfl, rfl⟩
set_option maxHeartbeats 8000000 in
set_option maxRecDepth 100000 in
theorem vn_r18 {K : Act → World → Prop} {c : Code} (hc : regOf (Try.f19.body.getD .skip) 18 = some c) (a : Act) {v : Vvn} {wq : World} {b off n cp i k : Nat} {q : Int} {r : Bool} (hF : Fvn a v) (h2v : v.v2 = .slice (some ⟨b, off, none⟩) n cp) (h12v : v.v12 = .int .i64 (k : Int)) (h13v : v.v13 = .bool r) (h14v : v.v14 = .int .i64 (i : Int)) (hi : i < n) (y0 : wq.cell? ⟨b, off + i, none⟩ = some (.int .i64 q))
    (hQ : ∀ a', Fvn a' { v with v13 := .bool (r || q == (k : Int)) } → K a' wq) :
    Code.wp Try.prog c (Exit.then K fun _ _ _ => False) a wq := by
  have HQ := hide hQ
  clear hQ
  obtain ⟨t', d'⟩ := a
  obtain ⟨v1, v2, v3, v6, v7, v8, v9, v10, v11, v12, v13, v14, v15, v16⟩ := v
  simp only at h2v h12v h13v h14v HQ
  subst h2v h12v h13v h14v
  obtain ⟨hs1, hd1, q1, q2, q3, q6, q7, q8, q9, q10, q11, q12, q13, q14, q15, q16⟩ := hF
  obtain ⟨u, hu⟩ := frame_vn t' hs1
  simp only at hd1 q1 q2 q3 q6 q7 q8 q9 q10 q11 q12 q13 q14 q15 q16
  subst hu hd1
  have e1 : u 1 = v1 := q1
  have e2 : u 2 = .slice (some ⟨b, off, none⟩) n cp := q2
  have e3 : u 3 = v3 := q3
  have e6 : u 6 = v6 := q6
  have e7 : u 7 = v7 := q7
  have e8 : u 8 = v8 := q8
  have e9 : u 9 = v9 := q9
  have e10 : u 10 = v10 := q10
  have e11 : u 11 = v11 := q11
  have e12 : u 12 = .int .i64 (k : Int) := q12
  have e13 : u 13 = .bool r := q13
  have e14 : u 14 = .int .i64 (i : Int) := q14
  have e15 : u 15 = v15 := q15
  have e16 : u 16 = v16 := q16
  rw [e1, e2, e3, e6, e7, e8, e9, e10, e11, e12, e13, e14, e15, e16]
  clear q1 e1 q2 e2 q3 e3 q6 e6 q7 e7 q8 e8 q9 e9 q10 e10 q11 e11 q12 e12 q13 e13 q14 e14 q15 e15 q16 e16 hs1
  simp only [Try.f19, Option.getD_some, regOf] at hc
  injection hc with hc
  subst hc
  generalize u 0 = u0
  generalize u 4 = u4
  generalize u 5 = u5
  generalize u 17 = u17
  generalize u 18 = u18
  generalize u 19 = u19
  generalize u 20 = u20
  generalize u 21 = u21
  generalize u 22 = u22
  generalize u 23 = u23
  generalize u 24 = u24
  generalize u 25 = u25
  generalize u 26 = u26
  generalize u 27 = u27
  generalize u 28 = u28
  generalize u 29 = u29
  generalize u 30 = u30
  generalize u 31 = u31
  generalize u 32 = u32
  generalize u 33 = u33
  generalize u 34 = u34
  generalize u 35 = u35
  generalize u 36 = u36
  generalize u 37 = u37
  generalize u 38 = u38
  generalize u 39 = u39
  generalize u 40 = u40
  generalize u 41 = u41
  generalize u 42 = u42
  generalize u 43 = u43
  generalize u 44 = u44
  generalize u 45 = u45
  generalize u 46 = u46
  generalize u 47 = u47
  generalize u 48 = u48
  generalize u 49 = u49
  generalize u 50 = u50
  generalize u 51 = u51
  generalize u 52 = u52
  generalize u 53 = u53
  generalize u 54 = u54
  generalize u 55 = u55
  generalize u 56 = u56
  generalize u 57 = u57
  generalize u 58 = u58
  generalize u 59 = u59
  generalize u 60 = u60
  generalize u 61 = u61
  generalize u 62 = u62
  generalize u 63 = u63
  generalize u 64 = u64
  generalize u 65 = u65
  generalize u 66 = u66
  generalize u 67 = u67
  generalize u 68 = u68
  generalize u 69 = u69
  generalize u 70 = u70
  generalize u 71 = u71
  generalize u 72 = u72
  generalize u 73 = u73
  generalize u 74 = u74
  generalize u 75 = u75
  generalize u 76 = u76
  generalize u 77 = u77
  generalize u 78 = u78
  generalize u 79 = u79
  generalize u 80 = u80
  generalize u 81 = u81
  generalize u 82 = u82
  generalize u 83 = u83
  generalize u 84 = u84
  generalize u 85 = u85
  generalize u 86 = u86
  generalize u 87 = u87
  generalize u 88 = u88
  generalize u 89 = u89
  generalize u 90 = u90
  generalize u 91 = u91
  generalize u 92 = u92
  generalize u 93 = u93
  generalize u 94 = u94
  generalize u 95 = u95
  generalize u 96 = u96
  generalize u 97 = u97
  generalize u 98 = u98
  generalize u 99 = u99
  generalize u 100 = u100
  generalize u 101 = u101
  generalize u 102 = u102
  generalize u 103 = u103
  generalize u 104 = u104
  clear u
  have hi0 : (0 : Int) ≤ (i : Int) := by omega
  have hi1 : (i : Int) < (n : Int) := by omega
  cases r
  · go_wp2
    exact HQ.out _ ⟨rfl, rfl, rfl, rfl, rfl, rfl, rfl, rfl, rfl, rfl, rfl, rfl, rfl, rfl, rfl, rfl⟩
  · go_wp2
    exact HQ.out _ ⟨rfl, rfl, rfl, rfl, rfl, rfl, rfl, rfl, rfl, rfl, rfl, rfl, rfl, rfl, rfl, rfl⟩
set_option maxHeartbeats 8000000 in
set_option maxRecDepth 100000 in
theorem vn_r23 {K : Act → World → Prop} {c : Code} (hc : regOf (Try.f19.body.getD .skip) 23 = some c) (a : Act) {v : Vvn} {wq : World} {b off n cp i : Nat} {k : Nat} {m : MB} (hF : Fvn a v) (h1v : v.v1 = .slice (some ⟨b, off, none⟩) n cp) (h12v : v.v12 = .int .i64 (k : Int)) (h16v : v.v16 = .int .i64 (i : Int)) (hi : i < n) (y0 : wq.cell? ⟨b, off + i * 2, none⟩ = some (.int .i64 m.node))
    (hQ : ∀ a', Fvn a' v → a'.tmps.getD 76 undef = .bool (m.node == (k : Int)) → K a' wq) :
    Code.wp Try.prog c (Exit.then K fun _ _ _ => False) a wq := by
  have HQ := hide hQ
  clear hQ
  obtain ⟨t', d'⟩ := a
  obtain ⟨v1, v2, v3, v6, v7, v8, v9, v10, v11, v12, v13, v14, v15, v16⟩ := v
  simp only at h1v h12v h16v HQ
  subst h1v h12v h16v
  obtain ⟨hs1, hd1, q1, q2, q3, q6, q7, q8, q9, q10, q11, q12, q13, q14, q15, q16⟩ := hF
  obtain ⟨u, hu⟩ := frame_vn t' hs1
  simp only at hd1 q1 q2 q3 q6 q7 q8 q9 q10 q11 q12 q13 q14 q15 q16
  subst hu hd1
  have e1 : u 1 = .slice (some ⟨b, off, none⟩) n cp := q1
  have e2 : u 2 = v2 := q2
  have e3 : u 3 = v3 := q3
  have e6 : u 6 = v6 := q6
  have e7 : u 7 = v7 := q7
  have e8 : u 8 = v8 := q8
  have e9 : u 9 = v9 := q9
  have e10 : u 10 = v10 := q10
  have e11 : u 11 = v11 := q11
  have e12 : u 12 = .int .i64 (k : Int) := q12
  have e13 : u 13 = v13 := q13
  have e14 : u 14 = v14 := q14
  have e15 : u 15 = v15 := q15
  have e16 : u 16 = .int .i64 (i : Int) := q16
  rw [e1, e2, e3, e6, e7, e8, e9, e10, e11, e12, e13, e14, e15, e16]
  clear q1 e1 q2 e2 q3 e3 q6 e6 q7 e7 q8 e8 q9 e9 q10 e10 q11 e11 q12 e12 q13 e13 q14 e14 q15 e15 q16 e16 hs1
  simp only [Try.f19, Option.getD_some, regOf] at hc
  injection hc with hc
  subst hc
  generalize u 0 = u0
  generalize u 4 = u4
  generalize u 5 = u5
  generalize u 17 = u17
  generalize u 18 = u18
  generalize u 19 = u19
  generalize u 20 = u20
  generalize u 21 = u21
  generalize u 22 = u22
  generalize u 23 = u23
  generalize u 24 = u24
  generalize u 25 = u25
  generalize u 26 = u26
  generalize u 27 = u27
  generalize u 28 = u28
  generalize u 29 = u29
  generalize u 30 = u30
  generalize u 31 = u31
  generalize u 32 = u32
  generalize u 33 = u33
  generalize u 34 = u34
  generalize u 35 = u35
  generalize u 36 = u36
  generalize u 37 = u37
  generalize u 38 = u38
  generalize u 39 = u39
  generalize u 40 = u40
  generalize u 41 = u41
  generalize u 42 = u42
  generalize u 43 = u43
  generalize u 44 = u44
  generalize u 45 = u45
  generalize u 46 = u46
  generalize u 47 = u47
  generalize u 48 = u48
  generalize u 49 = u49
  generalize u 50 = u50
  generalize u 51 = u51
  generalize u 52 = u52
  generalize u 53 = u53
  generalize u 54 = u54
  generalize u 55 = u55
  generalize u 56 = u56
  generalize u 57 = u57
  generalize u 58 = u58
  generalize u 59 = u59
  generalize u 60 = u60
  generalize u 61 = u61
  generalize u 62 = u62
  generalize u 63 = u63
  generalize u 64 = u64
  generalize u 65 = u65
  generalize u 66 = u66
  generalize u 67 = u67
  generalize u 68 = u68
  generalize u 69 = u69
  generalize u 70 = u70
  generalize u 71 = u71
  generalize u 72 = u72
  generalize u 73 = u73
  generalize u 74 = u74
  generalize u 75 = u75
  generalize u 76 = u76
  generalize u 77 = u77
  generalize u 78 = u78
  generalize u 79 = u79
  generalize u 80 = u80
  generalize u 81 = u81
  generalize u 82 = u82
  generalize u 83 = u83
  generalize u 84 = u84
  generalize u 85 = u85
  generalize u 86 = u86
  generalize u 87 = u87
  generalize u 88 = u88
  generalize u 89 = u89
  generalize u 90 = u90
  generalize u 91 = u91
  generalize u 92 = u92
  generalize u 93 = u93
  generalize u 94 = u94
  generalize u 95 = u95
  generalize u 96 = u96
  generalize u 97 = u97
  generalize u 98 = u98
  generalize u 99 = u99
  generalize u 100 = u100
  generalize u 101 = u101
  generalize u 102 = u102
  generalize u 103 = u103
  generalize u 104 = u104
  clear u
  have hi0 : (0 : Int) ≤ (i : Int) := by omega
  have hi1 : (i : Int) < (n : Int) := by omega
  generalize m.node = q at *
  go_wp2
  exact HQ.out _ ⟨rfl, rfl, rfl, rfl, rfl, rfl, rfl, rfl, rfl, rfl, rfl, rfl, rfl, rfl, rfl, rfl⟩ rfl
set_option maxHeartbeats 8000000 in
set_option maxRecDepth 100000 in
theorem vn_r24 {K : Act → World → Prop} {c : Code} (hc : regOf (Try.f19.body.getD .skip) 24 = some c) (a : Act) {v : Vvn} {wq : World} {b off n cp i : Nat} {m : MB} {q : Int} (hF : Fvn a v) (h1v : v.v1 = .slice (some ⟨b, off, none⟩) n cp) (h15v : v.v15 = .int .i64 q) (h16v : v.v16 = .int .i64 (i : Int)) (hi : i < n) (y1 : wq.cell? ⟨b, off + i * 2 + 1, none⟩ = some (.int .i64 m.life))
    (hQ : ∀ a', Fvn a' { v with v15 := .int .i64 (max q m.life) } → K a' wq) :
    Code.wp Try.prog c (Exit.then K fun _ _ _ => False) a wq := by
  have HQ := hide hQ
  clear hQ
  obtain ⟨t', d'⟩ := a
  obtain ⟨v1, v2, v3, v6, v7, v8, v9, v10, v11, v12, v13, v14, v15, v16⟩ := v
  simp only at h1v h15v h16v HQ
  subst h1v h15v h16v
  obtain ⟨hs1, hd1, q1, q2, q3, q6, q7, q8, q9, q10, q11, q12, q13, q14, q15, q16⟩ := hF
  obtain ⟨u, hu⟩ := frame_vn t' hs1
  simp only at hd1 q1 q2 q3 q6 q7 q8 q9 q10 q11 q12 q13 q14 q15 q16
  subst hu hd1
  have e1 : u 1 = .slice (some ⟨b, off, none⟩) n cp := q1
  have e2 : u 2 = v2 := q2
  have e3 : u 3 = v3 := q3
  have e6 : u 6 = v6 := q6
  have e7 : u 7 = v7 := q7
  have e8 : u 8 = v8 := q8
  have e9 : u 9 = v9 := q9
  have e10 : u 10 = v10 := q10
  have e11 : u 11 = v11 := q11
  have e12 : u 12 = v12 := q12
  have e13 : u 13 = v13 := q13
  have e14 : u 14 = v14 := q14
  have e15 : u 15 = .int .i64 q := q15
  have e16 : u 16 = .int .i64 (i : Int) := q16
  rw [e1, e2, e3, e6, e7, e8, e9, e10, e11, e12, e13, e14, e15, e16]
  clear q1 e1 q2 e2 q3 e3 q6 e6 q7 e7 q8 e8 q9 e9 q10 e10 q11 e11 q12 e12 q13 e13 q14 e14 q15 e15 q16 e16 hs1
  simp only [Try.f19, Option.getD_some, regOf] at hc
  injection hc with hc
  subst hc
  generalize u 0 = u0
  generalize u 4 = u4
  generalize u 5 = u5
  generalize u 17 = u17
  generalize u 18 = u18
  generalize u 19 = u19
  generalize u 20 = u20
  generalize u 21 = u21
  generalize u 22 = u22
  generalize u 23 = u23
  generalize u 24 = u24
  generalize u 25 = u25
  generalize u 26 = u26
  generalize u 27 = u27
  generalize u 28 = u28
  generalize u 29 = u29
  generalize u 30 = u30
  generalize u 31 = u31
  generalize u 32 = u32
  generalize u 33 = u33
  generalize u 34 = u34
  generalize u 35 = u35
  generalize u 36 = u36
  generalize u 37 = u37
  generalize u 38 = u38
  generalize u 39 = u39
  generalize u 40 = u40
  generalize u 41 = u41
  generalize u 42 = u42
  generalize u 43 = u43
  generalize u 44 = u44
  generalize u 45 = u45
  generalize u 46 = u46
  generalize u 47 = u47
  generalize u 48 = u48
  generalize u 49 = u49
  generalize u 50 = u50
  generalize u 51 = u51
  generalize u 52 = u52
  generalize u 53 = u53
  generalize u 54 = u54
  generalize u 55 = u55
  generalize u 56 = u56
  generalize u 57 = u57
  generalize u 58 = u58
  generalize u 59 = u59
  generalize u 60 = u60
  generalize u 61 = u61
  generalize u 62 = u62
  generalize u 63 = u63
  generalize u 64 = u64
  generalize u 65 = u65
  generalize u 66 = u66
  generalize u 67 = u67
  generalize u 68 = u68
  generalize u 69 = u69
  generalize u 70 = u70
  generalize u 71 = u71
  generalize u 72 = u72
  generalize u 73 = u73
  generalize u 74 = u74
  generalize u 75 = u75
  generalize u 76 = u76
  generalize u 77 = u77
  generalize u 78 = u78
  generalize u 79 = u79
  generalize u 80 = u80
  generalize u 81 = u81
  generalize u 82 = u82
  generalize u 83 = u83
  generalize u 84 = u84
  generalize u 85 = u85
  generalize u 86 = u86
  generalize u 87 = u87
  generalize u 88 = u88
  generalize u 89 = u89
  generalize u 90 = u90
  generalize u 91 = u91
  generalize u 92 = u92
  generalize u 93 = u93
  generalize u 94 = u94
  generalize u 95 = u95
  generalize u 96 = u96
  generalize u 97 = u97
  generalize u 98 = u98
  generalize u 99 = u99
  generalize u 100 = u100
  generalize u 101 = u101
  generalize u 102 = u102
  generalize u 103 = u103
  generalize u 104 = u104
  clear u
  have hi0 : (0 : Int) ≤ (i : Int) := by omega
  have hi1 : (i : Int) < (n : Int) := by omega
  generalize m.life = z at *
  go_wp2
  all_goals exact HQ.out _ ⟨rfl, rfl, rfl, rfl, rfl, rfl, rfl, rfl, rfl, rfl, rfl, rfl, rfl, rfl, (by show Value.int .i64 _ = Value.int .i64 _; congr 1; omega), rfl⟩
set_option maxHeartbeats 8000000 in
set_option maxRecDepth 100000 in
theorem vn_r25 {K : Act → World → Prop} {c : Code} (hc : regOf (Try.f19.body.getD .skip) 25 = some c) (a : Act) {v : Vvn} {wq : World} {q : Int} {r : Bool} (hF : Fvn a v) (h13v : v.v13 = .bool r) (h15v : v.v15 = .int .i64 q) (hQ : ∀ a', Fvn a' v → a'.tmps.getD 88 undef = .bool (r && decide (0 < q)) → K a' wq) :
    Code.wp Try.prog c (Exit.then K fun _ _ _ => False) a wq := by
  have HQ := hide hQ
  clear hQ
  obtain ⟨t', d'⟩ := a
  obtain ⟨v1, v2, v3, v6, v7, v8, v9, v10, v11, v12, v13, v14, v15, v16⟩ := v
  simp only at h13v h15v HQ
  subst h13v h15v
  obtain ⟨hs1, hd1, q1, q2, q3, q6, q7, q8, q9, q10, q11, q12, q13, q14, q15, q16⟩ := hF
  obtain ⟨u, hu⟩ := frame_vn t' hs1
  simp only at hd1 q1 q2 q3 q6 q7 q8 q9 q10 q11 q12 q13 q14 q15 q16
  subst hu hd1
  have e1 : u 1 = v1 := q1
  have e2 : u 2 = v2 := q2
  have e3 : u 3 = v3 := q3
  have e6 : u 6 = v6 := q6
  have e7 : u 7 = v7 := q7
  have e8 : u 8 = v8 := q8
  have e9 : u 9 = v9 := q9
  have e10 : u 10 = v10 := q10
  have e11 : u 11 = v11 := q11
  have e12 : u 12 = v12 := q12
  have e13 : u 13 = .bool r := q13
  have e14 : u 14 = v14 := q14
  have e15 : u 15 = .int .i64 q := q15
  have e16 : u 16 = v16 := q16
  rw [e1, e2, e3, e6, e7, e8, e9, e10, e11, e12, e13, e14, e15, e16]
  clear q1 e1 q2 e2 q3 e3 q6 e6 q7 e7 q8 e8 q9 e9 q10 e10 q11 e11 q12 e12 q13 e13 q14 e14 q15 e15 q16 e16 hs1
  simp only [Try.f19, Option.getD_some, regOf] at hc
  injection hc with hc
  subst hc
  generalize u 0 = u0
  generalize u 4 = u4
  generalize u 5 = u5
  generalize u 17 = u17
  generalize u 18 = u18
  generalize u 19 = u19
  generalize u 20 = u20
  generalize u 21 = u21
  generalize u 22 = u22
  generalize u 23 = u23
  generalize u 24 = u24
  generalize u 25 = u25
  generalize u 26 = u26
  generalize u 27 = u27
  generalize u 28 = u28
  generalize u 29 = u29
  generalize u 30 = u30
  generalize u 31 = u31
  generalize u 32 = u32
  generalize u 33 = u33
  generalize u 34 = u34
  generalize u 35 = u35
  generalize u 36 = u36
  generalize u 37 = u37
  generalize u 38 = u38
  generalize u 39 = u39
  generalize u 40 = u40
  generalize u 41 = u41
  generalize u 42 = u42
  generalize u 43 = u43
  generalize u 44 = u44
  generalize u 45 = u45
  generalize u 46 = u46
  generalize u 47 = u47
  generalize u 48 = u48
  generalize u 49 = u49
  generalize u 50 = u50
  generalize u 51 = u51
  generalize u 52 = u52
  generalize u 53 = u53
  generalize u 54 = u54
  generalize u 55 = u55
  generalize u 56 = u56
  generalize u 57 = u57
  generalize u 58 = u58
  generalize u 59 = u59
  generalize u 60 = u60
  generalize u 61 = u61
  generalize u 62 = u62
  generalize u 63 = u63
  generalize u 64 = u64
  generalize u 65 = u65
  generalize u 66 = u66
  generalize u 67 = u67
  generalize u 68 = u68
  generalize u 69 = u69
  generalize u 70 = u70
  generalize u 71 = u71
  generalize u 72 = u72
  generalize u 73 = u73
  generalize u 74 = u74
  generalize u 75 = u75
  generalize u 76 = u76
  generalize u 77 = u77
  generalize u 78 = u78
  generalize u 79 = u79
  generalize u 80 = u80
  generalize u 81 = u81
  generalize u 82 = u82
  generalize u 83 = u83
  generalize u 84 = u84
  generalize u 85 = u85
  generalize u 86 = u86
  generalize u 87 = u87
  generalize u 88 = u88
  generalize u 89 = u89
  generalize u 90 = u90
  generalize u 91 = u91
  generalize u 92 = u92
  generalize u 93 = u93
  generalize u 94 = u94
  generalize u 95 = u95
  generalize u 96 = u96
  generalize u 97 = u97
  generalize u 98 = u98
  generalize u 99 = u99
  generalize u 100 = u100
  generalize u 101 = u101
  generalize u 102 = u102
  generalize u 103 = u103
  generalize u 104 = u104
  clear u
  cases r
  · go_wp2
    exact HQ.out _ ⟨rfl, rfl, rfl, rfl, rfl, rfl, rfl, rfl, rfl, rfl, rfl, rfl, rfl, rfl, rfl, rfl⟩ rfl
  · by_cases h : 0 < q
    · rw [decide_eq_true h] at HQ
      have g : q > 0 := h
      go_wp2
      exact HQ.out _ ⟨rfl, rfl, rfl, rfl, rfl, rfl, rfl, rfl, rfl, rfl, rfl, rfl, rfl, rfl, rfl, rfl⟩ rfl
    · rw [decide_eq_false h] at HQ
      have g : ¬ q > 0 := h
      go_wp2
      exact HQ.out _ ⟨rfl, rfl, rfl, rfl, rfl, rfl, rfl, rfl, rfl, rfl, rfl, rfl, rfl, rfl, rfl, rfl⟩ rfl
set_option maxHeartbeats 8000000 in
set_option maxRecDepth 100000 in
theorem vn_r26 {K : Act → World → Prop} {c : Code} (hc : regOf (Try.f19.body.getD .skip) 26 = some c) (a : Act) {v : Vvn} {wq : World} {ob k B n oc : Nat} {q num : Int} {oo : Option Addr} {D : List MB} (hF : Fvn a v) (h11v : v.v11 = .pointer (some ⟨ob, 0, none⟩)) (h12v : v.v12 = .int .i64 (k : Int)) (h15v : v.v15 = .int .i64 q) (hO : wq.heap[ob]? = some (.cells #[.int .i64 num, .slice oo n oc] tView (0, 0))) (hR : wq.ownsRow B tMember 2 (.slice oo n oc) n (mbCells D)) (hn : D.length = n) (hl : n ≤ 1000) (hB : B ≤ wq.heap.size) (hne : ∀ j, (Value.slice oo n oc).ownBlock = some j → j ≠ ob)
    (hQ : ∀ a' w' oo' oc', Fvn a' v → Touch (fun j => j = ob ∨ (Value.slice oo n oc).ownBlock = some j) wq w' → w'.heap[ob]? = some (.cells #[.int .i64 num, .slice oo' (n + 1) oc'] tView (0, 0)) → w'.ownsRow B tMember 2 (.slice oo' (n + 1) oc') (n + 1) (mbCells (D ++ [⟨k, q⟩])) → (∀ j, (Value.slice oo' (n + 1) oc').ownBlock = some j → (Value.slice oo n oc).ownBlock = some j ∨ wq.heap.size ≤ j) → K a' w') :
    Code.wp Try.prog c (Exit.then K fun _ _ _ => False) a wq := by
  have HQ := hide hQ
  clear hQ
  obtain ⟨t', d'⟩ := a
  obtain ⟨v1, v2, v3, v6, v7, v8, v9, v10, v11, v12, v13, v14, v15, v16⟩ := v
  simp only at h11v h12v h15v HQ
  subst h11v h12v h15v
  obtain ⟨hs1, hd1, q1, q2, q3, q6, q7, q8, q9, q10, q11, q12, q13, q14, q15, q16⟩ := hF
  obtain ⟨u, hu⟩ := frame_vn t' hs1
  simp only at hd1 q1 q2 q3 q6 q7 q8 q9 q10 q11 q12 q13 q14 q15 q16
  subst hu hd1
  have e1 : u 1 = v1 := q1
  have e2 : u 2 = v2 := q2
  have e3 : u 3 = v3 := q3
  have e6 : u 6 = v6 := q6
  have e7 : u 7 = v7 := q7
  have e8 : u 8 = v8 := q8
  have e9 : u 9 = v9 := q9
  have e10 : u 10 = v10 := q10
  have e11 : u 11 = .pointer (some ⟨ob, 0, none⟩) := q11
  have e12 : u 12 = .int .i64 (k : Int) := q12
  have e13 : u 13 = v13 := q13
  have e14 : u 14 = v14 := q14
  have e15 : u 15 = .int .i64 q := q15
  have e16 : u 16 = v16 := q16
  rw [e1, e2, e3, e6, e7, e8, e9, e10, e11, e12, e13, e14, e15, e16]
  clear q1 e1 q2 e2 q3 e3 q6 e6 q7 e7 q8 e8 q9 e9 q10 e10 q11 e11 q12 e12 q13 e13 q14 e14 q15 e15 q16 e16 hs1
  simp only [Try.f19, Option.getD_some, regOf] at hc
  injection hc with hc
  subst hc
  generalize u 0 = u0
  generalize u 4 = u4
  generalize u 5 = u5
  generalize u 17 = u17
  generalize u 18 = u18
  generalize u 19 = u19
  generalize u 20 = u20
  generalize u 21 = u21
  generalize u 22 = u22
  generalize u 23 = u23
  generalize u 24 = u24
  generalize u 25 = u25
  generalize u 26 = u26
  generalize u 27 = u27
  generalize u 28 = u28
  generalize u 29 = u29
  generalize u 30 = u30
  generalize u 31 = u31
  generalize u 32 = u32
  generalize u 33 = u33
  generalize u 34 = u34
  generalize u 35 = u35
  generalize u 36 = u36
  generalize u 37 = u37
  generalize u 38 = u38
  generalize u 39 = u39
  generalize u 40 = u40
  generalize u 41 = u41
  generalize u 42 = u42
  generalize u 43 = u43
  generalize u 44 = u44
  generalize u 45 = u45
  generalize u 46 = u46
  generalize u 47 = u47
  generalize u 48 = u48
  generalize u 49 = u49
  generalize u 50 = u50
  generalize u 51 = u51
  generalize u 52 = u52
  generalize u 53 = u53
  generalize u 54 = u54
  generalize u 55 = u55
  generalize u 56 = u56
  generalize u 57 = u57
  generalize u 58 = u58
  generalize u 59 = u59
  generalize u 60 = u60
  generalize u 61 = u61
  generalize u 62 = u62
  generalize u 63 = u63
  generalize u 64 = u64
  generalize u 65 = u65
  generalize u 66 = u66
  generalize u 67 = u67
  generalize u 68 = u68
  generalize u 69 = u69
  generalize u 70 = u70
  generalize u 71 = u71
  generalize u 72 = u72
  generalize u 73 = u73
  generalize u 74 = u74
  generalize u 75 = u75
  generalize u 76 = u76
  generalize u 77 = u77
  generalize u 78 = u78
  generalize u 79 = u79
  generalize u 80 = u80
  generalize u 81 = u81
  generalize u 82 = u82
  generalize u 83 = u83
  generalize u 84 = u84
  generalize u 85 = u85
  generalize u 86 = u86
  generalize u 87 = u87
  generalize u 88 = u88
  generalize u 89 = u89
  generalize u 90 = u90
  generalize u 91 = u91
  generalize u 92 = u92
  generalize u 93 = u93
  generalize u 94 = u94
  generalize u 95 = u95
  generalize u 96 = u96
  generalize u 97 = u97
  generalize u 98 = u98
  generalize u 99 = u99
  generalize u 100 = u100
  generalize u 101 = u101
  generalize u 102 = u102
  generalize u 103 = u103
  generalize u 104 = u104
  clear u
  obtain ⟨i0, hi0, hz0, hz1, hz2⟩ := info_parts infoMB
  have c1 := box_cell hO 1 rfl
  have HO := hide hO
  have RO := hide hR
  have HNE := hide hne
  clear hO hR hne
  have X1 : ∀ (o : Obj) (W : World), (wq.alloc o).grownBy W (Value.slice oo n oc).ownBlock → W.heap[ob]? = some (.cells #[.int .i64 num, .slice oo n oc] tView (0, 0)) := fun o W hg => grown_at hg (box_alloc HO.out o) (fun e => HNE.out ob e rfl)
  have HX := hide X1
  clear X1
  go_wp2_with (first | (at_builtin; refine wpList_append_own_at _ rfl _ _ 22 rfl B tMember i0 _ 2 16 Try.underlying22 hi0 hz0 hz1 hz2 rfl (by omega) (.slice oo n oc) n (mbCells D) rfl (RO.out.alloc _) ⟨wq.heap.size, 0, none⟩ 1 1 [.int .i64 (k : Int), .int .i64 q] rfl rfl (World.news_of_block (cs := #[.int .i64 (k : Int), .int .i64 q]) (t := tMember) (fr := (0, 0)) (heap_alloc_new wq _)) (by simp [Value.oneCell']) (by unfold maxLen; omega) (by omega) (by simp; omega) ?_; intro v4 w4 hown4 hgrow4 hnil4 hloc4; obtain ⟨a4, c4, rfl⟩ := row_slice hown4; have F4 := hide (HX.out _ _ hgrow4); have f1 := box_free F4.out 1; have e1 := box_cell F4.out 1 rfl) | go_in)
  refine HQ.out _ _ a4 c4 ⟨rfl, rfl, rfl, rfl, rfl, rfl, rfl, rfl, rfl, rfl, rfl, rfl, rfl, rfl, rfl, rfl⟩ ?_ ?_ ?_ ?_
  · exact (((Touch.refl _ wq).alloc _).grown hgrow4 fun j e _ => .inr e).setCell _ _ fun _ => .inl rfl
  · have h1 := box_set F4.out 1 (.slice a4 (n + 1) c4)
    simpa using h1
  · rw [mbCells_append]
    refine set_row hown4 ob _ _ (fun e => ?_)
    rcases hloc4 with h | h
    · exact HNE.out ob (h ▸ e) rfl
    · rw [h] at e
      have h2 := Option.some.inj e
      have h3 := heap_lt HO.out
      simp at h2
      omega
  · intro j e
    rcases hloc4 with h | h
    · exact .inl (h ▸ e)
    · rw [h] at e
      have h2 := Option.some.inj e
      simp at h2
      exact .inr (by omega)
end Go.Proofs.Ytbkglpbkbfopjaa
