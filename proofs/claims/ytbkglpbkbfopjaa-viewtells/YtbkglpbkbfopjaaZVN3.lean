/-
  carillonref12's Next: its last regions (mkvn.py).
-/
import Derived.Test.YtbkglpbkbfopjaaZVN2
namespace Go.Proofs.Ytbkglpbkbfopjaa
open Go.RowKit

attribute [local go_sem ↓] Go.wp_at_zero Go.wp_at_succ
set_option linter.unusedSimpArgs false
set_option linter.unusedVariables false
set_option maxHeartbeats 8000000 in
set_option maxRecDepth 100000 in
theorem vn_r27 {K : Act → World → Prop} {c : Code} (hc : regOf (Try.f19.body.getD .skip) 27 = some c) (a : Act) {v : Vvn} {wq : World} {d ob cp oc : Nat} {x y : VW} {ao oo : Option Addr} (hF : Fvn a v) (h3v : v.v3 = .pointer (some ⟨d, 0, none⟩)) (h11v : v.v11 = .pointer (some ⟨ob, 0, none⟩)) (hD : wq.heap[d]? = some (.cells #[.int .i64 x.num, .slice ao x.mem.length cp] tView (0, 0))) (hO : wq.heap[ob]? = some (.cells #[.int .i64 y.num, .slice oo y.mem.length oc] tView (0, 0))) (hM : MemsAt wq ao x.mem) (hN : MemsAt wq oo y.mem) (hl : x.mem.length ≤ 4611686018427387904) (hl2 : y.mem.length ≤ 4611686018427387904)
    (hQ : ∀ a' w', Fvn a' v → a'.tmps.getD 102 undef = .bool (decide (comm x.mem y.mem < x.maj)) → Below wq.heap.size wq w' → K a' w') :
    Code.wp Try.prog c (Exit.then K fun _ _ _ => False) a wq := by
  have HQ := hide hQ
  clear hQ
  obtain ⟨t', d'⟩ := a
  obtain ⟨v1, v2, v3, v6, v7, v8, v9, v10, v11, v12, v13, v14, v15, v16⟩ := v
  simp only at h3v h11v HQ
  subst h3v h11v
  obtain ⟨hs1, hd1, q1, q2, q3, q6, q7, q8, q9, q10, q11, q12, q13, q14, q15, q16⟩ := hF
  obtain ⟨u, hu⟩ := frame_vn t' hs1
  simp only at hd1 q1 q2 q3 q6 q7 q8 q9 q10 q11 q12 q13 q14 q15 q16
  subst hu hd1
  have e1 : u 1 = v1 := q1
  have e2 : u 2 = v2 := q2
  have e3 : u 3 = .pointer (some ⟨d, 0, none⟩) := q3
  have e6 : u 6 = v6 := q6
  have e7 : u 7 = v7 := q7
  have e8 : u 8 = v8 := q8
  have e9 : u 9 = v9 := q9
  have e10 : u 10 = v10 := q10
  have e11 : u 11 = .pointer (some ⟨ob, 0, none⟩) := q11
  have e12 : u 12 = v12 := q12
  have e13 : u 13 = v13 := q13
  have e14 : u 14 = v14 := q14
  have e15 : u 15 = v15 := q15
  have e16 : u 16 = v16 := q16
  rw [e1, e2, e3, e6, e7, e8, e9, e10, e11, e12, e13, e14, e15, e16]
  clear q1 e1 q2 e2 q3 e3 q6 e6 q7 e7 q8 e8 q9 e9 q10 e10 q11 e11 q12 e12 q13 e13 q14 e14 q15 e15 q16 e16 hs1
  simp only [Try.f19, Option.getD_some, regOf] at hc
  injection hc with hc
  subst hc
  generalize u 0 = u0
  generalize u 4 = u4
  generalize u 5 = u5
  generalize u 17 = u17
  generalize u 18 = u18
  generalize u 19 = u19
  generalize u 20 = u20
  generalize u 21 = u21
  generalize u 22 = u22
  generalize u 23 = u23
  generalize u 24 = u24
  generalize u 25 = u25
  generalize u 26 = u26
  generalize u 27 = u27
  generalize u 28 = u28
  generalize u 29 = u29
  generalize u 30 = u30
  generalize u 31 = u31
  generalize u 32 = u32
  generalize u 33 = u33
  generalize u 34 = u34
  generalize u 35 = u35
  generalize u 36 = u36
  generalize u 37 = u37
  generalize u 38 = u38
  generalize u 39 = u39
  generalize u 40 = u40
  generalize u 41 = u41
  generalize u 42 = u42
  generalize u 43 = u43
  generalize u 44 = u44
  generalize u 45 = u45
  generalize u 46 = u46
  generalize u 47 = u47
  generalize u 48 = u48
  generalize u 49 = u49
  generalize u 50 = u50
  generalize u 51 = u51
  generalize u 52 = u52
  generalize u 53 = u53
  generalize u 54 = u54
  generalize u 55 = u55
  generalize u 56 = u56
  generalize u 57 = u57
  generalize u 58 = u58
  generalize u 59 = u59
  generalize u 60 = u60
  generalize u 61 = u61
  generalize u 62 = u62
  generalize u 63 = u63
  generalize u 64 = u64
  generalize u 65 = u65
  generalize u 66 = u66
  generalize u 67 = u67
  generalize u 68 = u68
  generalize u 69 = u69
  generalize u 70 = u70
  generalize u 71 = u71
  generalize u 72 = u72
  generalize u 73 = u73
  generalize u 74 = u74
  generalize u 75 = u75
  generalize u 76 = u76
  generalize u 77 = u77
  generalize u 78 = u78
  generalize u 79 = u79
  generalize u 80 = u80
  generalize u 81 = u81
  generalize u 82 = u82
  generalize u 83 = u83
  generalize u 84 = u84
  generalize u 85 = u85
  generalize u 86 = u86
  generalize u 87 = u87
  generalize u 88 = u88
  generalize u 89 = u89
  generalize u 90 = u90
  generalize u 91 = u91
  generalize u 92 = u92
  generalize u 93 = u93
  generalize u 94 = u94
  generalize u 95 = u95
  generalize u 96 = u96
  generalize u 97 = u97
  generalize u 98 = u98
  generalize u 99 = u99
  generalize u 100 = u100
  generalize u 101 = u101
  generalize u 102 = u102
  generalize u 103 = u103
  generalize u 104 = u104
  clear u
  have CS : Hid (∀ W : World, Below wq.heap.size wq W → (W.cell? ⟨d, 0, none⟩ = some (.int .i64 x.num) ∧ W.cell? ⟨d, 1, none⟩ = some (.slice ao x.mem.length cp) ∧ W.cell? ⟨ob, 0, none⟩ = some (.int .i64 y.num) ∧ W.cell? ⟨ob, 1, none⟩ = some (.slice oo y.mem.length oc))) := fun W h => by
    have h1 := (h.block _ (heap_lt hD)).trans hD
    have h2 := (h.block _ (heap_lt hO)).trans hO
    exact ⟨box_cell h1 0 rfl, box_cell h1 1 rfl, box_cell h2 0 rfl, box_cell h2 1 rfl⟩
  have HC := hide (fun (W : World) (h : Below wq.heap.size wq W) => rcommon x y ao oo cp oc W (hM.below h) (hN.below h) hl hl2)
  have HJ := hide (fun (W : World) => rmajority x ao cp W hl)
  have KK1 := hide (enters_of Try.func18 (by kernel_rfl) rfl)
  have KK2 := hide (enters_of Try.func14 (by kernel_rfl) rfl)
  have BD : Hid (Below wq.heap.size wq wq.drew) := (Below.refl _ _).drew
  have hcm : comm x.mem y.mem < x.maj ↔ ((comm x.mem y.mem : Nat) : Int) < ((x.maj : Nat) : Int) := by omega
  simp only [VW.v] at HC HJ
  clear hD hO hM hN hl hl2
  by_cases hlt : comm x.mem y.mem < x.maj
  · rw [decide_eq_true hlt] at HQ
    have g := hcm.1 hlt
    clear hcm hlt
    generalize comm x.mem y.mem = cc at *
    generalize x.maj = mj at *
    generalize x.num = num at *
    generalize x.mem.length = n at *
    generalize y.num = num2 at *
    generalize y.mem.length = k at *
    go_region_held_law (fun W => W.cell? ⟨d, 0, none⟩ = some (.int .i64 num) ∧ W.cell? ⟨d, 1, none⟩ = some (.slice ao n cp) ∧ W.cell? ⟨ob, 0, none⟩ = some (.int .i64 num2) ∧ W.cell? ⟨ob, 1, none⟩ = some (.slice oo k oc)) (first | exact CS.out _ B2.out | exact CS.out _ B1.out | exact CS.out _ BD.out) ((first
      | (refine step_fn_d (by rfl) 101 (by rfl) 14 _ _ (by rfl) KK2.out [.agg #[.int .i64 num, .slice ao n cp]] rfl (HJ.out w1) ?_; rintro e w2 ⟨rfl, b2⟩; refine ⟨_, rfl, ?_⟩; have B2 : Hid (Below wq.heap.size wq w2) := B1.out.trans (b2.mono B1.out.size); clear b2)
      | (refine step_fn_d (by rfl) 99 (by rfl) 18 _ _ (by rfl) KK1.out [.agg #[.int .i64 num, .slice ao n cp], .agg #[.int .i64 num2, .slice oo k oc]] rfl (HC.out w1 B1.out) ?_; rintro e w2 ⟨rfl, b2⟩; refine ⟨_, rfl, ?_⟩; have B2 : Hid (Below wq.heap.size wq w2) := B1.out.trans (b2.mono B1.out.size); clear b2)
      | (refine step_fn_d (by rfl) 99 (by rfl) 18 _ _ (by rfl) KK1.out [.agg #[.int .i64 num, .slice ao n cp], .agg #[.int .i64 num2, .slice oo k oc]] rfl (HC.out _ BD.out) ?_; rintro e w1 ⟨rfl, b1⟩; refine ⟨_, rfl, ?_⟩; have B1 : Hid (Below wq.heap.size wq w1) := BD.out.trans b1; clear b1)
      | (refine step_fn_d (by rfl) 101 (by rfl) 14 _ _ (by rfl) KK2.out [.agg #[.int .i64 num, .slice ao n cp]] rfl (HJ.out _) ?_; rintro e w1 ⟨rfl, b1⟩; refine ⟨_, rfl, ?_⟩; have B1 : Hid (Below wq.heap.size wq w1) := BD.out.trans b1; clear b1)))
    all_goals exact HQ.out _ _ ⟨rfl, rfl, rfl, rfl, rfl, rfl, rfl, rfl, rfl, rfl, rfl, rfl, rfl, rfl, rfl, rfl⟩ (by first | rfl | simp) B2.out
  · rw [decide_eq_false hlt] at HQ
    have g : ¬ ((comm x.mem y.mem : Nat) : Int) < ((x.maj : Nat) : Int) := fun e => hlt (hcm.2 e)
    clear hcm hlt
    generalize comm x.mem y.mem = cc at *
    generalize x.maj = mj at *
    generalize x.num = num at *
    generalize x.mem.length = n at *
    generalize y.num = num2 at *
    generalize y.mem.length = k at *
    go_region_held_law (fun W => W.cell? ⟨d, 0, none⟩ = some (.int .i64 num) ∧ W.cell? ⟨d, 1, none⟩ = some (.slice ao n cp) ∧ W.cell? ⟨ob, 0, none⟩ = some (.int .i64 num2) ∧ W.cell? ⟨ob, 1, none⟩ = some (.slice oo k oc)) (first | exact CS.out _ B2.out | exact CS.out _ B1.out | exact CS.out _ BD.out) ((first
      | (refine step_fn_d (by rfl) 101 (by rfl) 14 _ _ (by rfl) KK2.out [.agg #[.int .i64 num, .slice ao n cp]] rfl (HJ.out w1) ?_; rintro e w2 ⟨rfl, b2⟩; refine ⟨_, rfl, ?_⟩; have B2 : Hid (Below wq.heap.size wq w2) := B1.out.trans (b2.mono B1.out.size); clear b2)
      | (refine step_fn_d (by rfl) 99 (by rfl) 18 _ _ (by rfl) KK1.out [.agg #[.int .i64 num, .slice ao n cp], .agg #[.int .i64 num2, .slice oo k oc]] rfl (HC.out w1 B1.out) ?_; rintro e w2 ⟨rfl, b2⟩; refine ⟨_, rfl, ?_⟩; have B2 : Hid (Below wq.heap.size wq w2) := B1.out.trans (b2.mono B1.out.size); clear b2)
      | (refine step_fn_d (by rfl) 99 (by rfl) 18 _ _ (by rfl) KK1.out [.agg #[.int .i64 num, .slice ao n cp], .agg #[.int .i64 num2, .slice oo k oc]] rfl (HC.out _ BD.out) ?_; rintro e w1 ⟨rfl, b1⟩; refine ⟨_, rfl, ?_⟩; have B1 : Hid (Below wq.heap.size wq w1) := BD.out.trans b1; clear b1)
      | (refine step_fn_d (by rfl) 101 (by rfl) 14 _ _ (by rfl) KK2.out [.agg #[.int .i64 num, .slice ao n cp]] rfl (HJ.out _) ?_; rintro e w1 ⟨rfl, b1⟩; refine ⟨_, rfl, ?_⟩; have B1 : Hid (Below wq.heap.size wq w1) := BD.out.trans b1; clear b1)))
    all_goals exact HQ.out _ _ ⟨rfl, rfl, rfl, rfl, rfl, rfl, rfl, rfl, rfl, rfl, rfl, rfl, rfl, rfl, rfl, rfl⟩ (by first | rfl | simp) B2.out
set_option maxHeartbeats 8000000 in
set_option maxRecDepth 100000 in
theorem vn_r29 {K : Act → World → Prop} {c : Code} (hc : regOf (Try.f19.body.getD .skip) 29 = some c) (a : Act) {v : Vvn} {wq : World} {ob rb n oc : Nat} {num : Int} {oo : Option Addr} {z0 z1 : Value} (hF : Fvn a v) (h6v : v.v6 = .pointer (some ⟨rb, 0, none⟩)) (h11v : v.v11 = .pointer (some ⟨ob, 0, none⟩)) (hO : wq.heap[ob]? = some (.cells #[.int .i64 num, .slice oo n oc] tView (0, 0))) (hR : wq.heap[rb]? = some (.cells #[z0, z1] tView (0, 0)))
    (hQ : ∀ a' w', Fvn a' { v with v7 := .int .i64 0 } → Touch (fun j => j = rb) wq w' → w'.heap[rb]? = some (.cells #[.int .i64 num, .slice oo n oc] tView (0, 0)) → K a' w') :
    Code.wp Try.prog c (Exit.then K fun _ _ _ => False) a wq := by
  have HQ := hide hQ
  clear hQ
  obtain ⟨t', d'⟩ := a
  obtain ⟨v1, v2, v3, v6, v7, v8, v9, v10, v11, v12, v13, v14, v15, v16⟩ := v
  simp only at h6v h11v HQ
  subst h6v h11v
  obtain ⟨hs1, hd1, q1, q2, q3, q6, q7, q8, q9, q10, q11, q12, q13, q14, q15, q16⟩ := hF
  obtain ⟨u, hu⟩ := frame_vn t' hs1
  simp only at hd1 q1 q2 q3 q6 q7 q8 q9 q10 q11 q12 q13 q14 q15 q16
  subst hu hd1
  have e1 : u 1 = v1 := q1
  have e2 : u 2 = v2 := q2
  have e3 : u 3 = v3 := q3
  have e6 : u 6 = .pointer (some ⟨rb, 0, none⟩) := q6
  have e7 : u 7 = v7 := q7
  have e8 : u 8 = v8 := q8
  have e9 : u 9 = v9 := q9
  have e10 : u 10 = v10 := q10
  have e11 : u 11 = .pointer (some ⟨ob, 0, none⟩) := q11
  have e12 : u 12 = v12 := q12
  have e13 : u 13 = v13 := q13
  have e14 : u 14 = v14 := q14
  have e15 : u 15 = v15 := q15
  have e16 : u 16 = v16 := q16
  rw [e1, e2, e3, e6, e7, e8, e9, e10, e11, e12, e13, e14, e15, e16]
  clear q1 e1 q2 e2 q3 e3 q6 e6 q7 e7 q8 e8 q9 e9 q10 e10 q11 e11 q12 e12 q13 e13 q14 e14 q15 e15 q16 e16 hs1
  simp only [Try.f19, Option.getD_some, regOf] at hc
  injection hc with hc
  subst hc
  generalize u 0 = u0
  generalize u 4 = u4
  generalize u 5 = u5
  generalize u 17 = u17
  generalize u 18 = u18
  generalize u 19 = u19
  generalize u 20 = u20
  generalize u 21 = u21
  generalize u 22 = u22
  generalize u 23 = u23
  generalize u 24 = u24
  generalize u 25 = u25
  generalize u 26 = u26
  generalize u 27 = u27
  generalize u 28 = u28
  generalize u 29 = u29
  generalize u 30 = u30
  generalize u 31 = u31
  generalize u 32 = u32
  generalize u 33 = u33
  generalize u 34 = u34
  generalize u 35 = u35
  generalize u 36 = u36
  generalize u 37 = u37
  generalize u 38 = u38
  generalize u 39 = u39
  generalize u 40 = u40
  generalize u 41 = u41
  generalize u 42 = u42
  generalize u 43 = u43
  generalize u 44 = u44
  generalize u 45 = u45
  generalize u 46 = u46
  generalize u 47 = u47
  generalize u 48 = u48
  generalize u 49 = u49
  generalize u 50 = u50
  generalize u 51 = u51
  generalize u 52 = u52
  generalize u 53 = u53
  generalize u 54 = u54
  generalize u 55 = u55
  generalize u 56 = u56
  generalize u 57 = u57
  generalize u 58 = u58
  generalize u 59 = u59
  generalize u 60 = u60
  generalize u 61 = u61
  generalize u 62 = u62
  generalize u 63 = u63
  generalize u 64 = u64
  generalize u 65 = u65
  generalize u 66 = u66
  generalize u 67 = u67
  generalize u 68 = u68
  generalize u 69 = u69
  generalize u 70 = u70
  generalize u 71 = u71
  generalize u 72 = u72
  generalize u 73 = u73
  generalize u 74 = u74
  generalize u 75 = u75
  generalize u 76 = u76
  generalize u 77 = u77
  generalize u 78 = u78
  generalize u 79 = u79
  generalize u 80 = u80
  generalize u 81 = u81
  generalize u 82 = u82
  generalize u 83 = u83
  generalize u 84 = u84
  generalize u 85 = u85
  generalize u 86 = u86
  generalize u 87 = u87
  generalize u 88 = u88
  generalize u 89 = u89
  generalize u 90 = u90
  generalize u 91 = u91
  generalize u 92 = u92
  generalize u 93 = u93
  generalize u 94 = u94
  generalize u 95 = u95
  generalize u 96 = u96
  generalize u 97 = u97
  generalize u 98 = u98
  generalize u 99 = u99
  generalize u 100 = u100
  generalize u 101 = u101
  generalize u 102 = u102
  generalize u 103 = u103
  generalize u 104 = u104
  clear u
  have f0 := box_free hR 0
  have f1 := box_free hR 1
  have c0 := box_cell hR 0 rfl
  have c1 := box_cell hR 1 rfl
  have d0 := box_cell hO 0 rfl
  have d1 := box_cell hO 1 rfl
  have HR := hide hR
  clear hR hO
  go_wp2
  refine HQ.out _ _ ⟨rfl, rfl, rfl, rfl, rfl, rfl, rfl, rfl, rfl, rfl, rfl, rfl, rfl, rfl, rfl, rfl⟩ ?_ ?_
  · repeat refine Touch.setCell ?_ _ _ (fun _ => rfl)
    exact Touch.refl _ wq
  · have h1 := box_set (box_set HR.out 0 (.int .i64 num)) 1 (.slice oo n oc)
    simpa using h1
end Go.Proofs.Ytbkglpbkbfopjaa
