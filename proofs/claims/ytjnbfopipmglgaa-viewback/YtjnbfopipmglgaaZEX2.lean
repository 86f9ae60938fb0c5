/-
  The last regions of the laws' examples (mkex.py)
-/
import Derived.Test.YtjnbfopipmglgaaZEX1
import Derived.BigQuiet
namespace Go.Proofs.Ytjnbfopipmglgaa
open Go.RowKit

attribute [local go_sem ↓] Go.wp_at_zero Go.wp_at_succ
set_option linter.unusedSimpArgs false
set_option linter.unusedVariables false
set_option maxHeartbeats 8000000 in
set_option maxRecDepth 100000 in
theorem ex_r4 {K : Act → World → Prop} {c : Code} (hc : regOf (Try.f5.body.getD .skip) 4 = some c) (a : Act) {v : Vex} {wq : World} {ob gr rc : Nat} (hF : Fex a v) (h4v : v.v4 = .pointer (some ⟨ob, 0, none⟩)) (hO : wq.heap[ob]? = some (.cells #[.int .i64 2, .slice (some ⟨gr, 0, none⟩) 3 rc] tView (0, 0))) (hE : Calls Try.prog 13 #[.agg #[.int .i64 2, .slice (some ⟨gr, 0, none⟩) 3 rc]] wq fun e w' => e = .returned (.tuple #[.agg #[.int .i64 0, .int .i64 1], .int .i64 0]) ∧ Below wq.heap.size wq w')
    (hQ : ∀ a' w' xb, Fex a' { v with v6 := .pointer (some ⟨xb, 0, none⟩), v7 := .int .i64 0 } → w'.heap[xb]? = some (.cells #[.int .i64 0, .int .i64 1] tMember (0, 0)) → Below wq.heap.size wq w' → K a' w') :
    Code.wp Try.prog c (Exit.then K fun _ _ _ => False) a wq := by
  have HQ := hide hQ
  clear hQ
  obtain ⟨t', d'⟩ := a
  obtain ⟨v0, v1, v2, v3, v4, v5, v6, v7⟩ := v
  simp only at h4v HQ
  subst h4v
  obtain ⟨hs1, hd1, q0, q1, q2, q3, q4, q5, q6, q7⟩ := hF
  obtain ⟨u, hu⟩ := frame_ex t' hs1
  simp only at hd1 q0 q1 q2 q3 q4 q5 q6 q7
  subst hu hd1
  have e0 : u 0 = v0 := q0
  have e1 : u 1 = v1 := q1
  have e2 : u 2 = v2 := q2
  have e3 : u 3 = v3 := q3
  have e4 : u 4 = .pointer (some ⟨ob, 0, none⟩) := q4
  have e5 : u 5 = v5 := q5
  have e6 : u 6 = v6 := q6
  have e7 : u 7 = v7 := q7
  rw [e0, e1, e2, e3, e4, e5, e6, e7]
  clear q0 e0 q1 e1 q2 e2 q3 e3 q4 e4 q5 e5 q6 e6 q7 e7 hs1
  simp only [Try.f5, Option.getD_some, regOf] at hc
  injection hc with hc
  subst hc
  generalize u 8 = u8
  generalize u 9 = u9
  generalize u 10 = u10
  generalize u 11 = u11
  generalize u 12 = u12
  generalize u 13 = u13
  generalize u 14 = u14
  generalize u 15 = u15
  generalize u 16 = u16
  generalize u 17 = u17
  generalize u 18 = u18
  generalize u 19 = u19
  generalize u 20 = u20
  generalize u 21 = u21
  generalize u 22 = u22
  generalize u 23 = u23
  generalize u 24 = u24
  generalize u 25 = u25
  generalize u 26 = u26
  generalize u 27 = u27
  generalize u 28 = u28
  generalize u 29 = u29
  generalize u 30 = u30
  generalize u 31 = u31
  generalize u 32 = u32
  generalize u 33 = u33
  generalize u 34 = u34
  generalize u 35 = u35
  generalize u 36 = u36
  generalize u 37 = u37
  generalize u 38 = u38
  generalize u 39 = u39
  generalize u 40 = u40
  generalize u 41 = u41
  generalize u 42 = u42
  generalize u 43 = u43
  generalize u 44 = u44
  generalize u 45 = u45
  generalize u 46 = u46
  generalize u 47 = u47
  generalize u 48 = u48
  generalize u 49 = u49
  generalize u 50 = u50
  generalize u 51 = u51
  generalize u 52 = u52
  generalize u 53 = u53
  generalize u 54 = u54
  generalize u 55 = u55
  generalize u 56 = u56
  generalize u 57 = u57
  generalize u 58 = u58
  generalize u 59 = u59
  generalize u 60 = u60
  generalize u 61 = u61
  generalize u 62 = u62
  generalize u 63 = u63
  generalize u 64 = u64
  generalize u 65 = u65
  generalize u 66 = u66
  generalize u 67 = u67
  generalize u 68 = u68
  generalize u 69 = u69
  generalize u 70 = u70
  generalize u 71 = u71
  generalize u 72 = u72
  generalize u 73 = u73
  generalize u 74 = u74
  generalize u 75 = u75
  generalize u 76 = u76
  generalize u 77 = u77
  generalize u 78 = u78
  generalize u 79 = u79
  generalize u 80 = u80
  generalize u 81 = u81
  generalize u 82 = u82
  generalize u 83 = u83
  generalize u 84 = u84
  generalize u 85 = u85
  generalize u 86 = u86
  generalize u 87 = u87
  clear u
  have c0 := box_cell hO 0 rfl
  have c1 := box_cell hO 1 rfl
  have HE := hide hE
  clear hO hE
  go_wp2_with (go_at_call 13; refine HE.out.mono ?_; rintro e w1 ⟨rfl, b1⟩; have B1 := hide b1; clear b1)
  exact HQ.out _ _ w1.heap.size ⟨rfl, rfl, rfl, rfl, rfl, rfl, rfl, rfl, rfl, rfl⟩ (World.alloc_heap_new _ _) (B1.out.alloc B1.out.size _)
set_option maxHeartbeats 8000000 in
set_option maxRecDepth 100000 in
theorem ex_r5 {K : Act → World → Prop} {c : Code} (hc : regOf (Try.f5.body.getD .skip) 5 = some c) (a : Act) {v : Vex} {wq : World} {d g ob gr rc xb : Nat} (hF : Fex a v) (h1v : v.v1 = .pointer (some ⟨d, 0, none⟩)) (h3v : v.v3 = .int .i64 12) (h4v : v.v4 = .pointer (some ⟨ob, 0, none⟩)) (h5v : v.v5 = .int .i64 0) (h6v : v.v6 = .pointer (some ⟨xb, 0, none⟩)) (h7v : v.v7 = .int .i64 0) (hD : wq.heap[d]? = some (.cells #[.int .i64 1, .slice (some ⟨g, 0, none⟩) 3 3] tView (0, 0))) (hO : wq.heap[ob]? = some (.cells #[.int .i64 2, .slice (some ⟨gr, 0, none⟩) 3 rc] tView (0, 0))) (hX : wq.heap[xb]? = some (.cells #[.int .i64 0, .int .i64 1] tMember (0, 0))) (hgr : gr < wq.heap.size) (h4 : wq.cell? ⟨gr, 4, none⟩ = some (.int .i64 2)) (h5 : wq.cell? ⟨gr, 5, none⟩ = some (.int .i64 3)) (e0 : ∀ W, Below wq.heap.size wq W → Calls Try.prog 11 #[.int .i64 2, .int .i64 3] W fun e w' => e = .returned (.agg #[.int .i64 2, .int .i64 3]) ∧ Below W.heap.size W w') (e1 : ∀ W, Below wq.heap.size wq W → Calls Try.prog 11 #[.int .i64 0, .int .i64 1] W fun e w' => e = .returned (.agg #[.int .i64 0, .int .i64 1]) ∧ Below W.heap.size W w') (e2 : ∀ W, Below wq.heap.size wq W → Calls Try.prog 14 #[.agg #[.int .i64 1, .slice (some ⟨g, 0, none⟩) 3 3]] W fun e w' => e = .returned (.int .i64 2) ∧ Below W.heap.size W w') (e3 : ∀ W, Below wq.heap.size wq W → Calls Try.prog 15 #[.agg #[.int .i64 1, .slice (some ⟨g, 0, none⟩) 3 3], .agg #[.int .i64 2, .slice (some ⟨gr, 0, none⟩) 3 rc]] W fun e w' => e = .returned (.int .i64 2) ∧ Below W.heap.size W w') (e4 : ∀ W, Below wq.heap.size wq W → Calls Try.prog 11 #[.int .i64 2, .int .i64 3] W fun e w' => e = .returned (.agg #[.int .i64 2, .int .i64 3]) ∧ Below W.heap.size W w') (e5 : ∀ W, Below wq.heap.size wq W → Calls Try.prog 16 #[.agg #[.int .i64 2, .slice (some ⟨gr, 0, none⟩) 3 rc], .agg #[.int .i64 2, .int .i64 3]] W fun e w' => e = .returned (.bool true) ∧ Below W.heap.size W w')
    (hQ : ∀ a' w', Fex a' { v with v0 := .bool true } → Below wq.heap.size wq w' → K a' w') :
    Code.wp Try.prog c (Exit.then K fun _ _ _ => False) a wq := by
  have HQ := hide hQ
  clear hQ
  obtain ⟨t', d'⟩ := a
  obtain ⟨v0, v1, v2, v3, v4, v5, v6, v7⟩ := v
  simp only at h1v h3v h4v h5v h6v h7v HQ
  subst h1v h3v h4v h5v h6v h7v
  obtain ⟨hs1, hd1, q0, q1, q2, q3, q4, q5, q6, q7⟩ := hF
  obtain ⟨u, hu⟩ := frame_ex t' hs1
  simp only at hd1 q0 q1 q2 q3 q4 q5 q6 q7
  subst hu hd1
  have e0 : u 0 = v0 := q0
  have e1 : u 1 = .pointer (some ⟨d, 0, none⟩) := q1
  have e2 : u 2 = v2 := q2
  have e3 : u 3 = .int .i64 12 := q3
  have e4 : u 4 = .pointer (some ⟨ob, 0, none⟩) := q4
  have e5 : u 5 = .int .i64 0 := q5
  have e6 : u 6 = .pointer (some ⟨xb, 0, none⟩) := q6
  have e7 : u 7 = .int .i64 0 := q7
  rw [e0, e1, e2, e3, e4, e5, e6, e7]
  clear q0 e0 q1 e1 q2 e2 q3 e3 q4 e4 q5 e5 q6 e6 q7 e7 hs1
  simp only [Try.f5, Option.getD_some, regOf] at hc
  injection hc with hc
  subst hc
  generalize u 8 = u8
  generalize u 9 = u9
  generalize u 10 = u10
  generalize u 11 = u11
  generalize u 12 = u12
  generalize u 13 = u13
  generalize u 14 = u14
  generalize u 15 = u15
  generalize u 16 = u16
  generalize u 17 = u17
  generalize u 18 = u18
  generalize u 19 = u19
  generalize u 20 = u20
  generalize u 21 = u21
  generalize u 22 = u22
  generalize u 23 = u23
  generalize u 24 = u24
  generalize u 25 = u25
  generalize u 26 = u26
  generalize u 27 = u27
  generalize u 28 = u28
  generalize u 29 = u29
  generalize u 30 = u30
  generalize u 31 = u31
  generalize u 32 = u32
  generalize u 33 = u33
  generalize u 34 = u34
  generalize u 35 = u35
  generalize u 36 = u36
  generalize u 37 = u37
  generalize u 38 = u38
  generalize u 39 = u39
  generalize u 40 = u40
  generalize u 41 = u41
  generalize u 42 = u42
  generalize u 43 = u43
  generalize u 44 = u44
  generalize u 45 = u45
  generalize u 46 = u46
  generalize u 47 = u47
  generalize u 48 = u48
  generalize u 49 = u49
  generalize u 50 = u50
  generalize u 51 = u51
  generalize u 52 = u52
  generalize u 53 = u53
  generalize u 54 = u54
  generalize u 55 = u55
  generalize u 56 = u56
  generalize u 57 = u57
  generalize u 58 = u58
  generalize u 59 = u59
  generalize u 60 = u60
  generalize u 61 = u61
  generalize u 62 = u62
  generalize u 63 = u63
  generalize u 64 = u64
  generalize u 65 = u65
  generalize u 66 = u66
  generalize u 67 = u67
  generalize u 68 = u68
  generalize u 69 = u69
  generalize u 70 = u70
  generalize u 71 = u71
  generalize u 72 = u72
  generalize u 73 = u73
  generalize u 74 = u74
  generalize u 75 = u75
  generalize u 76 = u76
  generalize u 77 = u77
  generalize u 78 = u78
  generalize u 79 = u79
  generalize u 80 = u80
  generalize u 81 = u81
  generalize u 82 = u82
  generalize u 83 = u83
  generalize u 84 = u84
  generalize u 85 = u85
  generalize u 86 = u86
  generalize u 87 = u87
  clear u
  have CS : Hid (∀ W : World, Below wq.heap.size wq W → (W.cell? ⟨d, 0, none⟩ = some (.int .i64 1) ∧ W.cell? ⟨d, 1, none⟩ = some (.slice (some ⟨g, 0, none⟩) 3 3) ∧ W.cell? ⟨ob, 0, none⟩ = some (.int .i64 2) ∧ W.cell? ⟨ob, 1, none⟩ = some (.slice (some ⟨gr, 0, none⟩) 3 rc) ∧ W.cell? ⟨xb, 0, none⟩ = some (.int .i64 0) ∧ W.cell? ⟨xb, 1, none⟩ = some (.int .i64 1) ∧ W.cell? ⟨gr, 4, none⟩ = some (.int .i64 2) ∧ W.cell? ⟨gr, 5, none⟩ = some (.int .i64 3))) := fun W hb => by
    have h1 := (hb.block _ (heap_lt hD)).trans hD
    have h2 := (hb.block _ (heap_lt hO)).trans hO
    have h3 := (hb.block _ (heap_lt hX)).trans hX
    exact ⟨box_cell h1 0 rfl, box_cell h1 1 rfl, box_cell h2 0 rfl, box_cell h2 1 rfl, box_cell h3 0 rfl, box_cell h3 1 rfl, (hb.cell (p := ⟨gr, 4, none⟩) hgr).trans h4, (hb.cell (p := ⟨gr, 5, none⟩) hgr).trans h5⟩
  have E0 := hide e0
  have KK0 := hide (enters_of Try.func11 (by kernel_rfl) rfl)
  have E1 := hide e1
  have KK1 := hide (enters_of Try.func11 (by kernel_rfl) rfl)
  have E2 := hide e2
  have KK2 := hide (enters_of Try.func14 (by kernel_rfl) rfl)
  have E3 := hide e3
  have KK3 := hide (enters_of Try.func15 (by kernel_rfl) rfl)
  have E4 := hide e4
  have KK4 := hide (enters_of Try.func11 (by kernel_rfl) rfl)
  have E5 := hide e5
  have KK5 := hide (enters_of Try.func16 (by kernel_rfl) rfl)
  have BD : Hid (Below wq.heap.size wq wq.drew) := (Below.refl _ _).drew
  clear hD hO hX hgr h4 h5 e0 e1 e2 e3 e4 e5
  go_region_held_law (fun W => W.cell? ⟨d, 0, none⟩ = some (.int .i64 1) ∧ W.cell? ⟨d, 1, none⟩ = some (.slice (some ⟨g, 0, none⟩) 3 3) ∧ W.cell? ⟨ob, 0, none⟩ = some (.int .i64 2) ∧ W.cell? ⟨ob, 1, none⟩ = some (.slice (some ⟨gr, 0, none⟩) 3 rc) ∧ W.cell? ⟨xb, 0, none⟩ = some (.int .i64 0) ∧ W.cell? ⟨xb, 1, none⟩ = some (.int .i64 1) ∧ W.cell? ⟨gr, 4, none⟩ = some (.int .i64 2) ∧ W.cell? ⟨gr, 5, none⟩ = some (.int .i64 3)) (exact CS.out _ BD.out) ((first
    | (refine step_fn_d (by rfl) 60 (by rfl) 11 _ _ (by rfl) KK0.out [.int .i64 2, .int .i64 3] rfl (E0.out _ BD.out) ?_; rintro e w2 ⟨rfl, b2⟩; refine ⟨_, rfl, ?_⟩; have BD : Hid (Below wq.heap.size wq w2) := BD.out.trans (b2.mono BD.out.size); clear b2)
    | (refine step_fn_d (by rfl) 65 (by rfl) 11 _ _ (by rfl) KK1.out [.int .i64 0, .int .i64 1] rfl (E1.out _ BD.out) ?_; rintro e w2 ⟨rfl, b2⟩; refine ⟨_, rfl, ?_⟩; have BD : Hid (Below wq.heap.size wq w2) := BD.out.trans (b2.mono BD.out.size); clear b2)
    | (refine step_fn_d (by rfl) 74 (by rfl) 14 _ _ (by rfl) KK2.out [.agg #[.int .i64 1, .slice (some ⟨g, 0, none⟩) 3 3]] rfl (E2.out _ BD.out) ?_; rintro e w2 ⟨rfl, b2⟩; refine ⟨_, rfl, ?_⟩; have BD : Hid (Below wq.heap.size wq w2) := BD.out.trans (b2.mono BD.out.size); clear b2)
    | (refine step_fn_d (by rfl) 80 (by rfl) 15 _ _ (by rfl) KK3.out [.agg #[.int .i64 1, .slice (some ⟨g, 0, none⟩) 3 3], .agg #[.int .i64 2, .slice (some ⟨gr, 0, none⟩) 3 rc]] rfl (E3.out _ BD.out) ?_; rintro e w2 ⟨rfl, b2⟩; refine ⟨_, rfl, ?_⟩; have BD : Hid (Below wq.heap.size wq w2) := BD.out.trans (b2.mono BD.out.size); clear b2)
    | (refine step_fn_d (by rfl) 85 (by rfl) 11 _ _ (by rfl) KK4.out [.int .i64 2, .int .i64 3] rfl (E4.out _ BD.out) ?_; rintro e w2 ⟨rfl, b2⟩; refine ⟨_, rfl, ?_⟩; have BD : Hid (Below wq.heap.size wq w2) := BD.out.trans (b2.mono BD.out.size); clear b2)
    | (refine step_fn_d (by rfl) 86 (by rfl) 16 _ _ (by rfl) KK5.out [.agg #[.int .i64 2, .slice (some ⟨gr, 0, none⟩) 3 rc], .agg #[.int .i64 2, .int .i64 3]] rfl (E5.out _ BD.out) ?_; rintro e w2 ⟨rfl, b2⟩; refine ⟨_, rfl, ?_⟩; have BD : Hid (Below wq.heap.size wq w2) := BD.out.trans (b2.mono BD.out.size); clear b2)))
  all_goals exact HQ.out _ _ ⟨rfl, rfl, (by simp), rfl, rfl, rfl, rfl, rfl, rfl, rfl⟩ BD.out
end Go.Proofs.Ytjnbfopipmglgaa
