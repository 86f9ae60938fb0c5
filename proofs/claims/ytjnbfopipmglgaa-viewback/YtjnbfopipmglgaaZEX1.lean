/-
  The regions of the laws' examples (mkex.py)
-/
import Derived.Test.YtjnbfopipmglgaaZPF
namespace Go.Proofs.Ytjnbfopipmglgaa
open Go.RowKit

attribute [local go_sem ↓] Go.wp_at_zero Go.wp_at_succ
set_option linter.unusedSimpArgs false
set_option linter.unusedVariables false
theorem arr2 (c : Array Value) (h : c.size = 2) : ∃ z0 z1, c = #[z0, z1] := by
  refine ⟨c[0], c[1], ?_⟩
  apply Array.ext
  · simp [h]
  · intro i h1 h2
    simp at h2
    match i, h2 with
    | 0, _ => rfl
    | 1, _ => rfl
set_option maxHeartbeats 4000000 in
theorem pm (n l : Int) (w : World) : Calls Try.prog 11 #[.int .i64 n, .int .i64 l] w fun e w' => e = .returned (.agg #[.int .i64 n, .int .i64 l]) ∧ Below w.heap.size w w' := by
  go_enter Try.func11, Try.ntmps11
  go_wp2
  have G := heap_alloc_new w (.cells #[.int .i64 n, .int .i64 l] tMember)
  have g0 := box_cell G 0 rfl
  have g1 := box_cell G 1 rfl
  refine bodyPost_ret (v := .agg #[.int .i64 n, .int .i64 l]) ?_ rfl ⟨rfl, (Below.refl _ w).alloc (Nat.le_refl _) _⟩
  simp [results, Try.results11, go_sem, g0, g1]
set_option maxRecDepth 100000 in
theorem frame_ex (t : Array Value) (h : t.size = 88) : ∃ u : Nat → Value, t = List.toArray (u 0 :: u 1 :: u 2 :: u 3 :: u 4 :: u 5 :: u 6 :: u 7 :: u 8 :: u 9 :: u 10 :: u 11 :: u 12 :: u 13 :: u 14 :: u 15 :: u 16 :: u 17 :: u 18 :: u 19 :: u 20 :: u 21 :: u 22 :: u 23 :: u 24 :: u 25 :: u 26 :: u 27 :: u 28 :: u 29 :: u 30 :: u 31 :: u 32 :: u 33 :: u 34 :: u 35 :: u 36 :: u 37 :: u 38 :: u 39 :: u 40 :: u 41 :: u 42 :: u 43 :: u 44 :: u 45 :: u 46 :: u 47 :: u 48 :: u 49 :: u 50 :: u 51 :: u 52 :: u 53 :: u 54 :: u 55 :: u 56 :: u 57 :: u 58 :: u 59 :: u 60 :: u 61 :: u 62 :: u 63 :: u 64 :: u 65 :: u 66 :: u 67 :: u 68 :: u 69 :: u 70 :: u 71 :: u 72 :: u 73 :: u 74 :: u 75 :: u 76 :: u 77 :: u 78 :: u 79 :: u 80 :: u 81 :: u 82 :: u 83 :: u 84 :: u 85 :: u 86 :: u 87 :: []) := by
  refine ⟨fun i => t.getD i undef, ?_⟩
  have e : (List.toArray ((fun i => t.getD i undef) 0 :: (fun i => t.getD i undef) 1 :: (fun i => t.getD i undef) 2 :: (fun i => t.getD i undef) 3 :: (fun i => t.getD i undef) 4 :: (fun i => t.getD i undef) 5 :: (fun i => t.getD i undef) 6 :: (fun i => t.getD i undef) 7 :: (fun i => t.getD i undef) 8 :: (fun i => t.getD i undef) 9 :: (fun i => t.getD i undef) 10 :: (fun i => t.getD i undef) 11 :: (fun i => t.getD i undef) 12 :: (fun i => t.getD i undef) 13 :: (fun i => t.getD i undef) 14 :: (fun i => t.getD i undef) 15 :: (fun i => t.getD i undef) 16 :: (fun i => t.getD i undef) 17 :: (fun i => t.getD i undef) 18 :: (fun i => t.getD i undef) 19 :: (fun i => t.getD i undef) 20 :: (fun i => t.getD i undef) 21 :: (fun i => t.getD i undef) 22 :: (fun i => t.getD i undef) 23 :: (fun i => t.getD i undef) 24 :: (fun i => t.getD i undef) 25 :: (fun i => t.getD i undef) 26 :: (fun i => t.getD i undef) 27 :: (fun i => t.getD i undef) 28 :: (fun i => t.getD i undef) 29 :: (fun i => t.getD i undef) 30 :: (fun i => t.getD i undef) 31 :: (fun i => t.getD i undef) 32 :: (fun i => t.getD i undef) 33 :: (fun i => t.getD i undef) 34 :: (fun i => t.getD i undef) 35 :: (fun i => t.getD i undef) 36 :: (fun i => t.getD i undef) 37 :: (fun i => t.getD i undef) 38 :: (fun i => t.getD i undef) 39 :: (fun i => t.getD i undef) 40 :: (fun i => t.getD i undef) 41 :: (fun i => t.getD i undef) 42 :: (fun i => t.getD i undef) 43 :: (fun i => t.getD i undef) 44 :: (fun i => t.getD i undef) 45 :: (fun i => t.getD i undef) 46 :: (fun i => t.getD i undef) 47 :: (fun i => t.getD i undef) 48 :: (fun i => t.getD i undef) 49 :: (fun i => t.getD i undef) 50 :: (fun i => t.getD i undef) 51 :: (fun i => t.getD i undef) 52 :: (fun i => t.getD i undef) 53 :: (fun i => t.getD i undef) 54 :: (fun i => t.getD i undef) 55 :: (fun i => t.getD i undef) 56 :: (fun i => t.getD i undef) 57 :: (fun i => t.getD i undef) 58 :: (fun i => t.getD i undef) 59 :: (fun i => t.getD i undef) 60 :: (fun i => t.getD i undef) 61 :: (fun i => t.getD i undef) 62 :: (fun i => t.getD i undef) 63 :: (fun i => t.getD i undef) 64 :: (fun i => t.getD i undef) 65 :: (fun i => t.getD i undef) 66 :: (fun i => t.getD i undef) 67 :: (fun i => t.getD i undef) 68 :: (fun i => t.getD i undef) 69 :: (fun i => t.getD i undef) 70 :: (fun i => t.getD i undef) 71 :: (fun i => t.getD i undef) 72 :: (fun i => t.getD i undef) 73 :: (fun i => t.getD i undef) 74 :: (fun i => t.getD i undef) 75 :: (fun i => t.getD i undef) 76 :: (fun i => t.getD i undef) 77 :: (fun i => t.getD i undef) 78 :: (fun i => t.getD i undef) 79 :: (fun i => t.getD i undef) 80 :: (fun i => t.getD i undef) 81 :: (fun i => t.getD i undef) 82 :: (fun i => t.getD i undef) 83 :: (fun i => t.getD i undef) 84 :: (fun i => t.getD i undef) 85 :: (fun i => t.getD i undef) 86 :: (fun i => t.getD i undef) 87 :: []) : Array Value) = ((List.range 88).map fun i => t.getD i undef).toArray := rfl
  refine Eq.trans ?_ e.symm
  apply Array.ext
  · simp [h]
  · intro k h1 h2
    simp [Array.getD, h1]
/-- The slots that matter. -/
structure Vex where
  v0 : Value
  v1 : Value
  v2 : Value
  v3 : Value
  v4 : Value
  v5 : Value
  v6 : Value
  v7 : Value
structure Fex (a : Act) (v : Vex) : Prop where
  size : a.tmps.size = 88
  defers : a.defers = []
  s0 : a.tmps.getD 0 undef = v.v0
  s1 : a.tmps.getD 1 undef = v.v1
  s2 : a.tmps.getD 2 undef = v.v2
  s3 : a.tmps.getD 3 undef = v.v3
  s4 : a.tmps.getD 4 undef = v.v4
  s5 : a.tmps.getD 5 undef = v.v5
  s6 : a.tmps.getD 6 undef = v.v6
  s7 : a.tmps.getD 7 undef = v.v7
set_option maxHeartbeats 8000000 in
set_option maxRecDepth 100000 in
theorem ex_r0 {K : Act → World → Prop} {c : Code} (hc : regOf (Try.f5.body.getD .skip) 0 = some c) (a : Act) {v : Vex} {wq : World}  (hF : Fex a v) (hQ : ∀ a', Fex a' { v with v0 := .bool false } → K a' wq) :
    Code.wp Try.prog c (Exit.then K fun _ _ _ => False) a wq := by
  have HQ := hide hQ
  clear hQ
  obtain ⟨t', d'⟩ := a
  obtain ⟨v0, v1, v2, v3, v4, v5, v6, v7⟩ := v
  obtain ⟨hs1, hd1, q0, q1, q2, q3, q4, q5, q6, q7⟩ := hF
  obtain ⟨u, hu⟩ := frame_ex t' hs1
  simp only at hd1 q0 q1 q2 q3 q4 q5 q6 q7
  subst hu hd1
  have e0 : u 0 = v0 := q0
  have e1 : u 1 = v1 := q1
  have e2 : u 2 = v2 := q2
  have e3 : u 3 = v3 := q3
  have e4 : u 4 = v4 := q4
  have e5 : u 5 = v5 := q5
  have e6 : u 6 = v6 := q6
  have e7 : u 7 = v7 := q7
  rw [e0, e1, e2, e3, e4, e5, e6, e7]
  clear q0 e0 q1 e1 q2 e2 q3 e3 q4 e4 q5 e5 q6 e6 q7 e7 hs1
  simp only [Try.f5, Option.getD_some, regOf] at hc
  injection hc with hc
  subst hc
  generalize u 8 = u8
  generalize u 9 = u9
  generalize u 10 = u10
  generalize u 11 = u11
  generalize u 12 = u12
  generalize u 13 = u13
  generalize u 14 = u14
  generalize u 15 = u15
  generalize u 16 = u16
  generalize u 17 = u17
  generalize u 18 = u18
  generalize u 19 = u19
  generalize u 20 = u20
  generalize u 21 = u21
  generalize u 22 = u22
  generalize u 23 = u23
  generalize u 24 = u24
  generalize u 25 = u25
  generalize u 26 = u26
  generalize u 27 = u27
  generalize u 28 = u28
  generalize u 29 = u29
  generalize u 30 = u30
  generalize u 31 = u31
  generalize u 32 = u32
  generalize u 33 = u33
  generalize u 34 = u34
  generalize u 35 = u35
  generalize u 36 = u36
  generalize u 37 = u37
  generalize u 38 = u38
  generalize u 39 = u39
  generalize u 40 = u40
  generalize u 41 = u41
  generalize u 42 = u42
  generalize u 43 = u43
  generalize u 44 = u44
  generalize u 45 = u45
  generalize u 46 = u46
  generalize u 47 = u47
  generalize u 48 = u48
  generalize u 49 = u49
  generalize u 50 = u50
  generalize u 51 = u51
  generalize u 52 = u52
  generalize u 53 = u53
  generalize u 54 = u54
  generalize u 55 = u55
  generalize u 56 = u56
  generalize u 57 = u57
  generalize u 58 = u58
  generalize u 59 = u59
  generalize u 60 = u60
  generalize u 61 = u61
  generalize u 62 = u62
  generalize u 63 = u63
  generalize u 64 = u64
  generalize u 65 = u65
  generalize u 66 = u66
  generalize u 67 = u67
  generalize u 68 = u68
  generalize u 69 = u69
  generalize u 70 = u70
  generalize u 71 = u71
  generalize u 72 = u72
  generalize u 73 = u73
  generalize u 74 = u74
  generalize u 75 = u75
  generalize u 76 = u76
  generalize u 77 = u77
  generalize u 78 = u78
  generalize u 79 = u79
  generalize u 80 = u80
  generalize u 81 = u81
  generalize u 82 = u82
  generalize u 83 = u83
  generalize u 84 = u84
  generalize u 85 = u85
  generalize u 86 = u86
  generalize u 87 = u87
  clear u
  go_wp2
  exact HQ.out _ ⟨rfl, rfl, rfl, rfl, rfl, rfl, rfl, rfl, rfl, rfl⟩
set_option maxHeartbeats 8000000 in
set_option maxRecDepth 100000 in
theorem ex_r1 {K : Act → World → Prop} {c : Code} (hc : regOf (Try.f5.body.getD .skip) 1 = some c) (a : Act) {v : Vex} {wq : World}  (hF : Fex a v) (hm : ∀ (n l : Int) (W : World), Calls Try.prog 11 #[.int .i64 n, .int .i64 l] W fun e w' => e = .returned (.agg #[.int .i64 n, .int .i64 l]) ∧ Below W.heap.size W w')
    (hQ : ∀ a' w' d g, Fex a' { v with v1 := .pointer (some ⟨d, 0, none⟩) } → w'.heap[d]? = some (.cells #[.int .i64 1, .slice (some ⟨g, 0, none⟩) 3 3] tView (0, 0)) → w'.heap[g]? = some (.cells #[.int .i64 0, .int .i64 1, .int .i64 1, .int .i64 1, .int .i64 2, .int .i64 1] tMember (0, 0)) → Below wq.heap.size wq w' → K a' w') :
    Code.wp Try.prog c (Exit.then K fun _ _ _ => False) a wq := by
  have HQ := hide hQ
  clear hQ
  obtain ⟨t', d'⟩ := a
  obtain ⟨v0, v1, v2, v3, v4, v5, v6, v7⟩ := v
  obtain ⟨hs1, hd1, q0, q1, q2, q3, q4, q5, q6, q7⟩ := hF
  obtain ⟨u, hu⟩ := frame_ex t' hs1
  simp only at hd1 q0 q1 q2 q3 q4 q5 q6 q7
  subst hu hd1
  have e0 : u 0 = v0 := q0
  have e1 : u 1 = v1 := q1
  have e2 : u 2 = v2 := q2
  have e3 : u 3 = v3 := q3
  have e4 : u 4 = v4 := q4
  have e5 : u 5 = v5 := q5
  have e6 : u 6 = v6 := q6
  have e7 : u 7 = v7 := q7
  rw [e0, e1, e2, e3, e4, e5, e6, e7]
  clear q0 e0 q1 e1 q2 e2 q3 e3 q4 e4 q5 e5 q6 e6 q7 e7 hs1
  simp only [Try.f5, Option.getD_some, regOf] at hc
  injection hc with hc
  subst hc
  generalize u 8 = u8
  generalize u 9 = u9
  generalize u 10 = u10
  generalize u 11 = u11
  generalize u 12 = u12
  generalize u 13 = u13
  generalize u 14 = u14
  generalize u 15 = u15
  generalize u 16 = u16
  generalize u 17 = u17
  generalize u 18 = u18
  generalize u 19 = u19
  generalize u 20 = u20
  generalize u 21 = u21
  generalize u 22 = u22
  generalize u 23 = u23
  generalize u 24 = u24
  generalize u 25 = u25
  generalize u 26 = u26
  generalize u 27 = u27
  generalize u 28 = u28
  generalize u 29 = u29
  generalize u 30 = u30
  generalize u 31 = u31
  generalize u 32 = u32
  generalize u 33 = u33
  generalize u 34 = u34
  generalize u 35 = u35
  generalize u 36 = u36
  generalize u 37 = u37
  generalize u 38 = u38
  generalize u 39 = u39
  generalize u 40 = u40
  generalize u 41 = u41
  generalize u 42 = u42
  generalize u 43 = u43
  generalize u 44 = u44
  generalize u 45 = u45
  generalize u 46 = u46
  generalize u 47 = u47
  generalize u 48 = u48
  generalize u 49 = u49
  generalize u 50 = u50
  generalize u 51 = u51
  generalize u 52 = u52
  generalize u 53 = u53
  generalize u 54 = u54
  generalize u 55 = u55
  generalize u 56 = u56
  generalize u 57 = u57
  generalize u 58 = u58
  generalize u 59 = u59
  generalize u 60 = u60
  generalize u 61 = u61
  generalize u 62 = u62
  generalize u 63 = u63
  generalize u 64 = u64
  generalize u 65 = u65
  generalize u 66 = u66
  generalize u 67 = u67
  generalize u 68 = u68
  generalize u 69 = u69
  generalize u 70 = u70
  generalize u 71 = u71
  generalize u 72 = u72
  generalize u 73 = u73
  generalize u 74 = u74
  generalize u 75 = u75
  generalize u 76 = u76
  generalize u 77 = u77
  generalize u 78 = u78
  generalize u 79 = u79
  generalize u 80 = u80
  generalize u 81 = u81
  generalize u 82 = u82
  generalize u 83 = u83
  generalize u 84 = u84
  generalize u 85 = u85
  generalize u 86 = u86
  generalize u 87 = u87
  clear u
  have HM := hide hm
  have BD := hide (Below.refl wq.heap.size wq)
  clear hm
  go_wp2_with (go_at_call 11; refine (HM.out _ _ _).mono ?_; rintro e w1 ⟨rfl, b1⟩; have BD : Hid (Below wq.heap.size wq w1) := BD.out.trans (b1.mono BD.out.size); clear b1)
  refine HQ.out _ _ (w1.heap.size + 1) w1.heap.size ⟨rfl, rfl, rfl, rfl, rfl, rfl, rfl, rfl, rfl, rfl⟩ ?_ ?_ ?_
  · rw [show w1.heap.size + 1 = (w1.alloc (.cells #[.int .i64 0, .int .i64 1, .int .i64 1, .int .i64 1, .int .i64 2, .int .i64 1] tMember)).heap.size by simp]
    exact World.alloc_heap_new _ _
  · exact heap_up (World.alloc_heap_new _ _)
  · exact (BD.out.alloc BD.out.size _).alloc (by have := BD.out.size; simp; omega) _
set_option maxHeartbeats 8000000 in
set_option maxRecDepth 100000 in
theorem ex_r2 {K : Act → World → Prop} {c : Code} (hc : regOf (Try.f5.body.getD .skip) 2 = some c) (a : Act) {v : Vex} {wq : World} {d g : Nat} (hF : Fex a v) (h1v : v.v1 = .pointer (some ⟨d, 0, none⟩)) (hD : wq.heap[d]? = some (.cells #[.int .i64 1, .slice (some ⟨g, 0, none⟩) 3 3] tView (0, 0))) (hm : ∀ (n l : Int) (W : World), Calls Try.prog 11 #[.int .i64 n, .int .i64 l] W fun e w' => e = .returned (.agg #[.int .i64 n, .int .i64 l]) ∧ Below W.heap.size W w') (hN : ∀ W ga gq, Below wq.heap.size wq W → W.heap[ga]? = some (.cells #[.int .i64 0, .int .i64 1, .int .i64 2, .int .i64 1, .int .i64 2, .int .i64 3] tMember (0, 0)) → W.heap[gq]? = some (.cells #[.int .i64 0, .int .i64 1, .int .i64 2] 3 (0, 0)) → Calls Try.prog 12 #[.agg #[.int .i64 1, .slice (some ⟨g, 0, none⟩) 3 3], .slice (some ⟨ga, 0, none⟩) 3 3, .slice (some ⟨gq, 0, none⟩) 3 3] W fun e w' => ∃ ro rc, e = .returned (.tuple #[.agg #[.int .i64 0, .slice ro 0 rc], .int .i64 12]) ∧ w'.ownsRow wq.heap.size tMember 2 (.slice ro 0 rc) 0 (mbCells []) ∧ Below W.heap.size W w')
    (hQ : ∀ a' w' ob ro rc, Fex a' { v with v2 := .pointer (some ⟨ob, 0, none⟩), v3 := .int .i64 12 } → w'.heap[ob]? = some (.cells #[.int .i64 0, .slice ro 0 rc] tView (0, 0)) → w'.ownsRow wq.heap.size tMember 2 (.slice ro 0 rc) 0 (mbCells []) → Below wq.heap.size wq w' → K a' w') :
    Code.wp Try.prog c (Exit.then K fun _ _ _ => False) a wq := by
  have HQ := hide hQ
  clear hQ
  obtain ⟨t', d'⟩ := a
  obtain ⟨v0, v1, v2, v3, v4, v5, v6, v7⟩ := v
  simp only at h1v HQ
  subst h1v
  obtain ⟨hs1, hd1, q0, q1, q2, q3, q4, q5, q6, q7⟩ := hF
  obtain ⟨u, hu⟩ := frame_ex t' hs1
  simp only at hd1 q0 q1 q2 q3 q4 q5 q6 q7
  subst hu hd1
  have e0 : u 0 = v0 := q0
  have e1 : u 1 = .pointer (some ⟨d, 0, none⟩) := q1
  have e2 : u 2 = v2 := q2
  have e3 : u 3 = v3 := q3
  have e4 : u 4 = v4 := q4
  have e5 : u 5 = v5 := q5
  have e6 : u 6 = v6 := q6
  have e7 : u 7 = v7 := q7
  rw [e0, e1, e2, e3, e4, e5, e6, e7]
  clear q0 e0 q1 e1 q2 e2 q3 e3 q4 e4 q5 e5 q6 e6 q7 e7 hs1
  simp only [Try.f5, Option.getD_some, regOf] at hc
  injection hc with hc
  subst hc
  generalize u 8 = u8
  generalize u 9 = u9
  generalize u 10 = u10
  generalize u 11 = u11
  generalize u 12 = u12
  generalize u 13 = u13
  generalize u 14 = u14
  generalize u 15 = u15
  generalize u 16 = u16
  generalize u 17 = u17
  generalize u 18 = u18
  generalize u 19 = u19
  generalize u 20 = u20
  generalize u 21 = u21
  generalize u 22 = u22
  generalize u 23 = u23
  generalize u 24 = u24
  generalize u 25 = u25
  generalize u 26 = u26
  generalize u 27 = u27
  generalize u 28 = u28
  generalize u 29 = u29
  generalize u 30 = u30
  generalize u 31 = u31
  generalize u 32 = u32
  generalize u 33 = u33
  generalize u 34 = u34
  generalize u 35 = u35
  generalize u 36 = u36
  generalize u 37 = u37
  generalize u 38 = u38
  generalize u 39 = u39
  generalize u 40 = u40
  generalize u 41 = u41
  generalize u 42 = u42
  generalize u 43 = u43
  generalize u 44 = u44
  generalize u 45 = u45
  generalize u 46 = u46
  generalize u 47 = u47
  generalize u 48 = u48
  generalize u 49 = u49
  generalize u 50 = u50
  generalize u 51 = u51
  generalize u 52 = u52
  generalize u 53 = u53
  generalize u 54 = u54
  generalize u 55 = u55
  generalize u 56 = u56
  generalize u 57 = u57
  generalize u 58 = u58
  generalize u 59 = u59
  generalize u 60 = u60
  generalize u 61 = u61
  generalize u 62 = u62
  generalize u 63 = u63
  generalize u 64 = u64
  generalize u 65 = u65
  generalize u 66 = u66
  generalize u 67 = u67
  generalize u 68 = u68
  generalize u 69 = u69
  generalize u 70 = u70
  generalize u 71 = u71
  generalize u 72 = u72
  generalize u 73 = u73
  generalize u 74 = u74
  generalize u 75 = u75
  generalize u 76 = u76
  generalize u 77 = u77
  generalize u 78 = u78
  generalize u 79 = u79
  generalize u 80 = u80
  generalize u 81 = u81
  generalize u 82 = u82
  generalize u 83 = u83
  generalize u 84 = u84
  generalize u 85 = u85
  generalize u 86 = u86
  generalize u 87 = u87
  clear u
  have y0 := box_cell hD 0 rfl
  have y1 := box_cell hD 1 rfl
  have hd0 := heap_lt hD
  have HM := hide hm
  have HN := hide hN
  have KM := hide (enters_of Try.func11 (by kernel_rfl) rfl)
  have KN := hide (enters_of Try.func12 (by kernel_rfl) rfl)
  clear hD hm hN
  refine wp_region_phi (by kernel_rfl) (ns := 88) (uses := (fun i => match i with | 0 => [14] | 1 => [15] | 2 => [16] | 3 => [17] | 4 => [18] | 5 => [19] | 6 => [20] | 7 => [13] | 8 => [21] | 9 => [22] | 10 => [2] | 11 => [2] | 12 => [3] | _ => [])) (by kernel_rfl) (by kernel_rfl) (RelX tView wq.heap.size 11) (fun w => Below wq.heap.size wq w) (fun _ _ _ h r => r.2.below h (Nat.le_refl _)) ((Below.refl _ _).drew) (fun i => match i with | 0 => fun s w => s 14 = .agg #[.int .i64 1, .slice (some ⟨g, 0, none⟩) 3 3] | 1 => fun s w => s 15 = .agg #[.int .i64 0, .int .i64 1] | 2 => fun s w => s 16 = .agg #[.int .i64 2, .int .i64 1] | 3 => fun s w => s 17 = .agg #[.int .i64 2, .int .i64 3] | 4 => fun s w => ∃ ga, s 18 = .slice (some ⟨ga, 0, none⟩) 3 3 ∧ w.heap[ga]? = some (.cells #[.int .i64 0, .int .i64 1, .int .i64 2, .int .i64 1, .int .i64 2, .int .i64 3] tMember (0, 0)) | 5 => fun s w => ∃ gq, s 19 = .slice (some ⟨gq, 0, none⟩) 3 3 ∧ w.heap[gq]? = some (.cells #[.int .i64 0, .int .i64 1, .int .i64 2] 3 (0, 0)) | 6 => fun s w => ∃ ro rc, s 20 = .tuple #[.agg #[.int .i64 0, .slice ro 0 rc], .int .i64 12] ∧ w.ownsRow wq.heap.size tMember 2 (.slice ro 0 rc) 0 (mbCells []) | 7 => fun s w => ∃ ro rc, s 13 = .tuple #[.agg #[.int .i64 0, .slice ro 0 rc], .int .i64 12] ∧ w.ownsRow wq.heap.size tMember 2 (.slice ro 0 rc) 0 (mbCells []) | 8 => fun s w => ∃ ro rc, s 21 = .agg #[.int .i64 0, .slice ro 0 rc] ∧ w.ownsRow wq.heap.size tMember 2 (.slice ro 0 rc) 0 (mbCells []) | 9 => fun s w => s 22 = .int .i64 12 | 10 => fun s w => ∃ ob, s 2 = .pointer (some ⟨ob, 0, none⟩) ∧ wq.heap.size ≤ ob ∧ ∃ c : Array Value, c.size = 2 ∧ w.heap[ob]? = some (.cells c tView (0, 0)) | 11 => fun s w => ∃ ob ro rc, s 2 = .pointer (some ⟨ob, 0, none⟩) ∧ w.heap[ob]? = some (.cells #[.int .i64 0, .slice ro 0 rc] tView (0, 0)) ∧ w.ownsRow wq.heap.size tMember 2 (.slice ro 0 rc) 0 (mbCells []) | 12 => fun s w => s 3 = .int .i64 12 | _ => fun _ _ => True) ?hc ?hh ?step ?done
  case hc =>
    intro i s s' w hx h
    match i, hx, h with
    | 0, hx, h =>
      have e14 := hx 14 (by simp)
      first | exact (show _ from by simp only [← e14] at *; exact h) | (simp only [e14] at h; exact h)
    | 1, hx, h =>
      have e15 := hx 15 (by simp)
      first | exact (show _ from by simp only [← e15] at *; exact h) | (simp only [e15] at h; exact h)
    | 2, hx, h =>
      have e16 := hx 16 (by simp)
      first | exact (show _ from by simp only [← e16] at *; exact h) | (simp only [e16] at h; exact h)
    | 3, hx, h =>
      have e17 := hx 17 (by simp)
      first | exact (show _ from by simp only [← e17] at *; exact h) | (simp only [e17] at h; exact h)
    | 4, hx, h =>
      have e18 := hx 18 (by simp)
      first | exact (show _ from by simp only [← e18] at *; exact h) | (simp only [e18] at h; exact h)
    | 5, hx, h =>
      have e19 := hx 19 (by simp)
      first | exact (show _ from by simp only [← e19] at *; exact h) | (simp only [e19] at h; exact h)
    | 6, hx, h =>
      have e20 := hx 20 (by simp)
      first | exact (show _ from by simp only [← e20] at *; exact h) | (simp only [e20] at h; exact h)
    | 7, hx, h =>
      have e13 := hx 13 (by simp)
      first | exact (show _ from by simp only [← e13] at *; exact h) | (simp only [e13] at h; exact h)
    | 8, hx, h =>
      have e21 := hx 21 (by simp)
      first | exact (show _ from by simp only [← e21] at *; exact h) | (simp only [e21] at h; exact h)
    | 9, hx, h =>
      have e22 := hx 22 (by simp)
      first | exact (show _ from by simp only [← e22] at *; exact h) | (simp only [e22] at h; exact h)
    | 10, hx, h =>
      have e2 := hx 2 (by simp)
      first | exact (show _ from by simp only [← e2] at *; exact h) | (simp only [e2] at h; exact h)
    | 11, hx, h =>
      have e2 := hx 2 (by simp)
      first | exact (show _ from by simp only [← e2] at *; exact h) | (simp only [e2] at h; exact h)
    | 12, hx, h =>
      have e3 := hx 3 (by simp)
      first | exact (show _ from by simp only [← e3] at *; exact h) | (simp only [e3] at h; exact h)
    | (n + 13), _, h => exact h
  case hh =>
    intro i j s w w' hij h hb r
    match i, hij, h with
    | 0, hij, h =>
      exact h
    | 1, hij, h =>
      exact h
    | 2, hij, h =>
      exact h
    | 3, hij, h =>
      exact h
    | 4, hij, h =>
      obtain ⟨g, h1, h2⟩ := h
      exact ⟨g, h1, r.2.other h2 (by decide)⟩
    | 5, hij, h =>
      obtain ⟨g, h1, h2⟩ := h
      exact ⟨g, h1, r.2.other h2 (by decide)⟩
    | 6, hij, h =>
      obtain ⟨ro, rc, h1, h2⟩ := h
      exact ⟨ro, rc, h1, r.2.row h2 (by decide)⟩
    | 7, hij, h =>
      obtain ⟨ro, rc, h1, h2⟩ := h
      exact ⟨ro, rc, h1, r.2.row h2 (by decide)⟩
    | 8, hij, h =>
      obtain ⟨ro, rc, h1, h2⟩ := h
      exact ⟨ro, rc, h1, r.2.row h2 (by decide)⟩
    | 9, hij, h =>
      exact h
    | 10, hij, h =>
      obtain ⟨ob, h1, h2, c, h3, h4⟩ := h
      obtain ⟨c', h5, h6⟩ := r.2.box h4
      exact ⟨ob, h1, h2, c', h6.trans h3, h5⟩
    | 11, hij, h =>
      obtain ⟨ob, ro, rc, h1, h2, h3⟩ := h
      have rb := r.1 (fun e => hij e.symm)
      exact ⟨ob, ro, rc, h1, (rb.block _ (heap_lt h2)).trans h2, below_row rb h3⟩
    | 12, hij, h =>
      exact h
    | (n + 13), _, h => exact h
  case step =>
    intro i o ho a' w' hsa hb hd
    match i, ho with
    | 0, ho =>
      obtain rfl := Option.some.inj ho
      try dsimp only at hd
      have g1 : a'.tmps.getD 1 undef = .pointer (some ⟨d, 0, none⟩) := hsa.rest 1 (by rfl)
      have c0 : w'.cell? ⟨d, 0, none⟩ = some (.int .i64 1) := (hb.cell (p := ⟨d, 0, none⟩) hd0).trans y0
      have c1 : w'.cell? ⟨d, 1, none⟩ = some (.slice (some ⟨g, 0, none⟩) 3 3) := (hb.cell (p := ⟨d, 1, none⟩) hd0).trans y1
      refine wpOp_of rfl rfl ?_
      refine op_run (v := .agg #[.int .i64 1, .slice (some ⟨g, 0, none⟩) 3 3]) (w' := w') ?_ ⟨_, rfl, ?_, ?_⟩
      · simp only [execOp, Act.eval, List.map_toArray, List.map_cons, List.map_nil, g1, c0, c1]; first | (go_simp; done) | rfl
      · try dsimp only
        exact (slots_put (ns := 88) (hsa.size.trans rfl) (by decide))
      · exact RelX.of_below (Below.refl _ _)
    | 1, ho =>
      obtain rfl := Option.some.inj ho
      try dsimp only at hd
      refine wpOp_of rfl rfl ?_
      refine op_call 11 _ _ rfl KM.out [.int .i64 0, .int .i64 1] (by simp only [List.map, Act.eval]) (HM.out _ _ w') ?_
      rintro e w'' ⟨rfl, b1⟩
      refine ⟨_, rfl, _, rfl, ?_, ?_⟩
      · try dsimp only
        exact (slots_put (ns := 88) (hsa.size.trans rfl) (by decide))
      · exact RelX.of_below b1
    | 2, ho =>
      obtain rfl := Option.some.inj ho
      try dsimp only at hd
      refine wpOp_of rfl rfl ?_
      refine op_call 11 _ _ rfl KM.out [.int .i64 2, .int .i64 1] (by simp only [List.map, Act.eval]) (HM.out _ _ w') ?_
      rintro e w'' ⟨rfl, b1⟩
      refine ⟨_, rfl, _, rfl, ?_, ?_⟩
      · try dsimp only
        exact (slots_put (ns := 88) (hsa.size.trans rfl) (by decide))
      · exact RelX.of_below b1
    | 3, ho =>
      obtain rfl := Option.some.inj ho
      try dsimp only at hd
      refine wpOp_of rfl rfl ?_
      refine op_call 11 _ _ rfl KM.out [.int .i64 2, .int .i64 3] (by simp only [List.map, Act.eval]) (HM.out _ _ w') ?_
      rintro e w'' ⟨rfl, b1⟩
      refine ⟨_, rfl, _, rfl, ?_, ?_⟩
      · try dsimp only
        exact (slots_put (ns := 88) (hsa.size.trans rfl) (by decide))
      · exact RelX.of_below b1
    | 4, ho =>
      obtain rfl := Option.some.inj ho
      try dsimp only at hd
      have d1 : a'.tmps.getD 15 undef = .agg #[.int .i64 0, .int .i64 1] := hd 1 (by rfl)
      have d2 : a'.tmps.getD 16 undef = .agg #[.int .i64 2, .int .i64 1] := hd 2 (by rfl)
      have d3 : a'.tmps.getD 17 undef = .agg #[.int .i64 2, .int .i64 3] := hd 3 (by rfl)
      refine wpOp_of rfl rfl ?_
      refine op_run (v := Value.slice (some ⟨w'.heap.size, 0, none⟩) 3 3) (w' := w'.alloc (.cells #[.int .i64 0, .int .i64 1, .int .i64 2, .int .i64 1, .int .i64 2, .int .i64 3] tMember)) ?_ ⟨_, rfl, ?_, ?_⟩
      · simp only [execOp, Act.eval, List.map_toArray, List.map_cons, List.map_nil, d1, d2, d3]; first | (go_simp; done) | rfl
      · try dsimp only
        exact ⟨_, (slots_put (ns := 88) (hsa.size.trans rfl) (by decide)), World.alloc_heap_new _ _⟩
      · exact RelX.of_below ((Below.refl _ _).alloc (Nat.le_refl _) _)
    | 5, ho =>
      obtain rfl := Option.some.inj ho
      try dsimp only at hd
      refine wpOp_of rfl rfl ?_
      refine op_run (v := Value.slice (some ⟨w'.heap.size, 0, none⟩) 3 3) (w' := w'.alloc (.cells #[.int .i64 0, .int .i64 1, .int .i64 2] 3)) ?_ ⟨_, rfl, ?_, ?_⟩
      · simp only [execOp, Act.eval, List.map_toArray, List.map_cons, List.map_nil]; first | (go_simp; done) | rfl
      · try dsimp only
        exact ⟨_, (slots_put (ns := 88) (hsa.size.trans rfl) (by decide)), World.alloc_heap_new _ _⟩
      · exact RelX.of_below ((Below.refl _ _).alloc (Nat.le_refl _) _)
    | 6, ho =>
      obtain rfl := Option.some.inj ho
      try dsimp only at hd
      have d0 : a'.tmps.getD 14 undef = .agg #[.int .i64 1, .slice (some ⟨g, 0, none⟩) 3 3] := hd 0 (by rfl)
      have d4 : ∃ ga, a'.tmps.getD 18 undef = .slice (some ⟨ga, 0, none⟩) 3 3 ∧ w'.heap[ga]? = some (.cells #[.int .i64 0, .int .i64 1, .int .i64 2, .int .i64 1, .int .i64 2, .int .i64 3] tMember (0, 0)) := hd 4 (by rfl)
      have d5 : ∃ gq, a'.tmps.getD 19 undef = .slice (some ⟨gq, 0, none⟩) 3 3 ∧ w'.heap[gq]? = some (.cells #[.int .i64 0, .int .i64 1, .int .i64 2] 3 (0, 0)) := hd 5 (by rfl)
      obtain ⟨ga, d4, h4⟩ := d4
      obtain ⟨gq, d5, h5⟩ := d5
      refine wpOp_of rfl rfl ?_
      refine op_call 12 _ _ rfl KN.out [.agg #[.int .i64 1, .slice (some ⟨g, 0, none⟩) 3 3], .slice (some ⟨ga, 0, none⟩) 3 3, .slice (some ⟨gq, 0, none⟩) 3 3] (by simp only [List.map, Act.eval, d0, d4, d5]) (HN.out w' ga gq hb h4 h5) ?_
      rintro e w'' ⟨ro, rc, rfl, h6, h7⟩
      refine ⟨_, rfl, _, rfl, ?_, ?_⟩
      · try dsimp only
        exact ⟨ro, rc, (slots_put (ns := 88) (hsa.size.trans rfl) (by decide)), h6⟩
      · exact RelX.of_below h7
    | 7, ho =>
      obtain rfl := Option.some.inj ho
      try dsimp only at hd
      have d6 : ∃ ro rc, a'.tmps.getD 20 undef = .tuple #[.agg #[.int .i64 0, .slice ro 0 rc], .int .i64 12] ∧ w'.ownsRow wq.heap.size tMember 2 (.slice ro 0 rc) 0 (mbCells []) := hd 6 (by rfl)
      obtain ⟨ro, rc, d6, h6⟩ := d6
      refine wpOp_of rfl rfl ?_
      refine op_run (v := .tuple #[.agg #[.int .i64 0, .slice ro 0 rc], .int .i64 12]) (w' := w') ?_ ⟨_, rfl, ?_, ?_⟩
      · simp only [execOp, Act.eval, List.map_toArray, List.map_cons, List.map_nil, d6]; first | (go_simp; done) | rfl
      · try dsimp only
        exact ⟨ro, rc, (slots_put (ns := 88) (hsa.size.trans rfl) (by decide)), h6⟩
      · exact RelX.of_below (Below.refl _ _)
    | 8, ho =>
      obtain rfl := Option.some.inj ho
      try dsimp only at hd
      have d7 : ∃ ro rc, a'.tmps.getD 13 undef = .tuple #[.agg #[.int .i64 0, .slice ro 0 rc], .int .i64 12] ∧ w'.ownsRow wq.heap.size tMember 2 (.slice ro 0 rc) 0 (mbCells []) := hd 7 (by rfl)
      obtain ⟨ro, rc, d7, h6⟩ := d7
      refine wpOp_of rfl rfl ?_
      refine op_run (v := .agg #[.int .i64 0, .slice ro 0 rc]) (w' := w') ?_ ⟨_, rfl, ?_, ?_⟩
      · simp only [execOp, Act.eval, List.map_toArray, List.map_cons, List.map_nil, d7]; first | (go_simp; done) | rfl
      · try dsimp only
        exact ⟨ro, rc, (slots_put (ns := 88) (hsa.size.trans rfl) (by decide)), h6⟩
      · exact RelX.of_below (Below.refl _ _)
    | 9, ho =>
      obtain rfl := Option.some.inj ho
      try dsimp only at hd
      have d7 : ∃ ro rc, a'.tmps.getD 13 undef = .tuple #[.agg #[.int .i64 0, .slice ro 0 rc], .int .i64 12] ∧ w'.ownsRow wq.heap.size tMember 2 (.slice ro 0 rc) 0 (mbCells []) := hd 7 (by rfl)
      obtain ⟨ro, rc, d7, h6⟩ := d7
      refine wpOp_of rfl rfl ?_
      refine op_run (v := .int .i64 12) (w' := w') ?_ ⟨_, rfl, ?_, ?_⟩
      · simp only [execOp, Act.eval, List.map_toArray, List.map_cons, List.map_nil, d7]; first | (go_simp; done) | rfl
      · try dsimp only
        exact (slots_put (ns := 88) (hsa.size.trans rfl) (by decide))
      · exact RelX.of_below (Below.refl _ _)
    | 10, ho =>
      obtain rfl := Option.some.inj ho
      try dsimp only at hd
      refine wpOp_of rfl rfl ?_
      refine op_run (v := Value.pointer (some ⟨w'.heap.size, 0, none⟩)) (w' := w'.alloc (.cells #[.int .i64 0, .slice none 0 0] tView)) ?_ ⟨_, rfl, ?_, ?_⟩
      · simp only [execOp, Act.eval, List.map_toArray, List.map_cons, List.map_nil]; first | (go_simp; done) | rfl
      · try dsimp only
        exact ⟨_, (slots_put (ns := 88) (hsa.size.trans rfl) (by decide)), hb.size, _, rfl, World.alloc_heap_new _ _⟩
      · exact RelX.of_below ((Below.refl _ _).alloc (Nat.le_refl _) _)
    | 11, ho =>
      obtain rfl := Option.some.inj ho
      try dsimp only at hd
      have d8 : ∃ ro rc, a'.tmps.getD 21 undef = .agg #[.int .i64 0, .slice ro 0 rc] ∧ w'.ownsRow wq.heap.size tMember 2 (.slice ro 0 rc) 0 (mbCells []) := hd 8 (by rfl)
      have d10 : ∃ ob, a'.tmps.getD 2 undef = .pointer (some ⟨ob, 0, none⟩) ∧ wq.heap.size ≤ ob ∧ ∃ c : Array Value, c.size = 2 ∧ w'.heap[ob]? = some (.cells c tView (0, 0)) := hd 10 (by rfl)
      obtain ⟨ro, rc, d8, h6⟩ := d8
      obtain ⟨ob, d10, h7, c, h8, h9⟩ := d10
      obtain ⟨z0, z1, rfl⟩ : ∃ z0 z1, c = #[z0, z1] := arr2 c h8
      have q0 := box_cell h9 0 rfl
      have q1 := box_cell h9 1 rfl
      have f0 := box_free h9 0
      have f1 := box_free h9 1
      obtain ⟨e1, e2⟩ := ext_set2 (B := wq.heap.size) h9 h7 h8 (.int .i64 0) (.slice ro 0 rc)
      refine wpOp_of rfl rfl ?_
      refine op_skip (w' := (w'.setCell ⟨ob, 0, none⟩ (.int .i64 0)).setCell ⟨ob, 1, none⟩ (.slice ro 0 rc)) ?_ ⟨undef, rfl, ?_, ?_⟩
      · simp only [execOp, Act.eval, d8, d10]; first | (go_simp; done) | rfl
      · try dsimp only
        exact ⟨ob, ro, rc, d10, e1, e2.row h6 (by decide)⟩
      · exact ⟨fun e => absurd rfl e, e2⟩
    | 12, ho =>
      obtain rfl := Option.some.inj ho
      try dsimp only at hd
      have d9 : a'.tmps.getD 22 undef = .int .i64 12 := hd 9 (by rfl)
      refine wpOp_of rfl rfl ?_
      refine op_run (v := .int .i64 12) (w' := w') ?_ ⟨_, rfl, ?_, ?_⟩
      · simp only [execOp, Act.eval, List.map_toArray, List.map_cons, List.map_nil, d9]; first | (go_simp; done) | rfl
      · try dsimp only
        exact (slots_put (ns := 88) (hsa.size.trans rfl) (by decide))
      · exact RelX.of_below (Below.refl _ _)
    | (n + 13), ho => exact absurd ho (by simp)
  case done =>
    intro a' w' hsa hb hd
    have d0 : a'.tmps.getD 14 undef = .agg #[.int .i64 1, .slice (some ⟨g, 0, none⟩) 3 3] := hd 0 (by decide)
    have d1 : a'.tmps.getD 15 undef = .agg #[.int .i64 0, .int .i64 1] := hd 1 (by decide)
    have d2 : a'.tmps.getD 16 undef = .agg #[.int .i64 2, .int .i64 1] := hd 2 (by decide)
    have d3 : a'.tmps.getD 17 undef = .agg #[.int .i64 2, .int .i64 3] := hd 3 (by decide)
    have d4 : ∃ ga, a'.tmps.getD 18 undef = .slice (some ⟨ga, 0, none⟩) 3 3 ∧ w'.heap[ga]? = some (.cells #[.int .i64 0, .int .i64 1, .int .i64 2, .int .i64 1, .int .i64 2, .int .i64 3] tMember (0, 0)) := hd 4 (by decide)
    have d5 : ∃ gq, a'.tmps.getD 19 undef = .slice (some ⟨gq, 0, none⟩) 3 3 ∧ w'.heap[gq]? = some (.cells #[.int .i64 0, .int .i64 1, .int .i64 2] 3 (0, 0)) := hd 5 (by decide)
    have d6 : ∃ ro rc, a'.tmps.getD 20 undef = .tuple #[.agg #[.int .i64 0, .slice ro 0 rc], .int .i64 12] ∧ w'.ownsRow wq.heap.size tMember 2 (.slice ro 0 rc) 0 (mbCells []) := hd 6 (by decide)
    have d7 : ∃ ro rc, a'.tmps.getD 13 undef = .tuple #[.agg #[.int .i64 0, .slice ro 0 rc], .int .i64 12] ∧ w'.ownsRow wq.heap.size tMember 2 (.slice ro 0 rc) 0 (mbCells []) := hd 7 (by decide)
    have d8 : ∃ ro rc, a'.tmps.getD 21 undef = .agg #[.int .i64 0, .slice ro 0 rc] ∧ w'.ownsRow wq.heap.size tMember 2 (.slice ro 0 rc) 0 (mbCells []) := hd 8 (by decide)
    have d9 : a'.tmps.getD 22 undef = .int .i64 12 := hd 9 (by decide)
    have d10 : ∃ ob, a'.tmps.getD 2 undef = .pointer (some ⟨ob, 0, none⟩) ∧ wq.heap.size ≤ ob ∧ ∃ c : Array Value, c.size = 2 ∧ w'.heap[ob]? = some (.cells c tView (0, 0)) := hd 10 (by decide)
    have d11 : ∃ ob ro rc, a'.tmps.getD 2 undef = .pointer (some ⟨ob, 0, none⟩) ∧ w'.heap[ob]? = some (.cells #[.int .i64 0, .slice ro 0 rc] tView (0, 0)) ∧ w'.ownsRow wq.heap.size tMember 2 (.slice ro 0 rc) 0 (mbCells []) := hd 11 (by decide)
    have d12 : a'.tmps.getD 3 undef = .int .i64 12 := hd 12 (by decide)
    obtain ⟨ob, ro, rc, d11, h1, h2⟩ := d11
    refine HQ.out _ _ ob ro rc ⟨hsa.size.trans rfl, hsa.defers.trans rfl, hsa.rest 0 (by rfl), hsa.rest 1 (by rfl), d11, d12, hsa.rest 4 (by rfl), hsa.rest 5 (by rfl), hsa.rest 6 (by rfl), hsa.rest 7 (by rfl)⟩ h1 h2 hb
set_option maxHeartbeats 8000000 in
set_option maxRecDepth 100000 in
theorem ex_r3 {K : Act → World → Prop} {c : Code} (hc : regOf (Try.f5.body.getD .skip) 3 = some c) (a : Act) {v : Vex} {wq : World} {d g : Nat} (hF : Fex a v) (h1v : v.v1 = .pointer (some ⟨d, 0, none⟩)) (hD : wq.heap[d]? = some (.cells #[.int .i64 1, .slice (some ⟨g, 0, none⟩) 3 3] tView (0, 0))) (hm : ∀ (n l : Int) (W : World), Calls Try.prog 11 #[.int .i64 n, .int .i64 l] W fun e w' => e = .returned (.agg #[.int .i64 n, .int .i64 l]) ∧ Below W.heap.size W w') (hN : ∀ W ga gq, Below wq.heap.size wq W → W.heap[ga]? = some (.cells #[.int .i64 0, .int .i64 1, .int .i64 1, .int .i64 1, .int .i64 2, .int .i64 3] tMember (0, 0)) → W.heap[gq]? = some (.cells #[.int .i64 0, .int .i64 1, .int .i64 2] 3 (0, 0)) → Calls Try.prog 12 #[.agg #[.int .i64 1, .slice (some ⟨g, 0, none⟩) 3 3], .slice (some ⟨ga, 0, none⟩) 3 3, .slice (some ⟨gq, 0, none⟩) 3 3] W fun e w' => ∃ ro rc, e = .returned (.tuple #[.agg #[.int .i64 2, .slice ro 3 rc], .int .i64 0]) ∧ w'.ownsRow wq.heap.size tMember 2 (.slice ro 3 rc) 3 (mbCells [⟨0, 1⟩, ⟨1, 1⟩, ⟨2, 3⟩]) ∧ Below W.heap.size W w')
    (hQ : ∀ a' w' ob ro rc, Fex a' { v with v4 := .pointer (some ⟨ob, 0, none⟩), v5 := .int .i64 0 } → w'.heap[ob]? = some (.cells #[.int .i64 2, .slice ro 3 rc] tView (0, 0)) → w'.ownsRow wq.heap.size tMember 2 (.slice ro 3 rc) 3 (mbCells [⟨0, 1⟩, ⟨1, 1⟩, ⟨2, 3⟩]) → Below wq.heap.size wq w' → K a' w') :
    Code.wp Try.prog c (Exit.then K fun _ _ _ => False) a wq := by
  have HQ := hide hQ
  clear hQ
  obtain ⟨t', d'⟩ := a
  obtain ⟨v0, v1, v2, v3, v4, v5, v6, v7⟩ := v
  simp only at h1v HQ
  subst h1v
  obtain ⟨hs1, hd1, q0, q1, q2, q3, q4, q5, q6, q7⟩ := hF
  obtain ⟨u, hu⟩ := frame_ex t' hs1
  simp only at hd1 q0 q1 q2 q3 q4 q5 q6 q7
  subst hu hd1
  have e0 : u 0 = v0 := q0
  have e1 : u 1 = .pointer (some ⟨d, 0, none⟩) := q1
  have e2 : u 2 = v2 := q2
  have e3 : u 3 = v3 := q3
  have e4 : u 4 = v4 := q4
  have e5 : u 5 = v5 := q5
  have e6 : u 6 = v6 := q6
  have e7 : u 7 = v7 := q7
  rw [e0, e1, e2, e3, e4, e5, e6, e7]
  clear q0 e0 q1 e1 q2 e2 q3 e3 q4 e4 q5 e5 q6 e6 q7 e7 hs1
  simp only [Try.f5, Option.getD_some, regOf] at hc
  injection hc with hc
  subst hc
  generalize u 8 = u8
  generalize u 9 = u9
  generalize u 10 = u10
  generalize u 11 = u11
  generalize u 12 = u12
  generalize u 13 = u13
  generalize u 14 = u14
  generalize u 15 = u15
  generalize u 16 = u16
  generalize u 17 = u17
  generalize u 18 = u18
  generalize u 19 = u19
  generalize u 20 = u20
  generalize u 21 = u21
  generalize u 22 = u22
  generalize u 23 = u23
  generalize u 24 = u24
  generalize u 25 = u25
  generalize u 26 = u26
  generalize u 27 = u27
  generalize u 28 = u28
  generalize u 29 = u29
  generalize u 30 = u30
  generalize u 31 = u31
  generalize u 32 = u32
  generalize u 33 = u33
  generalize u 34 = u34
  generalize u 35 = u35
  generalize u 36 = u36
  generalize u 37 = u37
  generalize u 38 = u38
  generalize u 39 = u39
  generalize u 40 = u40
  generalize u 41 = u41
  generalize u 42 = u42
  generalize u 43 = u43
  generalize u 44 = u44
  generalize u 45 = u45
  generalize u 46 = u46
  generalize u 47 = u47
  generalize u 48 = u48
  generalize u 49 = u49
  generalize u 50 = u50
  generalize u 51 = u51
  generalize u 52 = u52
  generalize u 53 = u53
  generalize u 54 = u54
  generalize u 55 = u55
  generalize u 56 = u56
  generalize u 57 = u57
  generalize u 58 = u58
  generalize u 59 = u59
  generalize u 60 = u60
  generalize u 61 = u61
  generalize u 62 = u62
  generalize u 63 = u63
  generalize u 64 = u64
  generalize u 65 = u65
  generalize u 66 = u66
  generalize u 67 = u67
  generalize u 68 = u68
  generalize u 69 = u69
  generalize u 70 = u70
  generalize u 71 = u71
  generalize u 72 = u72
  generalize u 73 = u73
  generalize u 74 = u74
  generalize u 75 = u75
  generalize u 76 = u76
  generalize u 77 = u77
  generalize u 78 = u78
  generalize u 79 = u79
  generalize u 80 = u80
  generalize u 81 = u81
  generalize u 82 = u82
  generalize u 83 = u83
  generalize u 84 = u84
  generalize u 85 = u85
  generalize u 86 = u86
  generalize u 87 = u87
  clear u
  have y0 := box_cell hD 0 rfl
  have y1 := box_cell hD 1 rfl
  have hd0 := heap_lt hD
  have HM := hide hm
  have HN := hide hN
  have KM := hide (enters_of Try.func11 (by kernel_rfl) rfl)
  have KN := hide (enters_of Try.func12 (by kernel_rfl) rfl)
  clear hD hm hN
  refine wp_region_phi (by kernel_rfl) (ns := 88) (uses := (fun i => match i with | 0 => [24] | 1 => [25] | 2 => [26] | 3 => [27] | 4 => [28] | 5 => [29] | 6 => [30] | 7 => [23] | 8 => [31] | 9 => [32] | 10 => [4] | 11 => [4] | 12 => [5] | _ => [])) (by kernel_rfl) (by kernel_rfl) (RelX tView wq.heap.size 11) (fun w => Below wq.heap.size wq w) (fun _ _ _ h r => r.2.below h (Nat.le_refl _)) ((Below.refl _ _).drew) (fun i => match i with | 0 => fun s w => s 24 = .agg #[.int .i64 1, .slice (some ⟨g, 0, none⟩) 3 3] | 1 => fun s w => s 25 = .agg #[.int .i64 0, .int .i64 1] | 2 => fun s w => s 26 = .agg #[.int .i64 1, .int .i64 1] | 3 => fun s w => s 27 = .agg #[.int .i64 2, .int .i64 3] | 4 => fun s w => ∃ ga, s 28 = .slice (some ⟨ga, 0, none⟩) 3 3 ∧ w.heap[ga]? = some (.cells #[.int .i64 0, .int .i64 1, .int .i64 1, .int .i64 1, .int .i64 2, .int .i64 3] tMember (0, 0)) | 5 => fun s w => ∃ gq, s 29 = .slice (some ⟨gq, 0, none⟩) 3 3 ∧ w.heap[gq]? = some (.cells #[.int .i64 0, .int .i64 1, .int .i64 2] 3 (0, 0)) | 6 => fun s w => ∃ ro rc, s 30 = .tuple #[.agg #[.int .i64 2, .slice ro 3 rc], .int .i64 0] ∧ w.ownsRow wq.heap.size tMember 2 (.slice ro 3 rc) 3 (mbCells [⟨0, 1⟩, ⟨1, 1⟩, ⟨2, 3⟩]) | 7 => fun s w => ∃ ro rc, s 23 = .tuple #[.agg #[.int .i64 2, .slice ro 3 rc], .int .i64 0] ∧ w.ownsRow wq.heap.size tMember 2 (.slice ro 3 rc) 3 (mbCells [⟨0, 1⟩, ⟨1, 1⟩, ⟨2, 3⟩]) | 8 => fun s w => ∃ ro rc, s 31 = .agg #[.int .i64 2, .slice ro 3 rc] ∧ w.ownsRow wq.heap.size tMember 2 (.slice ro 3 rc) 3 (mbCells [⟨0, 1⟩, ⟨1, 1⟩, ⟨2, 3⟩]) | 9 => fun s w => s 32 = .int .i64 0 | 10 => fun s w => ∃ ob, s 4 = .pointer (some ⟨ob, 0, none⟩) ∧ wq.heap.size ≤ ob ∧ ∃ c : Array Value, c.size = 2 ∧ w.heap[ob]? = some (.cells c tView (0, 0)) | 11 => fun s w => ∃ ob ro rc, s 4 = .pointer (some ⟨ob, 0, none⟩) ∧ w.heap[ob]? = some (.cells #[.int .i64 2, .slice ro 3 rc] tView (0, 0)) ∧ w.ownsRow wq.heap.size tMember 2 (.slice ro 3 rc) 3 (mbCells [⟨0, 1⟩, ⟨1, 1⟩, ⟨2, 3⟩]) | 12 => fun s w => s 5 = .int .i64 0 | _ => fun _ _ => True) ?hc ?hh ?step ?done
  case hc =>
    intro i s s' w hx h
    match i, hx, h with
    | 0, hx, h =>
      have e24 := hx 24 (by simp)
      first | exact (show _ from by simp only [← e24] at *; exact h) | (simp only [e24] at h; exact h)
    | 1, hx, h =>
      have e25 := hx 25 (by simp)
      first | exact (show _ from by simp only [← e25] at *; exact h) | (simp only [e25] at h; exact h)
    | 2, hx, h =>
      have e26 := hx 26 (by simp)
      first | exact (show _ from by simp only [← e26] at *; exact h) | (simp only [e26] at h; exact h)
    | 3, hx, h =>
      have e27 := hx 27 (by simp)
      first | exact (show _ from by simp only [← e27] at *; exact h) | (simp only [e27] at h; exact h)
    | 4, hx, h =>
      have e28 := hx 28 (by simp)
      first | exact (show _ from by simp only [← e28] at *; exact h) | (simp only [e28] at h; exact h)
    | 5, hx, h =>
      have e29 := hx 29 (by simp)
      first | exact (show _ from by simp only [← e29] at *; exact h) | (simp only [e29] at h; exact h)
    | 6, hx, h =>
      have e30 := hx 30 (by simp)
      first | exact (show _ from by simp only [← e30] at *; exact h) | (simp only [e30] at h; exact h)
    | 7, hx, h =>
      have e23 := hx 23 (by simp)
      first | exact (show _ from by simp only [← e23] at *; exact h) | (simp only [e23] at h; exact h)
    | 8, hx, h =>
      have e31 := hx 31 (by simp)
      first | exact (show _ from by simp only [← e31] at *; exact h) | (simp only [e31] at h; exact h)
    | 9, hx, h =>
      have e32 := hx 32 (by simp)
      first | exact (show _ from by simp only [← e32] at *; exact h) | (simp only [e32] at h; exact h)
    | 10, hx, h =>
      have e4 := hx 4 (by simp)
      first | exact (show _ from by simp only [← e4] at *; exact h) | (simp only [e4] at h; exact h)
    | 11, hx, h =>
      have e4 := hx 4 (by simp)
      first | exact (show _ from by simp only [← e4] at *; exact h) | (simp only [e4] at h; exact h)
    | 12, hx, h =>
      have e5 := hx 5 (by simp)
      first | exact (show _ from by simp only [← e5] at *; exact h) | (simp only [e5] at h; exact h)
    | (n + 13), _, h => exact h
  case hh =>
    intro i j s w w' hij h hb r
    match i, hij, h with
    | 0, hij, h =>
      exact h
    | 1, hij, h =>
      exact h
    | 2, hij, h =>
      exact h
    | 3, hij, h =>
      exact h
    | 4, hij, h =>
      obtain ⟨g, h1, h2⟩ := h
      exact ⟨g, h1, r.2.other h2 (by decide)⟩
    | 5, hij, h =>
      obtain ⟨g, h1, h2⟩ := h
      exact ⟨g, h1, r.2.other h2 (by decide)⟩
    | 6, hij, h =>
      obtain ⟨ro, rc, h1, h2⟩ := h
      exact ⟨ro, rc, h1, r.2.row h2 (by decide)⟩
    | 7, hij, h =>
      obtain ⟨ro, rc, h1, h2⟩ := h
      exact ⟨ro, rc, h1, r.2.row h2 (by decide)⟩
    | 8, hij, h =>
      obtain ⟨ro, rc, h1, h2⟩ := h
      exact ⟨ro, rc, h1, r.2.row h2 (by decide)⟩
    | 9, hij, h =>
      exact h
    | 10, hij, h =>
      obtain ⟨ob, h1, h2, c, h3, h4⟩ := h
      obtain ⟨c', h5, h6⟩ := r.2.box h4
      exact ⟨ob, h1, h2, c', h6.trans h3, h5⟩
    | 11, hij, h =>
      obtain ⟨ob, ro, rc, h1, h2, h3⟩ := h
      have rb := r.1 (fun e => hij e.symm)
      exact ⟨ob, ro, rc, h1, (rb.block _ (heap_lt h2)).trans h2, below_row rb h3⟩
    | 12, hij, h =>
      exact h
    | (n + 13), _, h => exact h
  case step =>
    intro i o ho a' w' hsa hb hd
    match i, ho with
    | 0, ho =>
      obtain rfl := Option.some.inj ho
      try dsimp only at hd
      have g1 : a'.tmps.getD 1 undef = .pointer (some ⟨d, 0, none⟩) := hsa.rest 1 (by rfl)
      have c0 : w'.cell? ⟨d, 0, none⟩ = some (.int .i64 1) := (hb.cell (p := ⟨d, 0, none⟩) hd0).trans y0
      have c1 : w'.cell? ⟨d, 1, none⟩ = some (.slice (some ⟨g, 0, none⟩) 3 3) := (hb.cell (p := ⟨d, 1, none⟩) hd0).trans y1
      refine wpOp_of rfl rfl ?_
      refine op_run (v := .agg #[.int .i64 1, .slice (some ⟨g, 0, none⟩) 3 3]) (w' := w') ?_ ⟨_, rfl, ?_, ?_⟩
      · simp only [execOp, Act.eval, List.map_toArray, List.map_cons, List.map_nil, g1, c0, c1]; first | (go_simp; done) | rfl
      · try dsimp only
        exact (slots_put (ns := 88) (hsa.size.trans rfl) (by decide))
      · exact RelX.of_below (Below.refl _ _)
    | 1, ho =>
      obtain rfl := Option.some.inj ho
      try dsimp only at hd
      refine wpOp_of rfl rfl ?_
      refine op_call 11 _ _ rfl KM.out [.int .i64 0, .int .i64 1] (by simp only [List.map, Act.eval]) (HM.out _ _ w') ?_
      rintro e w'' ⟨rfl, b1⟩
      refine ⟨_, rfl, _, rfl, ?_, ?_⟩
      · try dsimp only
        exact (slots_put (ns := 88) (hsa.size.trans rfl) (by decide))
      · exact RelX.of_below b1
    | 2, ho =>
      obtain rfl := Option.some.inj ho
      try dsimp only at hd
      refine wpOp_of rfl rfl ?_
      refine op_call 11 _ _ rfl KM.out [.int .i64 1, .int .i64 1] (by simp only [List.map, Act.eval]) (HM.out _ _ w') ?_
      rintro e w'' ⟨rfl, b1⟩
      refine ⟨_, rfl, _, rfl, ?_, ?_⟩
      · try dsimp only
        exact (slots_put (ns := 88) (hsa.size.trans rfl) (by decide))
      · exact RelX.of_below b1
    | 3, ho =>
      obtain rfl := Option.some.inj ho
      try dsimp only at hd
      refine wpOp_of rfl rfl ?_
      refine op_call 11 _ _ rfl KM.out [.int .i64 2, .int .i64 3] (by simp only [List.map, Act.eval]) (HM.out _ _ w') ?_
      rintro e w'' ⟨rfl, b1⟩
      refine ⟨_, rfl, _, rfl, ?_, ?_⟩
      · try dsimp only
        exact (slots_put (ns := 88) (hsa.size.trans rfl) (by decide))
      · exact RelX.of_below b1
    | 4, ho =>
      obtain rfl := Option.some.inj ho
      try dsimp only at hd
      have d1 : a'.tmps.getD 25 undef = .agg #[.int .i64 0, .int .i64 1] := hd 1 (by rfl)
      have d2 : a'.tmps.getD 26 undef = .agg #[.int .i64 1, .int .i64 1] := hd 2 (by rfl)
      have d3 : a'.tmps.getD 27 undef = .agg #[.int .i64 2, .int .i64 3] := hd 3 (by rfl)
      refine wpOp_of rfl rfl ?_
      refine op_run (v := Value.slice (some ⟨w'.heap.size, 0, none⟩) 3 3) (w' := w'.alloc (.cells #[.int .i64 0, .int .i64 1, .int .i64 1, .int .i64 1, .int .i64 2, .int .i64 3] tMember)) ?_ ⟨_, rfl, ?_, ?_⟩
      · simp only [execOp, Act.eval, List.map_toArray, List.map_cons, List.map_nil, d1, d2, d3]; first | (go_simp; done) | rfl
      · try dsimp only
        exact ⟨_, (slots_put (ns := 88) (hsa.size.trans rfl) (by decide)), World.alloc_heap_new _ _⟩
      · exact RelX.of_below ((Below.refl _ _).alloc (Nat.le_refl _) _)
    | 5, ho =>
      obtain rfl := Option.some.inj ho
      try dsimp only at hd
      refine wpOp_of rfl rfl ?_
      refine op_run (v := Value.slice (some ⟨w'.heap.size, 0, none⟩) 3 3) (w' := w'.alloc (.cells #[.int .i64 0, .int .i64 1, .int .i64 2] 3)) ?_ ⟨_, rfl, ?_, ?_⟩
      · simp only [execOp, Act.eval, List.map_toArray, List.map_cons, List.map_nil]; first | (go_simp; done) | rfl
      · try dsimp only
        exact ⟨_, (slots_put (ns := 88) (hsa.size.trans rfl) (by decide)), World.alloc_heap_new _ _⟩
      · exact RelX.of_below ((Below.refl _ _).alloc (Nat.le_refl _) _)
    | 6, ho =>
      obtain rfl := Option.some.inj ho
      try dsimp only at hd
      have d0 : a'.tmps.getD 24 undef = .agg #[.int .i64 1, .slice (some ⟨g, 0, none⟩) 3 3] := hd 0 (by rfl)
      have d4 : ∃ ga, a'.tmps.getD 28 undef = .slice (some ⟨ga, 0, none⟩) 3 3 ∧ w'.heap[ga]? = some (.cells #[.int .i64 0, .int .i64 1, .int .i64 1, .int .i64 1, .int .i64 2, .int .i64 3] tMember (0, 0)) := hd 4 (by rfl)
      have d5 : ∃ gq, a'.tmps.getD 29 undef = .slice (some ⟨gq, 0, none⟩) 3 3 ∧ w'.heap[gq]? = some (.cells #[.int .i64 0, .int .i64 1, .int .i64 2] 3 (0, 0)) := hd 5 (by rfl)
      obtain ⟨ga, d4, h4⟩ := d4
      obtain ⟨gq, d5, h5⟩ := d5
      refine wpOp_of rfl rfl ?_
      refine op_call 12 _ _ rfl KN.out [.agg #[.int .i64 1, .slice (some ⟨g, 0, none⟩) 3 3], .slice (some ⟨ga, 0, none⟩) 3 3, .slice (some ⟨gq, 0, none⟩) 3 3] (by simp only [List.map, Act.eval, d0, d4, d5]) (HN.out w' ga gq hb h4 h5) ?_
      rintro e w'' ⟨ro, rc, rfl, h6, h7⟩
      refine ⟨_, rfl, _, rfl, ?_, ?_⟩
      · try dsimp only
        exact ⟨ro, rc, (slots_put (ns := 88) (hsa.size.trans rfl) (by decide)), h6⟩
      · exact RelX.of_below h7
    | 7, ho =>
      obtain rfl := Option.some.inj ho
      try dsimp only at hd
      have d6 : ∃ ro rc, a'.tmps.getD 30 undef = .tuple #[.agg #[.int .i64 2, .slice ro 3 rc], .int .i64 0] ∧ w'.ownsRow wq.heap.size tMember 2 (.slice ro 3 rc) 3 (mbCells [⟨0, 1⟩, ⟨1, 1⟩, ⟨2, 3⟩]) := hd 6 (by rfl)
      obtain ⟨ro, rc, d6, h6⟩ := d6
      refine wpOp_of rfl rfl ?_
      refine op_run (v := .tuple #[.agg #[.int .i64 2, .slice ro 3 rc], .int .i64 0]) (w' := w') ?_ ⟨_, rfl, ?_, ?_⟩
      · simp only [execOp, Act.eval, List.map_toArray, List.map_cons, List.map_nil, d6]; first | (go_simp; done) | rfl
      · try dsimp only
        exact ⟨ro, rc, (slots_put (ns := 88) (hsa.size.trans rfl) (by decide)), h6⟩
      · exact RelX.of_below (Below.refl _ _)
    | 8, ho =>
      obtain rfl := Option.some.inj ho
      try dsimp only at hd
      have d7 : ∃ ro rc, a'.tmps.getD 23 undef = .tuple #[.agg #[.int .i64 2, .slice ro 3 rc], .int .i64 0] ∧ w'.ownsRow wq.heap.size tMember 2 (.slice ro 3 rc) 3 (mbCells [⟨0, 1⟩, ⟨1, 1⟩, ⟨2, 3⟩]) := hd 7 (by rfl)
      obtain ⟨ro, rc, d7, h6⟩ := d7
      refine wpOp_of rfl rfl ?_
      refine op_run (v := .agg #[.int .i64 2, .slice ro 3 rc]) (w' := w') ?_ ⟨_, rfl, ?_, ?_⟩
      · simp only [execOp, Act.eval, List.map_toArray, List.map_cons, List.map_nil, d7]; first | (go_simp; done) | rfl
      · try dsimp only
        exact ⟨ro, rc, (slots_put (ns := 88) (hsa.size.trans rfl) (by decide)), h6⟩
      · exact RelX.of_below (Below.refl _ _)
    | 9, ho =>
      obtain rfl := Option.some.inj ho
      try dsimp only at hd
      have d7 : ∃ ro rc, a'.tmps.getD 23 undef = .tuple #[.agg #[.int .i64 2, .slice ro 3 rc], .int .i64 0] ∧ w'.ownsRow wq.heap.size tMember 2 (.slice ro 3 rc) 3 (mbCells [⟨0, 1⟩, ⟨1, 1⟩, ⟨2, 3⟩]) := hd 7 (by rfl)
      obtain ⟨ro, rc, d7, h6⟩ := d7
      refine wpOp_of rfl rfl ?_
      refine op_run (v := .int .i64 0) (w' := w') ?_ ⟨_, rfl, ?_, ?_⟩
      · simp only [execOp, Act.eval, List.map_toArray, List.map_cons, List.map_nil, d7]; first | (go_simp; done) | rfl
      · try dsimp only
        exact (slots_put (ns := 88) (hsa.size.trans rfl) (by decide))
      · exact RelX.of_below (Below.refl _ _)
    | 10, ho =>
      obtain rfl := Option.some.inj ho
      try dsimp only at hd
      refine wpOp_of rfl rfl ?_
      refine op_run (v := Value.pointer (some ⟨w'.heap.size, 0, none⟩)) (w' := w'.alloc (.cells #[.int .i64 0, .slice none 0 0] tView)) ?_ ⟨_, rfl, ?_, ?_⟩
      · simp only [execOp, Act.eval, List.map_toArray, List.map_cons, List.map_nil]; first | (go_simp; done) | rfl
      · try dsimp only
        exact ⟨_, (slots_put (ns := 88) (hsa.size.trans rfl) (by decide)), hb.size, _, rfl, World.alloc_heap_new _ _⟩
      · exact RelX.of_below ((Below.refl _ _).alloc (Nat.le_refl _) _)
    | 11, ho =>
      obtain rfl := Option.some.inj ho
      try dsimp only at hd
      have d8 : ∃ ro rc, a'.tmps.getD 31 undef = .agg #[.int .i64 2, .slice ro 3 rc] ∧ w'.ownsRow wq.heap.size tMember 2 (.slice ro 3 rc) 3 (mbCells [⟨0, 1⟩, ⟨1, 1⟩, ⟨2, 3⟩]) := hd 8 (by rfl)
      have d10 : ∃ ob, a'.tmps.getD 4 undef = .pointer (some ⟨ob, 0, none⟩) ∧ wq.heap.size ≤ ob ∧ ∃ c : Array Value, c.size = 2 ∧ w'.heap[ob]? = some (.cells c tView (0, 0)) := hd 10 (by rfl)
      obtain ⟨ro, rc, d8, h6⟩ := d8
      obtain ⟨ob, d10, h7, c, h8, h9⟩ := d10
      obtain ⟨z0, z1, rfl⟩ : ∃ z0 z1, c = #[z0, z1] := arr2 c h8
      have q0 := box_cell h9 0 rfl
      have q1 := box_cell h9 1 rfl
      have f0 := box_free h9 0
      have f1 := box_free h9 1
      obtain ⟨e1, e2⟩ := ext_set2 (B := wq.heap.size) h9 h7 h8 (.int .i64 2) (.slice ro 3 rc)
      refine wpOp_of rfl rfl ?_
      refine op_skip (w' := (w'.setCell ⟨ob, 0, none⟩ (.int .i64 2)).setCell ⟨ob, 1, none⟩ (.slice ro 3 rc)) ?_ ⟨undef, rfl, ?_, ?_⟩
      · simp only [execOp, Act.eval, d8, d10]; first | (go_simp; done) | rfl
      · try dsimp only
        exact ⟨ob, ro, rc, d10, e1, e2.row h6 (by decide)⟩
      · exact ⟨fun e => absurd rfl e, e2⟩
    | 12, ho =>
      obtain rfl := Option.some.inj ho
      try dsimp only at hd
      have d9 : a'.tmps.getD 32 undef = .int .i64 0 := hd 9 (by rfl)
      refine wpOp_of rfl rfl ?_
      refine op_run (v := .int .i64 0) (w' := w') ?_ ⟨_, rfl, ?_, ?_⟩
      · simp only [execOp, Act.eval, List.map_toArray, List.map_cons, List.map_nil, d9]; first | (go_simp; done) | rfl
      · try dsimp only
        exact (slots_put (ns := 88) (hsa.size.trans rfl) (by decide))
      · exact RelX.of_below (Below.refl _ _)
    | (n + 13), ho => exact absurd ho (by simp)
  case done =>
    intro a' w' hsa hb hd
    have d0 : a'.tmps.getD 24 undef = .agg #[.int .i64 1, .slice (some ⟨g, 0, none⟩) 3 3] := hd 0 (by decide)
    have d1 : a'.tmps.getD 25 undef = .agg #[.int .i64 0, .int .i64 1] := hd 1 (by decide)
    have d2 : a'.tmps.getD 26 undef = .agg #[.int .i64 1, .int .i64 1] := hd 2 (by decide)
    have d3 : a'.tmps.getD 27 undef = .agg #[.int .i64 2, .int .i64 3] := hd 3 (by decide)
    have d4 : ∃ ga, a'.tmps.getD 28 undef = .slice (some ⟨ga, 0, none⟩) 3 3 ∧ w'.heap[ga]? = some (.cells #[.int .i64 0, .int .i64 1, .int .i64 1, .int .i64 1, .int .i64 2, .int .i64 3] tMember (0, 0)) := hd 4 (by decide)
    have d5 : ∃ gq, a'.tmps.getD 29 undef = .slice (some ⟨gq, 0, none⟩) 3 3 ∧ w'.heap[gq]? = some (.cells #[.int .i64 0, .int .i64 1, .int .i64 2] 3 (0, 0)) := hd 5 (by decide)
    have d6 : ∃ ro rc, a'.tmps.getD 30 undef = .tuple #[.agg #[.int .i64 2, .slice ro 3 rc], .int .i64 0] ∧ w'.ownsRow wq.heap.size tMember 2 (.slice ro 3 rc) 3 (mbCells [⟨0, 1⟩, ⟨1, 1⟩, ⟨2, 3⟩]) := hd 6 (by decide)
    have d7 : ∃ ro rc, a'.tmps.getD 23 undef = .tuple #[.agg #[.int .i64 2, .slice ro 3 rc], .int .i64 0] ∧ w'.ownsRow wq.heap.size tMember 2 (.slice ro 3 rc) 3 (mbCells [⟨0, 1⟩, ⟨1, 1⟩, ⟨2, 3⟩]) := hd 7 (by decide)
    have d8 : ∃ ro rc, a'.tmps.getD 31 undef = .agg #[.int .i64 2, .slice ro 3 rc] ∧ w'.ownsRow wq.heap.size tMember 2 (.slice ro 3 rc) 3 (mbCells [⟨0, 1⟩, ⟨1, 1⟩, ⟨2, 3⟩]) := hd 8 (by decide)
    have d9 : a'.tmps.getD 32 undef = .int .i64 0 := hd 9 (by decide)
    have d10 : ∃ ob, a'.tmps.getD 4 undef = .pointer (some ⟨ob, 0, none⟩) ∧ wq.heap.size ≤ ob ∧ ∃ c : Array Value, c.size = 2 ∧ w'.heap[ob]? = some (.cells c tView (0, 0)) := hd 10 (by decide)
    have d11 : ∃ ob ro rc, a'.tmps.getD 4 undef = .pointer (some ⟨ob, 0, none⟩) ∧ w'.heap[ob]? = some (.cells #[.int .i64 2, .slice ro 3 rc] tView (0, 0)) ∧ w'.ownsRow wq.heap.size tMember 2 (.slice ro 3 rc) 3 (mbCells [⟨0, 1⟩, ⟨1, 1⟩, ⟨2, 3⟩]) := hd 11 (by decide)
    have d12 : a'.tmps.getD 5 undef = .int .i64 0 := hd 12 (by decide)
    obtain ⟨ob, ro, rc, d11, h1, h2⟩ := d11
    refine HQ.out _ _ ob ro rc ⟨hsa.size.trans rfl, hsa.defers.trans rfl, hsa.rest 0 (by rfl), hsa.rest 1 (by rfl), hsa.rest 2 (by rfl), hsa.rest 3 (by rfl), d11, d12, hsa.rest 6 (by rfl), hsa.rest 7 (by rfl)⟩ h1 h2 hb
end Go.Proofs.Ytjnbfopipmglgaa
