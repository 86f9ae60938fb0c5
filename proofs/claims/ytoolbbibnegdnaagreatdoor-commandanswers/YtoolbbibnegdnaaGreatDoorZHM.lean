/-
  carillonref14's Answer: its regions but the ninth (mkrl.py)
-/
import Derived.Test.YtoolbbibnegdnaaGreatDoorZRJ
import Derived.Test.YtoolbbibnegdnaaGreatDoorZRU
import Derived.Test.YtoolbbibnegdnaaGreatDoorZCF
import Derived.Test.YtoolbbibnegdnaaGreatDoorZLastA
import Derived.Test.YtoolbbibnegdnaaGreatDoorZHA
import Derived.Test.YtoolbbibnegdnaaGreatDoorZHD
namespace Go.Proofs.YtoolbbibnegdnaaGreatDoor
open Go.RowKit

attribute [local go_sem ↓] Go.wp_at_zero Go.wp_at_succ
set_option linter.unusedSimpArgs false
set_option linter.unusedVariables false
set_option maxRecDepth 100000 in
theorem frame_rw (t : Array Value) (h : t.size = 77) : ∃ u : Nat → Value, t = List.toArray (u 0 :: u 1 :: u 2 :: u 3 :: u 4 :: u 5 :: u 6 :: u 7 :: u 8 :: u 9 :: u 10 :: u 11 :: u 12 :: u 13 :: u 14 :: u 15 :: u 16 :: u 17 :: u 18 :: u 19 :: u 20 :: u 21 :: u 22 :: u 23 :: u 24 :: u 25 :: u 26 :: u 27 :: u 28 :: u 29 :: u 30 :: u 31 :: u 32 :: u 33 :: u 34 :: u 35 :: u 36 :: u 37 :: u 38 :: u 39 :: u 40 :: u 41 :: u 42 :: u 43 :: u 44 :: u 45 :: u 46 :: u 47 :: u 48 :: u 49 :: u 50 :: u 51 :: u 52 :: u 53 :: u 54 :: u 55 :: u 56 :: u 57 :: u 58 :: u 59 :: u 60 :: u 61 :: u 62 :: u 63 :: u 64 :: u 65 :: u 66 :: u 67 :: u 68 :: u 69 :: u 70 :: u 71 :: u 72 :: u 73 :: u 74 :: u 75 :: u 76 :: []) := by
  refine ⟨fun i => t.getD i undef, ?_⟩
  have e : (List.toArray ((fun i => t.getD i undef) 0 :: (fun i => t.getD i undef) 1 :: (fun i => t.getD i undef) 2 :: (fun i => t.getD i undef) 3 :: (fun i => t.getD i undef) 4 :: (fun i => t.getD i undef) 5 :: (fun i => t.getD i undef) 6 :: (fun i => t.getD i undef) 7 :: (fun i => t.getD i undef) 8 :: (fun i => t.getD i undef) 9 :: (fun i => t.getD i undef) 10 :: (fun i => t.getD i undef) 11 :: (fun i => t.getD i undef) 12 :: (fun i => t.getD i undef) 13 :: (fun i => t.getD i undef) 14 :: (fun i => t.getD i undef) 15 :: (fun i => t.getD i undef) 16 :: (fun i => t.getD i undef) 17 :: (fun i => t.getD i undef) 18 :: (fun i => t.getD i undef) 19 :: (fun i => t.getD i undef) 20 :: (fun i => t.getD i undef) 21 :: (fun i => t.getD i undef) 22 :: (fun i => t.getD i undef) 23 :: (fun i => t.getD i undef) 24 :: (fun i => t.getD i undef) 25 :: (fun i => t.getD i undef) 26 :: (fun i => t.getD i undef) 27 :: (fun i => t.getD i undef) 28 :: (fun i => t.getD i undef) 29 :: (fun i => t.getD i undef) 30 :: (fun i => t.getD i undef) 31 :: (fun i => t.getD i undef) 32 :: (fun i => t.getD i undef) 33 :: (fun i => t.getD i undef) 34 :: (fun i => t.getD i undef) 35 :: (fun i => t.getD i undef) 36 :: (fun i => t.getD i undef) 37 :: (fun i => t.getD i undef) 38 :: (fun i => t.getD i undef) 39 :: (fun i => t.getD i undef) 40 :: (fun i => t.getD i undef) 41 :: (fun i => t.getD i undef) 42 :: (fun i => t.getD i undef) 43 :: (fun i => t.getD i undef) 44 :: (fun i => t.getD i undef) 45 :: (fun i => t.getD i undef) 46 :: (fun i => t.getD i undef) 47 :: (fun i => t.getD i undef) 48 :: (fun i => t.getD i undef) 49 :: (fun i => t.getD i undef) 50 :: (fun i => t.getD i undef) 51 :: (fun i => t.getD i undef) 52 :: (fun i => t.getD i undef) 53 :: (fun i => t.getD i undef) 54 :: (fun i => t.getD i undef) 55 :: (fun i => t.getD i undef) 56 :: (fun i => t.getD i undef) 57 :: (fun i => t.getD i undef) 58 :: (fun i => t.getD i undef) 59 :: (fun i => t.getD i undef) 60 :: (fun i => t.getD i undef) 61 :: (fun i => t.getD i undef) 62 :: (fun i => t.getD i undef) 63 :: (fun i => t.getD i undef) 64 :: (fun i => t.getD i undef) 65 :: (fun i => t.getD i undef) 66 :: (fun i => t.getD i undef) 67 :: (fun i => t.getD i undef) 68 :: (fun i => t.getD i undef) 69 :: (fun i => t.getD i undef) 70 :: (fun i => t.getD i undef) 71 :: (fun i => t.getD i undef) 72 :: (fun i => t.getD i undef) 73 :: (fun i => t.getD i undef) 74 :: (fun i => t.getD i undef) 75 :: (fun i => t.getD i undef) 76 :: []) : Array Value) = ((List.range 77).map fun i => t.getD i undef).toArray := rfl
  refine Eq.trans ?_ e.symm
  apply Array.ext
  · simp [h]
  · intro k h1 h2
    simp [Array.getD, h1]
/-- The slots that matter. -/
structure Vrw where
  v0 : Value
  v1 : Value
  v3 : Value
  v4 : Value
  v5 : Value
  v6 : Value
  v7 : Value
  v8 : Value
  v9 : Value
  v10 : Value
  v12 : Value
  v25 : Value
  v40 : Value
structure Frw (a : Act) (v : Vrw) : Prop where
  size : a.tmps.size = 77
  defers : a.defers = []
  s0 : a.tmps.getD 0 undef = v.v0
  s1 : a.tmps.getD 1 undef = v.v1
  s3 : a.tmps.getD 3 undef = v.v3
  s4 : a.tmps.getD 4 undef = v.v4
  s5 : a.tmps.getD 5 undef = v.v5
  s6 : a.tmps.getD 6 undef = v.v6
  s7 : a.tmps.getD 7 undef = v.v7
  s8 : a.tmps.getD 8 undef = v.v8
  s9 : a.tmps.getD 9 undef = v.v9
  s10 : a.tmps.getD 10 undef = v.v10
  s12 : a.tmps.getD 12 undef = v.v12
  s25 : a.tmps.getD 25 undef = v.v25
  s40 : a.tmps.getD 40 undef = v.v40
set_option maxHeartbeats 8000000 in
set_option maxRecDepth 100000 in
theorem rw_r0 {K : Act → World → Prop} {c : Code} (hc : regOf (Tryz.f11.body.getD .skip) 0 = some c) (a : Act) {v : Vrw} {wq : World} {code n : Int} {ao : Option Addr} {ll cap : Nat} (hF : Frw a v) (h1v : v.v1 = .agg #[.int .i64 code, .int .i64 n, .slice ao ll cap]) (hQ : ∀ a' w' b, Frw a' { v with v3 := .pointer (some ⟨b, 0, none⟩), v4 := .string ⟨#[]⟩, v5 := .bool false } → w'.heap[b]? = some (.cells #[.int .i64 code, .int .i64 n, .slice ao ll cap] 37 (0, 0)) → Below wq.heap.size wq w' → K a' w') :
    Code.wp Tryz.prog c (Exit.then K fun _ _ _ => False) a wq := by
  have HQ := hide hQ
  clear hQ
  obtain ⟨t', d'⟩ := a
  obtain ⟨v0, v1, v3, v4, v5, v6, v7, v8, v9, v10, v12, v25, v40⟩ := v
  simp only at h1v HQ
  subst h1v
  obtain ⟨hs1, hd1, q0, q1, q3, q4, q5, q6, q7, q8, q9, q10, q12, q25, q40⟩ := hF
  obtain ⟨u, hu⟩ := frame_rw t' hs1
  simp only at hd1 q0 q1 q3 q4 q5 q6 q7 q8 q9 q10 q12 q25 q40
  subst hu hd1
  have e0 : u 0 = v0 := q0
  have e1 : u 1 = .agg #[.int .i64 code, .int .i64 n, .slice ao ll cap] := q1
  have e3 : u 3 = v3 := q3
  have e4 : u 4 = v4 := q4
  have e5 : u 5 = v5 := q5
  have e6 : u 6 = v6 := q6
  have e7 : u 7 = v7 := q7
  have e8 : u 8 = v8 := q8
  have e9 : u 9 = v9 := q9
  have e10 : u 10 = v10 := q10
  have e12 : u 12 = v12 := q12
  have e25 : u 25 = v25 := q25
  have e40 : u 40 = v40 := q40
  rw [e0, e1, e3, e4, e5, e6, e7, e8, e9, e10, e12, e25, e40]
  clear q0 e0 q1 e1 q3 e3 q4 e4 q5 e5 q6 e6 q7 e7 q8 e8 q9 e9 q10 e10 q12 e12 q25 e25 q40 e40 hs1
  simp only [Tryz.f11, Option.getD_some, regOf] at hc
  injection hc with hc
  subst hc
  generalize u 2 = u2
  generalize u 11 = u11
  generalize u 13 = u13
  generalize u 14 = u14
  generalize u 15 = u15
  generalize u 16 = u16
  generalize u 17 = u17
  generalize u 18 = u18
  generalize u 19 = u19
  generalize u 20 = u20
  generalize u 21 = u21
  generalize u 22 = u22
  generalize u 23 = u23
  generalize u 24 = u24
  generalize u 26 = u26
  generalize u 27 = u27
  generalize u 28 = u28
  generalize u 29 = u29
  generalize u 30 = u30
  generalize u 31 = u31
  generalize u 32 = u32
  generalize u 33 = u33
  generalize u 34 = u34
  generalize u 35 = u35
  generalize u 36 = u36
  generalize u 37 = u37
  generalize u 38 = u38
  generalize u 39 = u39
  generalize u 41 = u41
  generalize u 42 = u42
  generalize u 43 = u43
  generalize u 44 = u44
  generalize u 45 = u45
  generalize u 46 = u46
  generalize u 47 = u47
  generalize u 48 = u48
  generalize u 49 = u49
  generalize u 50 = u50
  generalize u 51 = u51
  generalize u 52 = u52
  generalize u 53 = u53
  generalize u 54 = u54
  generalize u 55 = u55
  generalize u 56 = u56
  generalize u 57 = u57
  generalize u 58 = u58
  generalize u 59 = u59
  generalize u 60 = u60
  generalize u 61 = u61
  generalize u 62 = u62
  generalize u 63 = u63
  generalize u 64 = u64
  generalize u 65 = u65
  generalize u 66 = u66
  generalize u 67 = u67
  generalize u 68 = u68
  generalize u 69 = u69
  generalize u 70 = u70
  generalize u 71 = u71
  generalize u 72 = u72
  generalize u 73 = u73
  generalize u 74 = u74
  generalize u 75 = u75
  generalize u 76 = u76
  clear u
  go_wp2
  exact HQ.out _ _ wq.heap.size ⟨rfl, rfl, rfl, rfl, rfl, rfl, rfl, rfl, rfl, rfl, rfl, rfl, rfl, rfl, rfl⟩ (heap_alloc_new _ _) ((Below.refl _ _).alloc (Nat.le_refl _) _)
set_option maxHeartbeats 8000000 in
set_option maxRecDepth 100000 in
theorem rw_r1 {K : Act → World → Prop} {c : Code} (hc : regOf (Tryz.f11.body.getD .skip) 1 = some c) (a : Act) {v : Vrw} {wq : World} {b : Nat} {p : Bool} {code n : Int} {ao : Option Addr} {ll cap : Nat} (hF : Frw a v) (h3v : v.v3 = .pointer (some ⟨b, 0, none⟩)) (hB : wq.heap[b]? = some (.cells #[.int .i64 code, .int .i64 n, .slice ao ll cap] 37 (0, 0))) (hC : ∀ W, Below wq.heap.size wq W → Calls Tryz.prog 28 #[.agg #[.int .i64 code, .int .i64 n, .slice ao ll cap]] W fun e w' => e = .returned (.bool p) ∧ Below W.heap.size W w')
    (hQ : ∀ a' w', Frw a' { v with v6 := .bool p } → Below wq.heap.size wq w' → K a' w') :
    Code.wp Tryz.prog c (Exit.then K fun _ _ _ => False) a wq := by
  have HQ := hide hQ
  clear hQ
  obtain ⟨t', d'⟩ := a
  obtain ⟨v0, v1, v3, v4, v5, v6, v7, v8, v9, v10, v12, v25, v40⟩ := v
  simp only at h3v HQ
  subst h3v
  obtain ⟨hs1, hd1, q0, q1, q3, q4, q5, q6, q7, q8, q9, q10, q12, q25, q40⟩ := hF
  obtain ⟨u, hu⟩ := frame_rw t' hs1
  simp only at hd1 q0 q1 q3 q4 q5 q6 q7 q8 q9 q10 q12 q25 q40
  subst hu hd1
  have e0 : u 0 = v0 := q0
  have e1 : u 1 = v1 := q1
  have e3 : u 3 = .pointer (some ⟨b, 0, none⟩) := q3
  have e4 : u 4 = v4 := q4
  have e5 : u 5 = v5 := q5
  have e6 : u 6 = v6 := q6
  have e7 : u 7 = v7 := q7
  have e8 : u 8 = v8 := q8
  have e9 : u 9 = v9 := q9
  have e10 : u 10 = v10 := q10
  have e12 : u 12 = v12 := q12
  have e25 : u 25 = v25 := q25
  have e40 : u 40 = v40 := q40
  rw [e0, e1, e3, e4, e5, e6, e7, e8, e9, e10, e12, e25, e40]
  clear q0 e0 q1 e1 q3 e3 q4 e4 q5 e5 q6 e6 q7 e7 q8 e8 q9 e9 q10 e10 q12 e12 q25 e25 q40 e40 hs1
  simp only [Tryz.f11, Option.getD_some, regOf] at hc
  injection hc with hc
  subst hc
  generalize u 2 = u2
  generalize u 11 = u11
  generalize u 13 = u13
  generalize u 14 = u14
  generalize u 15 = u15
  generalize u 16 = u16
  generalize u 17 = u17
  generalize u 18 = u18
  generalize u 19 = u19
  generalize u 20 = u20
  generalize u 21 = u21
  generalize u 22 = u22
  generalize u 23 = u23
  generalize u 24 = u24
  generalize u 26 = u26
  generalize u 27 = u27
  generalize u 28 = u28
  generalize u 29 = u29
  generalize u 30 = u30
  generalize u 31 = u31
  generalize u 32 = u32
  generalize u 33 = u33
  generalize u 34 = u34
  generalize u 35 = u35
  generalize u 36 = u36
  generalize u 37 = u37
  generalize u 38 = u38
  generalize u 39 = u39
  generalize u 41 = u41
  generalize u 42 = u42
  generalize u 43 = u43
  generalize u 44 = u44
  generalize u 45 = u45
  generalize u 46 = u46
  generalize u 47 = u47
  generalize u 48 = u48
  generalize u 49 = u49
  generalize u 50 = u50
  generalize u 51 = u51
  generalize u 52 = u52
  generalize u 53 = u53
  generalize u 54 = u54
  generalize u 55 = u55
  generalize u 56 = u56
  generalize u 57 = u57
  generalize u 58 = u58
  generalize u 59 = u59
  generalize u 60 = u60
  generalize u 61 = u61
  generalize u 62 = u62
  generalize u 63 = u63
  generalize u 64 = u64
  generalize u 65 = u65
  generalize u 66 = u66
  generalize u 67 = u67
  generalize u 68 = u68
  generalize u 69 = u69
  generalize u 70 = u70
  generalize u 71 = u71
  generalize u 72 = u72
  generalize u 73 = u73
  generalize u 74 = u74
  generalize u 75 = u75
  generalize u 76 = u76
  clear u
  have HC := hide hC
  have c0 := box_cell hB 0 rfl
  have c1 := box_cell hB 1 rfl
  have c2 := box_cell hB 2 rfl
  clear hC hB
  go_wp2_with (go_at_call 28; refine (HC.out _ (Below.refl _ _)).mono ?_; rintro e w1 ⟨rfl, b1⟩)
  exact HQ.out _ _ ⟨rfl, rfl, rfl, rfl, rfl, rfl, rfl, rfl, rfl, rfl, rfl, rfl, rfl, rfl, rfl⟩ b1
set_option maxHeartbeats 8000000 in
set_option maxRecDepth 100000 in
theorem rw_r2 {K : Act → World → Prop} {c : Code} (hc : regOf (Tryz.f11.body.getD .skip) 2 = some c) (a : Act) {v : Vrw} {wq : World} {ask : Int} {p bb : Bool} (hF : Frw a v) (h0v : v.v0 = .int .i64 ask) (h6v : v.v6 = .bool p) (hbb : bb = !(p && decide (0 ≤ ask ∧ ask ≤ 9007199254740991)))
    (hQ : ∀ a', Frw a' { v with v25 := .bool bb } → K a' wq) :
    Code.wp Tryz.prog c (Exit.then K fun _ _ _ => False) a wq := by
  have HQ := hide hQ
  clear hQ
  obtain ⟨t', d'⟩ := a
  obtain ⟨v0, v1, v3, v4, v5, v6, v7, v8, v9, v10, v12, v25, v40⟩ := v
  simp only at h0v h6v HQ
  subst h0v h6v
  obtain ⟨hs1, hd1, q0, q1, q3, q4, q5, q6, q7, q8, q9, q10, q12, q25, q40⟩ := hF
  obtain ⟨u, hu⟩ := frame_rw t' hs1
  simp only at hd1 q0 q1 q3 q4 q5 q6 q7 q8 q9 q10 q12 q25 q40
  subst hu hd1
  have e0 : u 0 = .int .i64 ask := q0
  have e1 : u 1 = v1 := q1
  have e3 : u 3 = v3 := q3
  have e4 : u 4 = v4 := q4
  have e5 : u 5 = v5 := q5
  have e6 : u 6 = .bool p := q6
  have e7 : u 7 = v7 := q7
  have e8 : u 8 = v8 := q8
  have e9 : u 9 = v9 := q9
  have e10 : u 10 = v10 := q10
  have e12 : u 12 = v12 := q12
  have e25 : u 25 = v25 := q25
  have e40 : u 40 = v40 := q40
  rw [e0, e1, e3, e4, e5, e6, e7, e8, e9, e10, e12, e25, e40]
  clear q0 e0 q1 e1 q3 e3 q4 e4 q5 e5 q6 e6 q7 e7 q8 e8 q9 e9 q10 e10 q12 e12 q25 e25 q40 e40 hs1
  simp only [Tryz.f11, Option.getD_some, regOf] at hc
  injection hc with hc
  subst hc
  generalize u 2 = u2
  generalize u 11 = u11
  generalize u 13 = u13
  generalize u 14 = u14
  generalize u 15 = u15
  generalize u 16 = u16
  generalize u 17 = u17
  generalize u 18 = u18
  generalize u 19 = u19
  generalize u 20 = u20
  generalize u 21 = u21
  generalize u 22 = u22
  generalize u 23 = u23
  generalize u 24 = u24
  generalize u 26 = u26
  generalize u 27 = u27
  generalize u 28 = u28
  generalize u 29 = u29
  generalize u 30 = u30
  generalize u 31 = u31
  generalize u 32 = u32
  generalize u 33 = u33
  generalize u 34 = u34
  generalize u 35 = u35
  generalize u 36 = u36
  generalize u 37 = u37
  generalize u 38 = u38
  generalize u 39 = u39
  generalize u 41 = u41
  generalize u 42 = u42
  generalize u 43 = u43
  generalize u 44 = u44
  generalize u 45 = u45
  generalize u 46 = u46
  generalize u 47 = u47
  generalize u 48 = u48
  generalize u 49 = u49
  generalize u 50 = u50
  generalize u 51 = u51
  generalize u 52 = u52
  generalize u 53 = u53
  generalize u 54 = u54
  generalize u 55 = u55
  generalize u 56 = u56
  generalize u 57 = u57
  generalize u 58 = u58
  generalize u 59 = u59
  generalize u 60 = u60
  generalize u 61 = u61
  generalize u 62 = u62
  generalize u 63 = u63
  generalize u 64 = u64
  generalize u 65 = u65
  generalize u 66 = u66
  generalize u 67 = u67
  generalize u 68 = u68
  generalize u 69 = u69
  generalize u 70 = u70
  generalize u 71 = u71
  generalize u 72 = u72
  generalize u 73 = u73
  generalize u 74 = u74
  generalize u 75 = u75
  generalize u 76 = u76
  clear u
  cases p
  · obtain rfl : bb = true := hbb
    go_wp2
    exact HQ.out _ ⟨rfl, rfl, rfl, rfl, rfl, rfl, rfl, rfl, rfl, rfl, rfl, rfl, rfl, rfl, rfl⟩
  · by_cases g0 : ask < 0
    · obtain rfl : bb = true := by rw [hbb]; simp; omega
      clear hbb
      go_wp2
      exact HQ.out _ ⟨rfl, rfl, rfl, rfl, rfl, rfl, rfl, rfl, rfl, rfl, rfl, rfl, rfl, rfl, rfl⟩
    · by_cases g1 : ask > 9007199254740991
      · obtain rfl : bb = true := by rw [hbb]; simp; omega
        clear hbb
        go_wp2
        exact HQ.out _ ⟨rfl, rfl, rfl, rfl, rfl, rfl, rfl, rfl, rfl, rfl, rfl, rfl, rfl, rfl, rfl⟩
      · obtain rfl : bb = false := by rw [hbb]; simp; omega
        clear hbb
        go_wp2
        exact HQ.out _ ⟨rfl, rfl, rfl, rfl, rfl, rfl, rfl, rfl, rfl, rfl, rfl, rfl, rfl, rfl, rfl⟩
set_option maxHeartbeats 8000000 in
set_option maxRecDepth 100000 in
theorem rw_r3 {K : Act → World → Prop} {c : Code} (hc : regOf (Tryz.f11.body.getD .skip) 3 = some c) (a : Act) {v : Vrw} {wq : World}  (hF : Frw a v) (hQ : ∀ a', Frw a' { v with v4 := .string ⟨#[]⟩, v5 := .bool false } → K a' wq) :
    Code.wp Tryz.prog c (Exit.then K fun _ _ _ => False) a wq := by
  have HQ := hide hQ
  clear hQ
  obtain ⟨t', d'⟩ := a
  obtain ⟨v0, v1, v3, v4, v5, v6, v7, v8, v9, v10, v12, v25, v40⟩ := v
  obtain ⟨hs1, hd1, q0, q1, q3, q4, q5, q6, q7, q8, q9, q10, q12, q25, q40⟩ := hF
  obtain ⟨u, hu⟩ := frame_rw t' hs1
  simp only at hd1 q0 q1 q3 q4 q5 q6 q7 q8 q9 q10 q12 q25 q40
  subst hu hd1
  have e0 : u 0 = v0 := q0
  have e1 : u 1 = v1 := q1
  have e3 : u 3 = v3 := q3
  have e4 : u 4 = v4 := q4
  have e5 : u 5 = v5 := q5
  have e6 : u 6 = v6 := q6
  have e7 : u 7 = v7 := q7
  have e8 : u 8 = v8 := q8
  have e9 : u 9 = v9 := q9
  have e10 : u 10 = v10 := q10
  have e12 : u 12 = v12 := q12
  have e25 : u 25 = v25 := q25
  have e40 : u 40 = v40 := q40
  rw [e0, e1, e3, e4, e5, e6, e7, e8, e9, e10, e12, e25, e40]
  clear q0 e0 q1 e1 q3 e3 q4 e4 q5 e5 q6 e6 q7 e7 q8 e8 q9 e9 q10 e10 q12 e12 q25 e25 q40 e40 hs1
  simp only [Tryz.f11, Option.getD_some, regOf] at hc
  injection hc with hc
  subst hc
  generalize u 2 = u2
  generalize u 11 = u11
  generalize u 13 = u13
  generalize u 14 = u14
  generalize u 15 = u15
  generalize u 16 = u16
  generalize u 17 = u17
  generalize u 18 = u18
  generalize u 19 = u19
  generalize u 20 = u20
  generalize u 21 = u21
  generalize u 22 = u22
  generalize u 23 = u23
  generalize u 24 = u24
  generalize u 26 = u26
  generalize u 27 = u27
  generalize u 28 = u28
  generalize u 29 = u29
  generalize u 30 = u30
  generalize u 31 = u31
  generalize u 32 = u32
  generalize u 33 = u33
  generalize u 34 = u34
  generalize u 35 = u35
  generalize u 36 = u36
  generalize u 37 = u37
  generalize u 38 = u38
  generalize u 39 = u39
  generalize u 41 = u41
  generalize u 42 = u42
  generalize u 43 = u43
  generalize u 44 = u44
  generalize u 45 = u45
  generalize u 46 = u46
  generalize u 47 = u47
  generalize u 48 = u48
  generalize u 49 = u49
  generalize u 50 = u50
  generalize u 51 = u51
  generalize u 52 = u52
  generalize u 53 = u53
  generalize u 54 = u54
  generalize u 55 = u55
  generalize u 56 = u56
  generalize u 57 = u57
  generalize u 58 = u58
  generalize u 59 = u59
  generalize u 60 = u60
  generalize u 61 = u61
  generalize u 62 = u62
  generalize u 63 = u63
  generalize u 64 = u64
  generalize u 65 = u65
  generalize u 66 = u66
  generalize u 67 = u67
  generalize u 68 = u68
  generalize u 69 = u69
  generalize u 70 = u70
  generalize u 71 = u71
  generalize u 72 = u72
  generalize u 73 = u73
  generalize u 74 = u74
  generalize u 75 = u75
  generalize u 76 = u76
  clear u
  go_wp2
  exact HQ.out _ ⟨rfl, rfl, rfl, rfl, rfl, rfl, rfl, rfl, rfl, rfl, rfl, rfl, rfl, rfl, rfl⟩
set_option maxHeartbeats 8000000 in
set_option maxRecDepth 100000 in
theorem rw_r4 {K : Act → World → Prop} {c : Code} (hc : regOf (Tryz.f11.body.getD .skip) 4 = some c) (a : Act) {v : Vrw} {wq : World} {ask : Int} {b : Nat} {code n : Int} {ao : Option Addr} {ll cap : Nat} (hF : Frw a v) (h0v : v.v0 = .int .i64 ask) (h3v : v.v3 = .pointer (some ⟨b, 0, none⟩)) (hR : wq.heap[b]? = some (.cells #[.int .i64 code, .int .i64 n, .slice ao ll cap] 37 (0, 0))) (a1 : 0 ≤ ask) (a2 : ask ≤ 9007199254740991) (c1 : 0 ≤ code) (c2 : code ≤ 255) (n1 : -1 ≤ n) (n2 : n ≤ 9007199254740991)
    (hQ : ∀ a' w' g, Frw a' { v with v7 := .slice (some ⟨g, 0, none⟩) 3 3 } → wq.heap.size ≤ g → w'.heap[g]? = some (.cells #[.int .i64 3, .int .u64 ask, .string ⟨#[]⟩, .int .i64 1, .int .u64 code, .string ⟨#[]⟩, .int .i64 3, .int .u64 (n + 1), .string ⟨#[]⟩] 61 (0, 0)) → Below wq.heap.size wq w' → K a' w') :
    Code.wp Tryz.prog c (Exit.then K fun _ _ _ => False) a wq := by
  have HQ := hide hQ
  clear hQ
  obtain ⟨t', d'⟩ := a
  obtain ⟨v0, v1, v3, v4, v5, v6, v7, v8, v9, v10, v12, v25, v40⟩ := v
  simp only at h0v h3v HQ
  subst h0v h3v
  obtain ⟨hs1, hd1, q0, q1, q3, q4, q5, q6, q7, q8, q9, q10, q12, q25, q40⟩ := hF
  obtain ⟨u, hu⟩ := frame_rw t' hs1
  simp only at hd1 q0 q1 q3 q4 q5 q6 q7 q8 q9 q10 q12 q25 q40
  subst hu hd1
  have e0 : u 0 = .int .i64 ask := q0
  have e1 : u 1 = v1 := q1
  have e3 : u 3 = .pointer (some ⟨b, 0, none⟩) := q3
  have e4 : u 4 = v4 := q4
  have e5 : u 5 = v5 := q5
  have e6 : u 6 = v6 := q6
  have e7 : u 7 = v7 := q7
  have e8 : u 8 = v8 := q8
  have e9 : u 9 = v9 := q9
  have e10 : u 10 = v10 := q10
  have e12 : u 12 = v12 := q12
  have e25 : u 25 = v25 := q25
  have e40 : u 40 = v40 := q40
  rw [e0, e1, e3, e4, e5, e6, e7, e8, e9, e10, e12, e25, e40]
  clear q0 e0 q1 e1 q3 e3 q4 e4 q5 e5 q6 e6 q7 e7 q8 e8 q9 e9 q10 e10 q12 e12 q25 e25 q40 e40 hs1
  simp only [Tryz.f11, Option.getD_some, regOf] at hc
  injection hc with hc
  subst hc
  generalize u 2 = u2
  generalize u 11 = u11
  generalize u 13 = u13
  generalize u 14 = u14
  generalize u 15 = u15
  generalize u 16 = u16
  generalize u 17 = u17
  generalize u 18 = u18
  generalize u 19 = u19
  generalize u 20 = u20
  generalize u 21 = u21
  generalize u 22 = u22
  generalize u 23 = u23
  generalize u 24 = u24
  generalize u 26 = u26
  generalize u 27 = u27
  generalize u 28 = u28
  generalize u 29 = u29
  generalize u 30 = u30
  generalize u 31 = u31
  generalize u 32 = u32
  generalize u 33 = u33
  generalize u 34 = u34
  generalize u 35 = u35
  generalize u 36 = u36
  generalize u 37 = u37
  generalize u 38 = u38
  generalize u 39 = u39
  generalize u 41 = u41
  generalize u 42 = u42
  generalize u 43 = u43
  generalize u 44 = u44
  generalize u 45 = u45
  generalize u 46 = u46
  generalize u 47 = u47
  generalize u 48 = u48
  generalize u 49 = u49
  generalize u 50 = u50
  generalize u 51 = u51
  generalize u 52 = u52
  generalize u 53 = u53
  generalize u 54 = u54
  generalize u 55 = u55
  generalize u 56 = u56
  generalize u 57 = u57
  generalize u 58 = u58
  generalize u 59 = u59
  generalize u 60 = u60
  generalize u 61 = u61
  generalize u 62 = u62
  generalize u 63 = u63
  generalize u 64 = u64
  generalize u 65 = u65
  generalize u 66 = u66
  generalize u 67 = u67
  generalize u 68 = u68
  generalize u 69 = u69
  generalize u 70 = u70
  generalize u 71 = u71
  generalize u 72 = u72
  generalize u 73 = u73
  generalize u 74 = u74
  generalize u 75 = u75
  generalize u 76 = u76
  clear u
  have WK : Hid (IntKind.u64.wrap ask = ask ∧ IntKind.u64.wrap code = code ∧ IntKind.u64.wrap (IntKind.i64.wrap (n + 1)) = n + 1) := ⟨by rw [IntKind.wrap_u64]; omega, by rw [IntKind.wrap_u64]; omega, by rw [IntKind.wrap_u64, IntKind.wrap_i64]; omega⟩
  refine wp_region_phi (by kernel_rfl) (ns := 77) (uses := (fun i => match i with | 0 => [26] | 1 => [27] | 2 => [28] | 3 => [29] | 4 => [30] | 5 => [31] | 6 => [32] | 7 => [33] | 8 => [34] | 9 => [35] | 10 => [7] | _ => [])) (by kernel_rfl) (by kernel_rfl) (fun _ w w' => Below w.heap.size w w') (fun w => Below wq.heap.size wq w) (fun _ _ _ h r => h.trans (r.mono h.size)) ((Below.refl _ _).drew) (fun i => match i with | 0 => fun s w => s 26 = .int .i64 ask | 1 => fun s w => s 27 = .agg #[.int .i64 3, .int .u64 (IntKind.u64.wrap ask), .string ⟨#[]⟩] | 2 => fun s w => s 28 = .pointer (some ⟨b, 0, none⟩) | 3 => fun s w => s 29 = .int .i64 code | 4 => fun s w => s 30 = .agg #[.int .i64 1, .int .u64 (IntKind.u64.wrap code), .string ⟨#[]⟩] | 5 => fun s w => s 31 = .pointer (some ⟨b, 1, none⟩) | 6 => fun s w => s 32 = .int .i64 n | 7 => fun s w => s 33 = .int .i64 (IntKind.i64.wrap (n + 1)) | 8 => fun s w => s 34 = .agg #[.int .i64 3, .int .u64 (IntKind.u64.wrap (IntKind.i64.wrap (n + 1))), .string ⟨#[]⟩] | 9 => fun s w => ∃ g, s 35 = .slice (some ⟨g, 0, none⟩) 3 3 ∧ wq.heap.size ≤ g ∧ w.heap[g]? = some (.cells #[.int .i64 3, .int .u64 (IntKind.u64.wrap ask), .string ⟨#[]⟩, .int .i64 1, .int .u64 (IntKind.u64.wrap code), .string ⟨#[]⟩, .int .i64 3, .int .u64 (IntKind.u64.wrap (IntKind.i64.wrap (n + 1))), .string ⟨#[]⟩] 61 (0, 0)) | 10 => fun s w => ∃ g, s 7 = .slice (some ⟨g, 0, none⟩) 3 3 ∧ wq.heap.size ≤ g ∧ w.heap[g]? = some (.cells #[.int .i64 3, .int .u64 (IntKind.u64.wrap ask), .string ⟨#[]⟩, .int .i64 1, .int .u64 (IntKind.u64.wrap code), .string ⟨#[]⟩, .int .i64 3, .int .u64 (IntKind.u64.wrap (IntKind.i64.wrap (n + 1))), .string ⟨#[]⟩] 61 (0, 0)) | _ => fun _ _ => True) ?phc ?phh ?pstep ?pdone
  case phc =>
    intro i s s' w hx h
    match i, hx, h with
    | 0, hx, h =>
      have e26 := hx 26 (by simp)
      first | exact (show _ from by simp only [← e26] at *; exact h) | (simp only [e26] at h; exact h)
    | 1, hx, h =>
      have e27 := hx 27 (by simp)
      first | exact (show _ from by simp only [← e27] at *; exact h) | (simp only [e27] at h; exact h)
    | 2, hx, h =>
      have e28 := hx 28 (by simp)
      first | exact (show _ from by simp only [← e28] at *; exact h) | (simp only [e28] at h; exact h)
    | 3, hx, h =>
      have e29 := hx 29 (by simp)
      first | exact (show _ from by simp only [← e29] at *; exact h) | (simp only [e29] at h; exact h)
    | 4, hx, h =>
      have e30 := hx 30 (by simp)
      first | exact (show _ from by simp only [← e30] at *; exact h) | (simp only [e30] at h; exact h)
    | 5, hx, h =>
      have e31 := hx 31 (by simp)
      first | exact (show _ from by simp only [← e31] at *; exact h) | (simp only [e31] at h; exact h)
    | 6, hx, h =>
      have e32 := hx 32 (by simp)
      first | exact (show _ from by simp only [← e32] at *; exact h) | (simp only [e32] at h; exact h)
    | 7, hx, h =>
      have e33 := hx 33 (by simp)
      first | exact (show _ from by simp only [← e33] at *; exact h) | (simp only [e33] at h; exact h)
    | 8, hx, h =>
      have e34 := hx 34 (by simp)
      first | exact (show _ from by simp only [← e34] at *; exact h) | (simp only [e34] at h; exact h)
    | 9, hx, h =>
      have e35 := hx 35 (by simp)
      first | exact (show _ from by simp only [← e35] at *; exact h) | (simp only [e35] at h; exact h)
    | 10, hx, h =>
      have e7 := hx 7 (by simp)
      first | exact (show _ from by simp only [← e7] at *; exact h) | (simp only [e7] at h; exact h)
    | (n + 11), _, h => exact h
  case phh =>
    intro i j s w w' hij h hb r
    match i, hij, h with
    | 0, hij, h =>
      exact h
    | 1, hij, h =>
      exact h
    | 2, hij, h =>
      exact h
    | 3, hij, h =>
      exact h
    | 4, hij, h =>
      exact h
    | 5, hij, h =>
      exact h
    | 6, hij, h =>
      exact h
    | 7, hij, h =>
      exact h
    | 8, hij, h =>
      exact h
    | 9, hij, h =>
      obtain ⟨g, h1, h0, h2⟩ := h
      exact ⟨g, h1, h0, (r.block _ (heap_lt h2)).trans h2⟩
    | 10, hij, h =>
      obtain ⟨g, h1, h0, h2⟩ := h
      exact ⟨g, h1, h0, (r.block _ (heap_lt h2)).trans h2⟩
    | (n + 11), _, h => exact h
  case pstep =>
    intro i o ho a' w' hsa hb hd
    match i, ho with
    | 0, ho =>
      obtain rfl := Option.some.inj ho
      try dsimp only at hd
      have g0 : a'.tmps.getD 0 undef = .int .i64 ask := hsa.rest 0 (by rfl)
      refine wpOp_of rfl rfl ?_
      refine op_run (v := .int .i64 ask) (w' := w') ?_ ⟨_, rfl, ?_, ?_⟩
      · simp only [execOp, Act.eval, List.map_toArray, List.map_cons, List.map_nil, g0]; first | (go_simp; done) | rfl
      · try dsimp only
        exact (slots_put (ns := 77) (hsa.size.trans rfl) (by decide))
      · exact Below.refl _ _
    | 1, ho =>
      obtain rfl := Option.some.inj ho
      try dsimp only at hd
      have d0 : a'.tmps.getD 26 undef = .int .i64 ask := hd 0 (by rfl)
      refine wpOp_of rfl rfl ?_
      refine op_call 29 _ _ rfl (enters_of Tryz.func29 (by kernel_rfl) rfl) [.int .i64 ask] (by simp only [List.map, Act.eval, d0]) (rlong ask w') ?_
      rintro e w'' ⟨rfl, b2⟩
      refine ⟨_, rfl, _, rfl, ?_, ?_⟩
      · try dsimp only
        exact (slots_put (ns := 77) (hsa.size.trans rfl) (by decide))
      · exact b2
    | 2, ho =>
      obtain rfl := Option.some.inj ho
      try dsimp only at hd
      have g3 : a'.tmps.getD 3 undef = .pointer (some ⟨b, 0, none⟩) := hsa.rest 3 (by rfl)
      refine wpOp_of rfl rfl ?_
      refine op_run (v := .pointer (some ⟨b, 0, none⟩)) (w' := w') ?_ ⟨_, rfl, ?_, ?_⟩
      · simp only [execOp, Act.eval, List.map_toArray, List.map_cons, List.map_nil, g3]; first | (go_simp; done) | rfl
      · try dsimp only
        exact (slots_put (ns := 77) (hsa.size.trans rfl) (by decide))
      · exact Below.refl _ _
    | 3, ho =>
      obtain rfl := Option.some.inj ho
      try dsimp only at hd
      have d2 : a'.tmps.getD 28 undef = .pointer (some ⟨b, 0, none⟩) := hd 2 (by rfl)
      have y0 : w'.cell? ⟨b, 0, none⟩ = some (.int .i64 code) := (hb.cell (p := ⟨b, 0, none⟩) (heap_lt hR)).trans (box_cell hR 0 rfl)
      refine wpOp_of rfl rfl ?_
      refine op_run (v := .int .i64 code) (w' := w') ?_ ⟨_, rfl, ?_, ?_⟩
      · simp only [execOp, Act.eval, List.map_toArray, List.map_cons, List.map_nil, d2, y0]; first | (go_simp; done) | rfl
      · try dsimp only
        exact (slots_put (ns := 77) (hsa.size.trans rfl) (by decide))
      · exact Below.refl _ _
    | 4, ho =>
      obtain rfl := Option.some.inj ho
      try dsimp only at hd
      have d3 : a'.tmps.getD 29 undef = .int .i64 code := hd 3 (by rfl)
      refine wpOp_of rfl rfl ?_
      refine op_call 30 _ _ rfl (enters_of Tryz.func30 (by kernel_rfl) rfl) [.int .i64 code] (by simp only [List.map, Act.eval, d3]) (rsmall code w') ?_
      rintro e w'' ⟨rfl, b2⟩
      refine ⟨_, rfl, _, rfl, ?_, ?_⟩
      · try dsimp only
        exact (slots_put (ns := 77) (hsa.size.trans rfl) (by decide))
      · exact b2
    | 5, ho =>
      obtain rfl := Option.some.inj ho
      try dsimp only at hd
      have g3 : a'.tmps.getD 3 undef = .pointer (some ⟨b, 0, none⟩) := hsa.rest 3 (by rfl)
      refine wpOp_of rfl rfl ?_
      refine op_run (v := .pointer (some ⟨b, 1, none⟩)) (w' := w') ?_ ⟨_, rfl, ?_, ?_⟩
      · simp only [execOp, Act.eval, List.map_toArray, List.map_cons, List.map_nil, g3]; first | (go_simp; done) | rfl
      · try dsimp only
        exact (slots_put (ns := 77) (hsa.size.trans rfl) (by decide))
      · exact Below.refl _ _
    | 6, ho =>
      obtain rfl := Option.some.inj ho
      try dsimp only at hd
      have d5 : a'.tmps.getD 31 undef = .pointer (some ⟨b, 1, none⟩) := hd 5 (by rfl)
      have y1 : w'.cell? ⟨b, 1, none⟩ = some (.int .i64 n) := (hb.cell (p := ⟨b, 1, none⟩) (heap_lt hR)).trans (box_cell hR 1 rfl)
      refine wpOp_of rfl rfl ?_
      refine op_run (v := .int .i64 n) (w' := w') ?_ ⟨_, rfl, ?_, ?_⟩
      · simp only [execOp, Act.eval, List.map_toArray, List.map_cons, List.map_nil, d5, y1]; first | (go_simp; done) | rfl
      · try dsimp only
        exact (slots_put (ns := 77) (hsa.size.trans rfl) (by decide))
      · exact Below.refl _ _
    | 7, ho =>
      obtain rfl := Option.some.inj ho
      try dsimp only at hd
      have d6 : a'.tmps.getD 32 undef = .int .i64 n := hd 6 (by rfl)
      refine wpOp_of rfl rfl ?_
      refine op_run (v := .int .i64 (IntKind.i64.wrap (n + 1))) (w' := w') ?_ ⟨_, rfl, ?_, ?_⟩
      · simp only [execOp, Act.eval, List.map_toArray, List.map_cons, List.map_nil, d6]; first | (go_simp; done) | rfl
      · try dsimp only
        exact (slots_put (ns := 77) (hsa.size.trans rfl) (by decide))
      · exact Below.refl _ _
    | 8, ho =>
      obtain rfl := Option.some.inj ho
      try dsimp only at hd
      have d7 : a'.tmps.getD 33 undef = .int .i64 (IntKind.i64.wrap (n + 1)) := hd 7 (by rfl)
      refine wpOp_of rfl rfl ?_
      refine op_call 29 _ _ rfl (enters_of Tryz.func29 (by kernel_rfl) rfl) [.int .i64 (IntKind.i64.wrap (n + 1))] (by simp only [List.map, Act.eval, d7]) (rlong (IntKind.i64.wrap (n + 1)) w') ?_
      rintro e w'' ⟨rfl, b2⟩
      refine ⟨_, rfl, _, rfl, ?_, ?_⟩
      · try dsimp only
        exact (slots_put (ns := 77) (hsa.size.trans rfl) (by decide))
      · exact b2
    | 9, ho =>
      obtain rfl := Option.some.inj ho
      try dsimp only at hd
      have d1 : a'.tmps.getD 27 undef = .agg #[.int .i64 3, .int .u64 (IntKind.u64.wrap ask), .string ⟨#[]⟩] := hd 1 (by rfl)
      have d4 : a'.tmps.getD 30 undef = .agg #[.int .i64 1, .int .u64 (IntKind.u64.wrap code), .string ⟨#[]⟩] := hd 4 (by rfl)
      have d8 : a'.tmps.getD 34 undef = .agg #[.int .i64 3, .int .u64 (IntKind.u64.wrap (IntKind.i64.wrap (n + 1))), .string ⟨#[]⟩] := hd 8 (by rfl)
      refine wpOp_of rfl rfl ?_
      refine op_run (v := Value.slice (some ⟨w'.heap.size, 0, none⟩) 3 3) (w' := w'.alloc (.cells #[.int .i64 3, .int .u64 (IntKind.u64.wrap ask), .string ⟨#[]⟩, .int .i64 1, .int .u64 (IntKind.u64.wrap code), .string ⟨#[]⟩, .int .i64 3, .int .u64 (IntKind.u64.wrap (IntKind.i64.wrap (n + 1))), .string ⟨#[]⟩] 61)) ?_ ⟨_, rfl, ?_, ?_⟩
      · simp only [execOp, Act.eval, List.map_toArray, List.map_cons, List.map_nil, d1, d4, d8]; first | (go_simp; done) | rfl
      · try dsimp only
        exact ⟨_, (slots_put (ns := 77) (hsa.size.trans rfl) (by decide)), hb.size, heap_alloc_new _ _⟩
      · exact (Below.refl _ _).alloc (Nat.le_refl _) _
    | 10, ho =>
      obtain rfl := Option.some.inj ho
      try dsimp only at hd
      have d9 : ∃ g, a'.tmps.getD 35 undef = .slice (some ⟨g, 0, none⟩) 3 3 ∧ wq.heap.size ≤ g ∧ w'.heap[g]? = some (.cells #[.int .i64 3, .int .u64 (IntKind.u64.wrap ask), .string ⟨#[]⟩, .int .i64 1, .int .u64 (IntKind.u64.wrap code), .string ⟨#[]⟩, .int .i64 3, .int .u64 (IntKind.u64.wrap (IntKind.i64.wrap (n + 1))), .string ⟨#[]⟩] 61 (0, 0)) := hd 9 (by rfl)
      obtain ⟨g, d9, h0, h2⟩ := d9
      refine wpOp_of rfl rfl ?_
      refine op_run (v := .slice (some ⟨g, 0, none⟩) 3 3) (w' := w') ?_ ⟨_, rfl, ?_, ?_⟩
      · simp only [execOp, Act.eval, List.map_toArray, List.map_cons, List.map_nil, d9]; first | (go_simp; done) | rfl
      · try dsimp only
        exact ⟨g, (slots_put (ns := 77) (hsa.size.trans rfl) (by decide)), h0, h2⟩
      · exact Below.refl _ _
    | (n + 11), ho => exact absurd ho (by simp)
  case pdone =>
    intro a' w' hsa hb hd
    have d0 : a'.tmps.getD 26 undef = .int .i64 ask := hd 0 (by decide)
    have d1 : a'.tmps.getD 27 undef = .agg #[.int .i64 3, .int .u64 (IntKind.u64.wrap ask), .string ⟨#[]⟩] := hd 1 (by decide)
    have d2 : a'.tmps.getD 28 undef = .pointer (some ⟨b, 0, none⟩) := hd 2 (by decide)
    have d3 : a'.tmps.getD 29 undef = .int .i64 code := hd 3 (by decide)
    have d4 : a'.tmps.getD 30 undef = .agg #[.int .i64 1, .int .u64 (IntKind.u64.wrap code), .string ⟨#[]⟩] := hd 4 (by decide)
    have d5 : a'.tmps.getD 31 undef = .pointer (some ⟨b, 1, none⟩) := hd 5 (by decide)
    have d6 : a'.tmps.getD 32 undef = .int .i64 n := hd 6 (by decide)
    have d7 : a'.tmps.getD 33 undef = .int .i64 (IntKind.i64.wrap (n + 1)) := hd 7 (by decide)
    have d8 : a'.tmps.getD 34 undef = .agg #[.int .i64 3, .int .u64 (IntKind.u64.wrap (IntKind.i64.wrap (n + 1))), .string ⟨#[]⟩] := hd 8 (by decide)
    have d9 : ∃ g, a'.tmps.getD 35 undef = .slice (some ⟨g, 0, none⟩) 3 3 ∧ wq.heap.size ≤ g ∧ w'.heap[g]? = some (.cells #[.int .i64 3, .int .u64 (IntKind.u64.wrap ask), .string ⟨#[]⟩, .int .i64 1, .int .u64 (IntKind.u64.wrap code), .string ⟨#[]⟩, .int .i64 3, .int .u64 (IntKind.u64.wrap (IntKind.i64.wrap (n + 1))), .string ⟨#[]⟩] 61 (0, 0)) := hd 9 (by decide)
    have d10 : ∃ g, a'.tmps.getD 7 undef = .slice (some ⟨g, 0, none⟩) 3 3 ∧ wq.heap.size ≤ g ∧ w'.heap[g]? = some (.cells #[.int .i64 3, .int .u64 (IntKind.u64.wrap ask), .string ⟨#[]⟩, .int .i64 1, .int .u64 (IntKind.u64.wrap code), .string ⟨#[]⟩, .int .i64 3, .int .u64 (IntKind.u64.wrap (IntKind.i64.wrap (n + 1))), .string ⟨#[]⟩] 61 (0, 0)) := hd 10 (by decide)
    obtain ⟨g, d10, h0, h2⟩ := d10
    obtain ⟨wk, ws, wn⟩ := WK.out
    rw [wk, ws, wn] at h2
    exact HQ.out _ _ g ⟨hsa.size.trans rfl, hsa.defers.trans rfl, hsa.rest 0 (by rfl), hsa.rest 1 (by rfl), hsa.rest 3 (by rfl), hsa.rest 4 (by rfl), hsa.rest 5 (by rfl), hsa.rest 6 (by rfl), d10, hsa.rest 8 (by rfl), hsa.rest 9 (by rfl), hsa.rest 10 (by rfl), hsa.rest 12 (by rfl), hsa.rest 25 (by rfl), hsa.rest 40 (by rfl)⟩ h0 h2 hb
set_option maxHeartbeats 8000000 in
set_option maxRecDepth 100000 in
theorem rw_r5 {K : Act → World → Prop} {c : Code} (hc : regOf (Tryz.f11.body.getD .skip) 5 = some c) (a : Act) {v : Vrw} {wq : World}  (hF : Frw a v) (hQ : ∀ a', Frw a' { v with v8 := .int .i64 0 } → K a' wq) :
    Code.wp Tryz.prog c (Exit.then K fun _ _ _ => False) a wq := by
  have HQ := hide hQ
  clear hQ
  obtain ⟨t', d'⟩ := a
  obtain ⟨v0, v1, v3, v4, v5, v6, v7, v8, v9, v10, v12, v25, v40⟩ := v
  obtain ⟨hs1, hd1, q0, q1, q3, q4, q5, q6, q7, q8, q9, q10, q12, q25, q40⟩ := hF
  obtain ⟨u, hu⟩ := frame_rw t' hs1
  simp only at hd1 q0 q1 q3 q4 q5 q6 q7 q8 q9 q10 q12 q25 q40
  subst hu hd1
  have e0 : u 0 = v0 := q0
  have e1 : u 1 = v1 := q1
  have e3 : u 3 = v3 := q3
  have e4 : u 4 = v4 := q4
  have e5 : u 5 = v5 := q5
  have e6 : u 6 = v6 := q6
  have e7 : u 7 = v7 := q7
  have e8 : u 8 = v8 := q8
  have e9 : u 9 = v9 := q9
  have e10 : u 10 = v10 := q10
  have e12 : u 12 = v12 := q12
  have e25 : u 25 = v25 := q25
  have e40 : u 40 = v40 := q40
  rw [e0, e1, e3, e4, e5, e6, e7, e8, e9, e10, e12, e25, e40]
  clear q0 e0 q1 e1 q3 e3 q4 e4 q5 e5 q6 e6 q7 e7 q8 e8 q9 e9 q10 e10 q12 e12 q25 e25 q40 e40 hs1
  simp only [Tryz.f11, Option.getD_some, regOf] at hc
  injection hc with hc
  subst hc
  generalize u 2 = u2
  generalize u 11 = u11
  generalize u 13 = u13
  generalize u 14 = u14
  generalize u 15 = u15
  generalize u 16 = u16
  generalize u 17 = u17
  generalize u 18 = u18
  generalize u 19 = u19
  generalize u 20 = u20
  generalize u 21 = u21
  generalize u 22 = u22
  generalize u 23 = u23
  generalize u 24 = u24
  generalize u 26 = u26
  generalize u 27 = u27
  generalize u 28 = u28
  generalize u 29 = u29
  generalize u 30 = u30
  generalize u 31 = u31
  generalize u 32 = u32
  generalize u 33 = u33
  generalize u 34 = u34
  generalize u 35 = u35
  generalize u 36 = u36
  generalize u 37 = u37
  generalize u 38 = u38
  generalize u 39 = u39
  generalize u 41 = u41
  generalize u 42 = u42
  generalize u 43 = u43
  generalize u 44 = u44
  generalize u 45 = u45
  generalize u 46 = u46
  generalize u 47 = u47
  generalize u 48 = u48
  generalize u 49 = u49
  generalize u 50 = u50
  generalize u 51 = u51
  generalize u 52 = u52
  generalize u 53 = u53
  generalize u 54 = u54
  generalize u 55 = u55
  generalize u 56 = u56
  generalize u 57 = u57
  generalize u 58 = u58
  generalize u 59 = u59
  generalize u 60 = u60
  generalize u 61 = u61
  generalize u 62 = u62
  generalize u 63 = u63
  generalize u 64 = u64
  generalize u 65 = u65
  generalize u 66 = u66
  generalize u 67 = u67
  generalize u 68 = u68
  generalize u 69 = u69
  generalize u 70 = u70
  generalize u 71 = u71
  generalize u 72 = u72
  generalize u 73 = u73
  generalize u 74 = u74
  generalize u 75 = u75
  generalize u 76 = u76
  clear u
  go_wp2
  exact HQ.out _ ⟨rfl, rfl, rfl, rfl, rfl, rfl, rfl, rfl, rfl, rfl, rfl, rfl, rfl, rfl, rfl⟩
set_option maxHeartbeats 8000000 in
set_option maxRecDepth 100000 in
theorem rw_r6 {K : Act → World → Prop} {c : Code} (hc : regOf (Tryz.f11.body.getD .skip) 6 = some c) (a : Act) {v : Vrw} {wq : World} {b k : Nat} {bb : Bool} {code n : Int} {ao : Option Addr} {ll cap : Nat} (hF : Frw a v) (h3v : v.v3 = .pointer (some ⟨b, 0, none⟩)) (h8v : v.v8 = .int .i64 (k : Int)) (hB : wq.heap[b]? = some (.cells #[.int .i64 code, .int .i64 n, .slice ao ll cap] 37 (0, 0))) (hbb : decide (k < ll) = bb)
    (hQ : ∀ a', Frw a' { v with v40 := .bool bb } → K a' wq) :
    Code.wp Tryz.prog c (Exit.then K fun _ _ _ => False) a wq := by
  have HQ := hide hQ
  clear hQ
  obtain ⟨t', d'⟩ := a
  obtain ⟨v0, v1, v3, v4, v5, v6, v7, v8, v9, v10, v12, v25, v40⟩ := v
  simp only at h3v h8v HQ
  subst h3v h8v
  obtain ⟨hs1, hd1, q0, q1, q3, q4, q5, q6, q7, q8, q9, q10, q12, q25, q40⟩ := hF
  obtain ⟨u, hu⟩ := frame_rw t' hs1
  simp only at hd1 q0 q1 q3 q4 q5 q6 q7 q8 q9 q10 q12 q25 q40
  subst hu hd1
  have e0 : u 0 = v0 := q0
  have e1 : u 1 = v1 := q1
  have e3 : u 3 = .pointer (some ⟨b, 0, none⟩) := q3
  have e4 : u 4 = v4 := q4
  have e5 : u 5 = v5 := q5
  have e6 : u 6 = v6 := q6
  have e7 : u 7 = v7 := q7
  have e8 : u 8 = .int .i64 (k : Int) := q8
  have e9 : u 9 = v9 := q9
  have e10 : u 10 = v10 := q10
  have e12 : u 12 = v12 := q12
  have e25 : u 25 = v25 := q25
  have e40 : u 40 = v40 := q40
  rw [e0, e1, e3, e4, e5, e6, e7, e8, e9, e10, e12, e25, e40]
  clear q0 e0 q1 e1 q3 e3 q4 e4 q5 e5 q6 e6 q7 e7 q8 e8 q9 e9 q10 e10 q12 e12 q25 e25 q40 e40 hs1
  simp only [Tryz.f11, Option.getD_some, regOf] at hc
  injection hc with hc
  subst hc
  generalize u 2 = u2
  generalize u 11 = u11
  generalize u 13 = u13
  generalize u 14 = u14
  generalize u 15 = u15
  generalize u 16 = u16
  generalize u 17 = u17
  generalize u 18 = u18
  generalize u 19 = u19
  generalize u 20 = u20
  generalize u 21 = u21
  generalize u 22 = u22
  generalize u 23 = u23
  generalize u 24 = u24
  generalize u 26 = u26
  generalize u 27 = u27
  generalize u 28 = u28
  generalize u 29 = u29
  generalize u 30 = u30
  generalize u 31 = u31
  generalize u 32 = u32
  generalize u 33 = u33
  generalize u 34 = u34
  generalize u 35 = u35
  generalize u 36 = u36
  generalize u 37 = u37
  generalize u 38 = u38
  generalize u 39 = u39
  generalize u 41 = u41
  generalize u 42 = u42
  generalize u 43 = u43
  generalize u 44 = u44
  generalize u 45 = u45
  generalize u 46 = u46
  generalize u 47 = u47
  generalize u 48 = u48
  generalize u 49 = u49
  generalize u 50 = u50
  generalize u 51 = u51
  generalize u 52 = u52
  generalize u 53 = u53
  generalize u 54 = u54
  generalize u 55 = u55
  generalize u 56 = u56
  generalize u 57 = u57
  generalize u 58 = u58
  generalize u 59 = u59
  generalize u 60 = u60
  generalize u 61 = u61
  generalize u 62 = u62
  generalize u 63 = u63
  generalize u 64 = u64
  generalize u 65 = u65
  generalize u 66 = u66
  generalize u 67 = u67
  generalize u 68 = u68
  generalize u 69 = u69
  generalize u 70 = u70
  generalize u 71 = u71
  generalize u 72 = u72
  generalize u 73 = u73
  generalize u 74 = u74
  generalize u 75 = u75
  generalize u 76 = u76
  clear u
  have c0 := box_cell hB 0 rfl
  have c1 := box_cell hB 1 rfl
  have c2 := box_cell hB 2 rfl
  clear hB
  subst hbb
  go_wp2
  exact HQ.out _ ⟨rfl, rfl, rfl, rfl, rfl, rfl, rfl, rfl, rfl, rfl, rfl, rfl, rfl, rfl, rfl⟩
set_option maxHeartbeats 8000000 in
set_option maxRecDepth 100000 in
theorem rw_r7 {K : Act → World → Prop} {c : Code} (hc : regOf (Tryz.f11.body.getD .skip) 7 = some c) (a : Act) {v : Vrw} {wq : World} {k : Nat} (hF : Frw a v) (h8v : v.v8 = .int .i64 (k : Int)) (hk : k < 1000)
    (hQ : ∀ a', Frw a' { v with v8 := .int .i64 ((k + 1 : Nat) : Int) } → K a' wq) :
    Code.wp Tryz.prog c (Exit.then K fun _ _ _ => False) a wq := by
  have HQ := hide hQ
  clear hQ
  obtain ⟨t', d'⟩ := a
  obtain ⟨v0, v1, v3, v4, v5, v6, v7, v8, v9, v10, v12, v25, v40⟩ := v
  simp only at h8v HQ
  subst h8v
  obtain ⟨hs1, hd1, q0, q1, q3, q4, q5, q6, q7, q8, q9, q10, q12, q25, q40⟩ := hF
  obtain ⟨u, hu⟩ := frame_rw t' hs1
  simp only at hd1 q0 q1 q3 q4 q5 q6 q7 q8 q9 q10 q12 q25 q40
  subst hu hd1
  have e0 : u 0 = v0 := q0
  have e1 : u 1 = v1 := q1
  have e3 : u 3 = v3 := q3
  have e4 : u 4 = v4 := q4
  have e5 : u 5 = v5 := q5
  have e6 : u 6 = v6 := q6
  have e7 : u 7 = v7 := q7
  have e8 : u 8 = .int .i64 (k : Int) := q8
  have e9 : u 9 = v9 := q9
  have e10 : u 10 = v10 := q10
  have e12 : u 12 = v12 := q12
  have e25 : u 25 = v25 := q25
  have e40 : u 40 = v40 := q40
  rw [e0, e1, e3, e4, e5, e6, e7, e8, e9, e10, e12, e25, e40]
  clear q0 e0 q1 e1 q3 e3 q4 e4 q5 e5 q6 e6 q7 e7 q8 e8 q9 e9 q10 e10 q12 e12 q25 e25 q40 e40 hs1
  simp only [Tryz.f11, Option.getD_some, regOf] at hc
  injection hc with hc
  subst hc
  generalize u 2 = u2
  generalize u 11 = u11
  generalize u 13 = u13
  generalize u 14 = u14
  generalize u 15 = u15
  generalize u 16 = u16
  generalize u 17 = u17
  generalize u 18 = u18
  generalize u 19 = u19
  generalize u 20 = u20
  generalize u 21 = u21
  generalize u 22 = u22
  generalize u 23 = u23
  generalize u 24 = u24
  generalize u 26 = u26
  generalize u 27 = u27
  generalize u 28 = u28
  generalize u 29 = u29
  generalize u 30 = u30
  generalize u 31 = u31
  generalize u 32 = u32
  generalize u 33 = u33
  generalize u 34 = u34
  generalize u 35 = u35
  generalize u 36 = u36
  generalize u 37 = u37
  generalize u 38 = u38
  generalize u 39 = u39
  generalize u 41 = u41
  generalize u 42 = u42
  generalize u 43 = u43
  generalize u 44 = u44
  generalize u 45 = u45
  generalize u 46 = u46
  generalize u 47 = u47
  generalize u 48 = u48
  generalize u 49 = u49
  generalize u 50 = u50
  generalize u 51 = u51
  generalize u 52 = u52
  generalize u 53 = u53
  generalize u 54 = u54
  generalize u 55 = u55
  generalize u 56 = u56
  generalize u 57 = u57
  generalize u 58 = u58
  generalize u 59 = u59
  generalize u 60 = u60
  generalize u 61 = u61
  generalize u 62 = u62
  generalize u 63 = u63
  generalize u 64 = u64
  generalize u 65 = u65
  generalize u 66 = u66
  generalize u 67 = u67
  generalize u 68 = u68
  generalize u 69 = u69
  generalize u 70 = u70
  generalize u 71 = u71
  generalize u 72 = u72
  generalize u 73 = u73
  generalize u 74 = u74
  generalize u 75 = u75
  generalize u 76 = u76
  clear u
  go_wp2
  exact HQ.out _ ⟨rfl, rfl, rfl, rfl, rfl, rfl, rfl, rfl, rfl, by go_num, rfl, rfl, rfl, rfl, rfl⟩
set_option maxHeartbeats 8000000 in
set_option maxRecDepth 100000 in
theorem rw_r8 {K : Act → World → Prop} {c : Code} (hc : regOf (Tryz.f11.body.getD .skip) 8 = some c) (a : Act) {v : Vrw} {wq : World} {b g off k : Nat} {code n : Int} {ll cap : Nat} {xo xs : Int} {xp xk xv : ByteArray} (hF : Frw a v) (h3v : v.v3 = .pointer (some ⟨b, 0, none⟩)) (h8v : v.v8 = .int .i64 (k : Int)) (hB : wq.heap[b]? = some (.cells #[.int .i64 code, .int .i64 n, .slice (some ⟨g, off, none⟩) ll cap] 37 (0, 0))) (hlt : (k : Int) < (ll : Int)) (y0 : wq.cell? ⟨g, off + k * 5, none⟩ = some (.int .i64 xo)) (y1 : wq.cell? ⟨g, off + k * 5 + 1, none⟩ = some (.string xp)) (y2 : wq.cell? ⟨g, off + k * 5 + 2, none⟩ = some (.int .i64 xs)) (y3 : wq.cell? ⟨g, off + k * 5 + 3, none⟩ = some (.string xk)) (y4 : wq.cell? ⟨g, off + k * 5 + 4, none⟩ = some (.string xv))
    (hQ : ∀ a' w' q, Frw a' { v with v9 := .pointer (some ⟨q, 0, none⟩) } → w'.heap[q]? = some (.cells #[.int .i64 xo, .string xp, .int .i64 xs, .string xk, .string xv] 46 (0, 0)) → Below wq.heap.size wq w' → K a' w') :
    Code.wp Tryz.prog c (Exit.then K fun _ _ _ => False) a wq := by
  have HQ := hide hQ
  clear hQ
  obtain ⟨t', d'⟩ := a
  obtain ⟨v0, v1, v3, v4, v5, v6, v7, v8, v9, v10, v12, v25, v40⟩ := v
  simp only at h3v h8v HQ
  subst h3v h8v
  obtain ⟨hs1, hd1, q0, q1, q3, q4, q5, q6, q7, q8, q9, q10, q12, q25, q40⟩ := hF
  obtain ⟨u, hu⟩ := frame_rw t' hs1
  simp only at hd1 q0 q1 q3 q4 q5 q6 q7 q8 q9 q10 q12 q25 q40
  subst hu hd1
  have e0 : u 0 = v0 := q0
  have e1 : u 1 = v1 := q1
  have e3 : u 3 = .pointer (some ⟨b, 0, none⟩) := q3
  have e4 : u 4 = v4 := q4
  have e5 : u 5 = v5 := q5
  have e6 : u 6 = v6 := q6
  have e7 : u 7 = v7 := q7
  have e8 : u 8 = .int .i64 (k : Int) := q8
  have e9 : u 9 = v9 := q9
  have e10 : u 10 = v10 := q10
  have e12 : u 12 = v12 := q12
  have e25 : u 25 = v25 := q25
  have e40 : u 40 = v40 := q40
  rw [e0, e1, e3, e4, e5, e6, e7, e8, e9, e10, e12, e25, e40]
  clear q0 e0 q1 e1 q3 e3 q4 e4 q5 e5 q6 e6 q7 e7 q8 e8 q9 e9 q10 e10 q12 e12 q25 e25 q40 e40 hs1
  simp only [Tryz.f11, Option.getD_some, regOf] at hc
  injection hc with hc
  subst hc
  generalize u 2 = u2
  generalize u 11 = u11
  generalize u 13 = u13
  generalize u 14 = u14
  generalize u 15 = u15
  generalize u 16 = u16
  generalize u 17 = u17
  generalize u 18 = u18
  generalize u 19 = u19
  generalize u 20 = u20
  generalize u 21 = u21
  generalize u 22 = u22
  generalize u 23 = u23
  generalize u 24 = u24
  generalize u 26 = u26
  generalize u 27 = u27
  generalize u 28 = u28
  generalize u 29 = u29
  generalize u 30 = u30
  generalize u 31 = u31
  generalize u 32 = u32
  generalize u 33 = u33
  generalize u 34 = u34
  generalize u 35 = u35
  generalize u 36 = u36
  generalize u 37 = u37
  generalize u 38 = u38
  generalize u 39 = u39
  generalize u 41 = u41
  generalize u 42 = u42
  generalize u 43 = u43
  generalize u 44 = u44
  generalize u 45 = u45
  generalize u 46 = u46
  generalize u 47 = u47
  generalize u 48 = u48
  generalize u 49 = u49
  generalize u 50 = u50
  generalize u 51 = u51
  generalize u 52 = u52
  generalize u 53 = u53
  generalize u 54 = u54
  generalize u 55 = u55
  generalize u 56 = u56
  generalize u 57 = u57
  generalize u 58 = u58
  generalize u 59 = u59
  generalize u 60 = u60
  generalize u 61 = u61
  generalize u 62 = u62
  generalize u 63 = u63
  generalize u 64 = u64
  generalize u 65 = u65
  generalize u 66 = u66
  generalize u 67 = u67
  generalize u 68 = u68
  generalize u 69 = u69
  generalize u 70 = u70
  generalize u 71 = u71
  generalize u 72 = u72
  generalize u 73 = u73
  generalize u 74 = u74
  generalize u 75 = u75
  generalize u 76 = u76
  clear u
  have c0 := box_cell hB 0 rfl
  have c1 := box_cell hB 1 rfl
  have c2 := box_cell hB 2 rfl
  clear hB
  go_wp2
  exact HQ.out _ _ wq.heap.size ⟨rfl, rfl, rfl, rfl, rfl, rfl, rfl, rfl, rfl, rfl, rfl, rfl, rfl, rfl, rfl⟩ (heap_alloc_new _ _) ((Below.refl _ _).alloc (Nat.le_refl _) _)
set_option maxHeartbeats 8000000 in
set_option maxRecDepth 100000 in
theorem rw_r10 {K : Act → World → Prop} {c : Code} (hc : regOf (Tryz.f11.body.getD .skip) 10 = some c) (a : Act) {v : Vrw} {wq : World} {oo : Option Addr} {ol oc : Nat} {ev : Int} {T : ByteArray} (hF : Frw a v) (h7v : v.v7 = .slice oo ol oc) (hC : ∀ W, Below wq.heap.size wq W → Calls Tryz.prog 32 #[.slice oo ol oc] W fun e w' => e = .returned (.tuple #[.string T, .int .i64 ev]) ∧ Below W.heap.size W w')
    (hQ : ∀ a' w', Frw a' { v with v10 := .string T } → Below wq.heap.size wq w' → K a' w') :
    Code.wp Tryz.prog c (Exit.then K fun _ _ _ => False) a wq := by
  have HQ := hide hQ
  clear hQ
  obtain ⟨t', d'⟩ := a
  obtain ⟨v0, v1, v3, v4, v5, v6, v7, v8, v9, v10, v12, v25, v40⟩ := v
  simp only at h7v HQ
  subst h7v
  obtain ⟨hs1, hd1, q0, q1, q3, q4, q5, q6, q7, q8, q9, q10, q12, q25, q40⟩ := hF
  obtain ⟨u, hu⟩ := frame_rw t' hs1
  simp only at hd1 q0 q1 q3 q4 q5 q6 q7 q8 q9 q10 q12 q25 q40
  subst hu hd1
  have e0 : u 0 = v0 := q0
  have e1 : u 1 = v1 := q1
  have e3 : u 3 = v3 := q3
  have e4 : u 4 = v4 := q4
  have e5 : u 5 = v5 := q5
  have e6 : u 6 = v6 := q6
  have e7 : u 7 = .slice oo ol oc := q7
  have e8 : u 8 = v8 := q8
  have e9 : u 9 = v9 := q9
  have e10 : u 10 = v10 := q10
  have e12 : u 12 = v12 := q12
  have e25 : u 25 = v25 := q25
  have e40 : u 40 = v40 := q40
  rw [e0, e1, e3, e4, e5, e6, e7, e8, e9, e10, e12, e25, e40]
  clear q0 e0 q1 e1 q3 e3 q4 e4 q5 e5 q6 e6 q7 e7 q8 e8 q9 e9 q10 e10 q12 e12 q25 e25 q40 e40 hs1
  simp only [Tryz.f11, Option.getD_some, regOf] at hc
  injection hc with hc
  subst hc
  generalize u 2 = u2
  generalize u 11 = u11
  generalize u 13 = u13
  generalize u 14 = u14
  generalize u 15 = u15
  generalize u 16 = u16
  generalize u 17 = u17
  generalize u 18 = u18
  generalize u 19 = u19
  generalize u 20 = u20
  generalize u 21 = u21
  generalize u 22 = u22
  generalize u 23 = u23
  generalize u 24 = u24
  generalize u 26 = u26
  generalize u 27 = u27
  generalize u 28 = u28
  generalize u 29 = u29
  generalize u 30 = u30
  generalize u 31 = u31
  generalize u 32 = u32
  generalize u 33 = u33
  generalize u 34 = u34
  generalize u 35 = u35
  generalize u 36 = u36
  generalize u 37 = u37
  generalize u 38 = u38
  generalize u 39 = u39
  generalize u 41 = u41
  generalize u 42 = u42
  generalize u 43 = u43
  generalize u 44 = u44
  generalize u 45 = u45
  generalize u 46 = u46
  generalize u 47 = u47
  generalize u 48 = u48
  generalize u 49 = u49
  generalize u 50 = u50
  generalize u 51 = u51
  generalize u 52 = u52
  generalize u 53 = u53
  generalize u 54 = u54
  generalize u 55 = u55
  generalize u 56 = u56
  generalize u 57 = u57
  generalize u 58 = u58
  generalize u 59 = u59
  generalize u 60 = u60
  generalize u 61 = u61
  generalize u 62 = u62
  generalize u 63 = u63
  generalize u 64 = u64
  generalize u 65 = u65
  generalize u 66 = u66
  generalize u 67 = u67
  generalize u 68 = u68
  generalize u 69 = u69
  generalize u 70 = u70
  generalize u 71 = u71
  generalize u 72 = u72
  generalize u 73 = u73
  generalize u 74 = u74
  generalize u 75 = u75
  generalize u 76 = u76
  clear u
  have HC := hide hC
  clear hC
  go_wp2_with (go_at_call 32; refine (HC.out _ (Below.refl _ _)).mono ?_; rintro e w1 ⟨rfl, b1⟩)
  exact HQ.out _ _ ⟨rfl, rfl, rfl, rfl, rfl, rfl, rfl, rfl, rfl, rfl, rfl, rfl, rfl, rfl, rfl⟩ b1
set_option maxHeartbeats 8000000 in
set_option maxRecDepth 100000 in
theorem rw_r11 {K : Act → World → Prop} {c : Code} (hc : regOf (Tryz.f11.body.getD .skip) 11 = some c) (a : Act) {v : Vrw} {wq : World} {sv : ByteArray} {ev : Bool} {T : ByteArray} (hF : Frw a v) (h10v : v.v10 = .string sv) (hC : ∀ W, Below wq.heap.size wq W → Calls Tryz.prog 21 #[.string sv] W fun e w' => e = .returned (.tuple #[.string T, .bool ev]) ∧ Below W.heap.size W w')
    (hQ : ∀ a' w', Frw a' { v with v12 := .string T } → Below wq.heap.size wq w' → K a' w') :
    Code.wp Tryz.prog c (Exit.then K fun _ _ _ => False) a wq := by
  have HQ := hide hQ
  clear hQ
  obtain ⟨t', d'⟩ := a
  obtain ⟨v0, v1, v3, v4, v5, v6, v7, v8, v9, v10, v12, v25, v40⟩ := v
  simp only at h10v HQ
  subst h10v
  obtain ⟨hs1, hd1, q0, q1, q3, q4, q5, q6, q7, q8, q9, q10, q12, q25, q40⟩ := hF
  obtain ⟨u, hu⟩ := frame_rw t' hs1
  simp only at hd1 q0 q1 q3 q4 q5 q6 q7 q8 q9 q10 q12 q25 q40
  subst hu hd1
  have e0 : u 0 = v0 := q0
  have e1 : u 1 = v1 := q1
  have e3 : u 3 = v3 := q3
  have e4 : u 4 = v4 := q4
  have e5 : u 5 = v5 := q5
  have e6 : u 6 = v6 := q6
  have e7 : u 7 = v7 := q7
  have e8 : u 8 = v8 := q8
  have e9 : u 9 = v9 := q9
  have e10 : u 10 = .string sv := q10
  have e12 : u 12 = v12 := q12
  have e25 : u 25 = v25 := q25
  have e40 : u 40 = v40 := q40
  rw [e0, e1, e3, e4, e5, e6, e7, e8, e9, e10, e12, e25, e40]
  clear q0 e0 q1 e1 q3 e3 q4 e4 q5 e5 q6 e6 q7 e7 q8 e8 q9 e9 q10 e10 q12 e12 q25 e25 q40 e40 hs1
  simp only [Tryz.f11, Option.getD_some, regOf] at hc
  injection hc with hc
  subst hc
  generalize u 2 = u2
  generalize u 11 = u11
  generalize u 13 = u13
  generalize u 14 = u14
  generalize u 15 = u15
  generalize u 16 = u16
  generalize u 17 = u17
  generalize u 18 = u18
  generalize u 19 = u19
  generalize u 20 = u20
  generalize u 21 = u21
  generalize u 22 = u22
  generalize u 23 = u23
  generalize u 24 = u24
  generalize u 26 = u26
  generalize u 27 = u27
  generalize u 28 = u28
  generalize u 29 = u29
  generalize u 30 = u30
  generalize u 31 = u31
  generalize u 32 = u32
  generalize u 33 = u33
  generalize u 34 = u34
  generalize u 35 = u35
  generalize u 36 = u36
  generalize u 37 = u37
  generalize u 38 = u38
  generalize u 39 = u39
  generalize u 41 = u41
  generalize u 42 = u42
  generalize u 43 = u43
  generalize u 44 = u44
  generalize u 45 = u45
  generalize u 46 = u46
  generalize u 47 = u47
  generalize u 48 = u48
  generalize u 49 = u49
  generalize u 50 = u50
  generalize u 51 = u51
  generalize u 52 = u52
  generalize u 53 = u53
  generalize u 54 = u54
  generalize u 55 = u55
  generalize u 56 = u56
  generalize u 57 = u57
  generalize u 58 = u58
  generalize u 59 = u59
  generalize u 60 = u60
  generalize u 61 = u61
  generalize u 62 = u62
  generalize u 63 = u63
  generalize u 64 = u64
  generalize u 65 = u65
  generalize u 66 = u66
  generalize u 67 = u67
  generalize u 68 = u68
  generalize u 69 = u69
  generalize u 70 = u70
  generalize u 71 = u71
  generalize u 72 = u72
  generalize u 73 = u73
  generalize u 74 = u74
  generalize u 75 = u75
  generalize u 76 = u76
  clear u
  have HC := hide hC
  clear hC
  go_wp2_with (go_at_call 21; refine (HC.out _ (Below.refl _ _)).mono ?_; rintro e w1 ⟨rfl, b1⟩)
  exact HQ.out _ _ ⟨rfl, rfl, rfl, rfl, rfl, rfl, rfl, rfl, rfl, rfl, rfl, rfl, rfl, rfl, rfl⟩ b1
set_option maxHeartbeats 8000000 in
set_option maxRecDepth 100000 in
theorem rw_r12 {K : Act → World → Prop} {c : Code} (hc : regOf (Tryz.f11.body.getD .skip) 12 = some c) (a : Act) {v : Vrw} {wq : World} {T : ByteArray} (hF : Frw a v) (h12v : v.v12 = .string T) (hQ : ∀ a', Frw a' { v with v4 := .string T, v5 := .bool true } → K a' wq) :
    Code.wp Tryz.prog c (Exit.then K fun _ _ _ => False) a wq := by
  have HQ := hide hQ
  clear hQ
  obtain ⟨t', d'⟩ := a
  obtain ⟨v0, v1, v3, v4, v5, v6, v7, v8, v9, v10, v12, v25, v40⟩ := v
  simp only at h12v HQ
  subst h12v
  obtain ⟨hs1, hd1, q0, q1, q3, q4, q5, q6, q7, q8, q9, q10, q12, q25, q40⟩ := hF
  obtain ⟨u, hu⟩ := frame_rw t' hs1
  simp only at hd1 q0 q1 q3 q4 q5 q6 q7 q8 q9 q10 q12 q25 q40
  subst hu hd1
  have e0 : u 0 = v0 := q0
  have e1 : u 1 = v1 := q1
  have e3 : u 3 = v3 := q3
  have e4 : u 4 = v4 := q4
  have e5 : u 5 = v5 := q5
  have e6 : u 6 = v6 := q6
  have e7 : u 7 = v7 := q7
  have e8 : u 8 = v8 := q8
  have e9 : u 9 = v9 := q9
  have e10 : u 10 = v10 := q10
  have e12 : u 12 = .string T := q12
  have e25 : u 25 = v25 := q25
  have e40 : u 40 = v40 := q40
  rw [e0, e1, e3, e4, e5, e6, e7, e8, e9, e10, e12, e25, e40]
  clear q0 e0 q1 e1 q3 e3 q4 e4 q5 e5 q6 e6 q7 e7 q8 e8 q9 e9 q10 e10 q12 e12 q25 e25 q40 e40 hs1
  simp only [Tryz.f11, Option.getD_some, regOf] at hc
  injection hc with hc
  subst hc
  generalize u 2 = u2
  generalize u 11 = u11
  generalize u 13 = u13
  generalize u 14 = u14
  generalize u 15 = u15
  generalize u 16 = u16
  generalize u 17 = u17
  generalize u 18 = u18
  generalize u 19 = u19
  generalize u 20 = u20
  generalize u 21 = u21
  generalize u 22 = u22
  generalize u 23 = u23
  generalize u 24 = u24
  generalize u 26 = u26
  generalize u 27 = u27
  generalize u 28 = u28
  generalize u 29 = u29
  generalize u 30 = u30
  generalize u 31 = u31
  generalize u 32 = u32
  generalize u 33 = u33
  generalize u 34 = u34
  generalize u 35 = u35
  generalize u 36 = u36
  generalize u 37 = u37
  generalize u 38 = u38
  generalize u 39 = u39
  generalize u 41 = u41
  generalize u 42 = u42
  generalize u 43 = u43
  generalize u 44 = u44
  generalize u 45 = u45
  generalize u 46 = u46
  generalize u 47 = u47
  generalize u 48 = u48
  generalize u 49 = u49
  generalize u 50 = u50
  generalize u 51 = u51
  generalize u 52 = u52
  generalize u 53 = u53
  generalize u 54 = u54
  generalize u 55 = u55
  generalize u 56 = u56
  generalize u 57 = u57
  generalize u 58 = u58
  generalize u 59 = u59
  generalize u 60 = u60
  generalize u 61 = u61
  generalize u 62 = u62
  generalize u 63 = u63
  generalize u 64 = u64
  generalize u 65 = u65
  generalize u 66 = u66
  generalize u 67 = u67
  generalize u 68 = u68
  generalize u 69 = u69
  generalize u 70 = u70
  generalize u 71 = u71
  generalize u 72 = u72
  generalize u 73 = u73
  generalize u 74 = u74
  generalize u 75 = u75
  generalize u 76 = u76
  clear u
  go_wp2
  exact HQ.out _ ⟨rfl, rfl, rfl, rfl, rfl, rfl, rfl, rfl, rfl, rfl, rfl, rfl, rfl, rfl, rfl⟩
theorem rw_ret {W : World} {a : Act} {v : Vrw} {T : ByteArray} {p : Bool} {R : Ending → World → Prop} (hF : Frw a v) (h0 : v.v4 = .string T) (h1 : v.v5 = .bool p) (h : R (.returned (.tuple #[.string T, .bool p])) W) :
    bodyPost Tryz.prog Tryz.f11 R .ret a W := by
  have g0 := slot_get (hF.s4.trans h0)
  have g1 := slot_get (hF.s5.trans h1)
  refine bodyPost_ret (v := .tuple #[.string T, .bool p]) ?_ hF.defers h
  simp [results, Tryz.results11, go_sem, g0, g1]
end Go.Proofs.YtoolbbibnegdnaaGreatDoor
/-
  carillonref14's Answer: its ninth region (mkrm.py)
-/
namespace Go.Proofs.YtoolbbibnegdnaaGreatDoor
open Go.RowKit

attribute [local go_sem ↓] Go.wp_at_zero Go.wp_at_succ
set_option linter.unusedSimpArgs false
set_option linter.unusedVariables false
theorem infoIt : (Tryz.prog.info? 61).map (fun i => (i.zero, i.size, i.bytes)) = some (some (.agg #[.int .i64 0, .int .u64 0, .string ⟨#[]⟩]), 3, 32) := by kernel_rfl
theorem size_put7 (a : Act) (v : Value) : (a.put (some 7) v).tmps.size = a.tmps.size := by simp [Act.put]
set_option maxHeartbeats 8000000 in
set_option maxRecDepth 100000 in
theorem rw_r9 {K : Act → World → Prop} {c : Code} (hc : regOf (Tryz.f11.body.getD .skip) 9 = some c) (a : Act) {v : Vrw} {wq : World} {oo : Option Addr} {ol oc x n0 : Nat} {xs0 : List Value} {xo xs : Int} {xp xk xv : ByteArray} (hF : Frw a v) (h7v : v.v7 = .slice oo ol oc) (h9v : v.v9 = .pointer (some ⟨x, 0, none⟩)) (hX : wq.heap[x]? = some (.cells #[.int .i64 xo, .string xp, .int .i64 xs, .string xk, .string xv] 46 (0, 0))) (hrow : wq.ownsRow n0 61 3 (.slice oo ol oc) ol xs0) (hn0 : n0 ≤ wq.heap.size) (hk : ol ≤ 10000) (o1 : 0 ≤ xo) (o2 : xo ≤ 9007199254740991) (s1 : 0 ≤ xs) (s2 : xs ≤ 9007199254740991)
    (hQ : ∀ a' w' ro2 rc2, Frw a' { v with v7 := .slice ro2 (ol + 5) rc2 } → w'.ownsRow n0 61 3 (.slice ro2 (ol + 5) rc2) (ol + 5) (xs0 ++ [.int .i64 3, .int .u64 xo, .string ⟨#[]⟩, .int .i64 4, .int .u64 0, .string xp, .int .i64 3, .int .u64 xs, .string ⟨#[]⟩, .int .i64 4, .int .u64 0, .string xk, .int .i64 4, .int .u64 0, .string xv]) → Touch (fun i => (Value.slice oo ol oc).ownBlock = some i) wq w' → K a' w') :
    Code.wp Tryz.prog c (Exit.then K fun _ _ _ => False) a wq := by
  have HQ := hide hQ
  clear hQ
  obtain ⟨t', d'⟩ := a
  obtain ⟨v0, v1, v3, v4, v5, v6, v7, v8, v9, v10, v12, v25, v40⟩ := v
  simp only at h7v h9v HQ
  subst h7v h9v
  obtain ⟨hs1, hd1, q0, q1, q3, q4, q5, q6, q7, q8, q9, q10, q12, q25, q40⟩ := hF
  obtain ⟨u, hu⟩ := frame_rw t' hs1
  simp only at hd1 q0 q1 q3 q4 q5 q6 q7 q8 q9 q10 q12 q25 q40
  subst hu hd1
  have e0 : u 0 = v0 := q0
  have e1 : u 1 = v1 := q1
  have e3 : u 3 = v3 := q3
  have e4 : u 4 = v4 := q4
  have e5 : u 5 = v5 := q5
  have e6 : u 6 = v6 := q6
  have e7 : u 7 = .slice oo ol oc := q7
  have e8 : u 8 = v8 := q8
  have e9 : u 9 = .pointer (some ⟨x, 0, none⟩) := q9
  have e10 : u 10 = v10 := q10
  have e12 : u 12 = v12 := q12
  have e25 : u 25 = v25 := q25
  have e40 : u 40 = v40 := q40
  rw [e0, e1, e3, e4, e5, e6, e7, e8, e9, e10, e12, e25, e40]
  clear q0 e0 q1 e1 q3 e3 q4 e4 q5 e5 q6 e6 q7 e7 q8 e8 q9 e9 q10 e10 q12 e12 q25 e25 q40 e40 hs1
  simp only [Tryz.f11, Option.getD_some, regOf] at hc
  injection hc with hc
  subst hc
  generalize u 2 = u2
  generalize u 11 = u11
  generalize u 13 = u13
  generalize u 14 = u14
  generalize u 15 = u15
  generalize u 16 = u16
  generalize u 17 = u17
  generalize u 18 = u18
  generalize u 19 = u19
  generalize u 20 = u20
  generalize u 21 = u21
  generalize u 22 = u22
  generalize u 23 = u23
  generalize u 24 = u24
  generalize u 26 = u26
  generalize u 27 = u27
  generalize u 28 = u28
  generalize u 29 = u29
  generalize u 30 = u30
  generalize u 31 = u31
  generalize u 32 = u32
  generalize u 33 = u33
  generalize u 34 = u34
  generalize u 35 = u35
  generalize u 36 = u36
  generalize u 37 = u37
  generalize u 38 = u38
  generalize u 39 = u39
  generalize u 41 = u41
  generalize u 42 = u42
  generalize u 43 = u43
  generalize u 44 = u44
  generalize u 45 = u45
  generalize u 46 = u46
  generalize u 47 = u47
  generalize u 48 = u48
  generalize u 49 = u49
  generalize u 50 = u50
  generalize u 51 = u51
  generalize u 52 = u52
  generalize u 53 = u53
  generalize u 54 = u54
  generalize u 55 = u55
  generalize u 56 = u56
  generalize u 57 = u57
  generalize u 58 = u58
  generalize u 59 = u59
  generalize u 60 = u60
  generalize u 61 = u61
  generalize u 62 = u62
  generalize u 63 = u63
  generalize u 64 = u64
  generalize u 65 = u65
  generalize u 66 = u66
  generalize u 67 = u67
  generalize u 68 = u68
  generalize u 69 = u69
  generalize u 70 = u70
  generalize u 71 = u71
  generalize u 72 = u72
  generalize u 73 = u73
  generalize u 74 = u74
  generalize u 75 = u75
  generalize u 76 = u76
  clear u
  obtain ⟨i0, hi, hz0, hz1, hz2⟩ := info_parts infoIt
  have WK : Hid (IntKind.u64.wrap xo = xo ∧ IntKind.u64.wrap xs = xs) := ⟨by rw [IntKind.wrap_u64]; omega, by rw [IntKind.wrap_u64]; omega⟩
  have hnx : ¬ (Value.slice oo ol oc).ownBlock = some x := fun e => row_type hrow e hX (by decide)
  have hrl : ∀ i, (Value.slice oo ol oc).ownBlock = some i → i < wq.heap.size := fun i e => row_lt hrow e
  refine wp_region_lastA 18 rfl (by kernel_rfl) (by kernel_rfl) rfl (by kernel_rfl) ?_
  intro ops' hops'
  simp only [idleA, List.setIfInBounds_toArray, List.set_cons_succ, List.set_cons_zero] at hops'
  subst hops'
  refine wpAny_pivot (ns := 77) (uses := (fun i => match i with | 0 => [48] | 1 => [49] | 2 => [50] | 3 => [51] | 4 => [52] | 5 => [53] | 6 => [54] | 7 => [55] | 8 => [56] | 9 => [57] | 10 => [58] | 11 => [59] | 12 => [60] | 13 => [61] | 14 => [62] | 15 => [63] | 16 => [64] | 17 => [65] | 18 => [] | _ => [])) (by kernel_rfl) (by kernel_rfl) (fun j w w' => (j ≠ 17 → Below w.heap.size w w') ∧ (j = 17 → w.grownBy w' (Value.slice oo ol oc).ownBlock)) 17 (by decide) (fun bb w => (bb = false → Below wq.heap.size wq w) ∧ Touch (fun i => (Value.slice oo ol oc).ownBlock = some i) wq w) (fun j b w w' hj h r => ⟨fun e => (h.1 e).trans ((r.1 hj).mono (h.1 e).size), h.2.below (r.1 hj)⟩) (fun w w' h r => ⟨fun e => (by cases e), h.2.grown (r.2 rfl) (fun i e _ => e)⟩) ⟨fun _ => (Below.refl _ _).drew, (Touch.refl _ _).drew⟩ (fun i => match i with | 0 => fun s w => s 48 = .slice oo ol oc | 1 => fun s w => s 49 = .pointer (some ⟨x, 0, none⟩) | 2 => fun s w => s 50 = .int .i64 xo | 3 => fun s w => s 51 = .agg #[.int .i64 3, .int .u64 (IntKind.u64.wrap xo), .string ⟨#[]⟩] | 4 => fun s w => s 52 = .pointer (some ⟨x, 1, none⟩) | 5 => fun s w => s 53 = .string xp | 6 => fun s w => s 54 = .agg #[.int .i64 4, .int .u64 0, .string xp] | 7 => fun s w => s 55 = .pointer (some ⟨x, 2, none⟩) | 8 => fun s w => s 56 = .int .i64 xs | 9 => fun s w => s 57 = .agg #[.int .i64 3, .int .u64 (IntKind.u64.wrap xs), .string ⟨#[]⟩] | 10 => fun s w => s 58 = .pointer (some ⟨x, 3, none⟩) | 11 => fun s w => s 59 = .string xk | 12 => fun s w => s 60 = .agg #[.int .i64 4, .int .u64 0, .string xk] | 13 => fun s w => s 61 = .pointer (some ⟨x, 4, none⟩) | 14 => fun s w => s 62 = .string xv | 15 => fun s w => s 63 = .agg #[.int .i64 4, .int .u64 0, .string xv] | 16 => fun s w => ∃ gb, s 64 = .slice (some ⟨gb, 0, none⟩) 5 5 ∧ wq.heap.size ≤ gb ∧ w.heap[gb]? = some (.cells #[.int .i64 3, .int .u64 (IntKind.u64.wrap xo), .string ⟨#[]⟩, .int .i64 4, .int .u64 0, .string xp, .int .i64 3, .int .u64 (IntKind.u64.wrap xs), .string ⟨#[]⟩, .int .i64 4, .int .u64 0, .string xk, .int .i64 4, .int .u64 0, .string xv] 61 (0, 0)) | 17 => fun s w => ∃ ro2 rc2, s 65 = .slice ro2 (ol + 5) rc2 ∧ w.ownsRow n0 61 3 (.slice ro2 (ol + 5) rc2) (ol + 5) (xs0 ++ [.int .i64 3, .int .u64 (IntKind.u64.wrap xo), .string ⟨#[]⟩, .int .i64 4, .int .u64 0, .string xp, .int .i64 3, .int .u64 (IntKind.u64.wrap xs), .string ⟨#[]⟩, .int .i64 4, .int .u64 0, .string xk, .int .i64 4, .int .u64 0, .string xv]) | 18 => fun s w => True | _ => fun _ _ => True) ?phc ?phh ?pstep ?pdone
  case phc =>
    intro i s s' w hx h
    match i, hx, h with
    | 0, hx, h =>
      have e48 := hx 48 (by simp)
      first | exact (show _ from by simp only [← e48] at *; exact h) | (simp only [e48] at h; exact h)
    | 1, hx, h =>
      have e49 := hx 49 (by simp)
      first | exact (show _ from by simp only [← e49] at *; exact h) | (simp only [e49] at h; exact h)
    | 2, hx, h =>
      have e50 := hx 50 (by simp)
      first | exact (show _ from by simp only [← e50] at *; exact h) | (simp only [e50] at h; exact h)
    | 3, hx, h =>
      have e51 := hx 51 (by simp)
      first | exact (show _ from by simp only [← e51] at *; exact h) | (simp only [e51] at h; exact h)
    | 4, hx, h =>
      have e52 := hx 52 (by simp)
      first | exact (show _ from by simp only [← e52] at *; exact h) | (simp only [e52] at h; exact h)
    | 5, hx, h =>
      have e53 := hx 53 (by simp)
      first | exact (show _ from by simp only [← e53] at *; exact h) | (simp only [e53] at h; exact h)
    | 6, hx, h =>
      have e54 := hx 54 (by simp)
      first | exact (show _ from by simp only [← e54] at *; exact h) | (simp only [e54] at h; exact h)
    | 7, hx, h =>
      have e55 := hx 55 (by simp)
      first | exact (show _ from by simp only [← e55] at *; exact h) | (simp only [e55] at h; exact h)
    | 8, hx, h =>
      have e56 := hx 56 (by simp)
      first | exact (show _ from by simp only [← e56] at *; exact h) | (simp only [e56] at h; exact h)
    | 9, hx, h =>
      have e57 := hx 57 (by simp)
      first | exact (show _ from by simp only [← e57] at *; exact h) | (simp only [e57] at h; exact h)
    | 10, hx, h =>
      have e58 := hx 58 (by simp)
      first | exact (show _ from by simp only [← e58] at *; exact h) | (simp only [e58] at h; exact h)
    | 11, hx, h =>
      have e59 := hx 59 (by simp)
      first | exact (show _ from by simp only [← e59] at *; exact h) | (simp only [e59] at h; exact h)
    | 12, hx, h =>
      have e60 := hx 60 (by simp)
      first | exact (show _ from by simp only [← e60] at *; exact h) | (simp only [e60] at h; exact h)
    | 13, hx, h =>
      have e61 := hx 61 (by simp)
      first | exact (show _ from by simp only [← e61] at *; exact h) | (simp only [e61] at h; exact h)
    | 14, hx, h =>
      have e62 := hx 62 (by simp)
      first | exact (show _ from by simp only [← e62] at *; exact h) | (simp only [e62] at h; exact h)
    | 15, hx, h =>
      have e63 := hx 63 (by simp)
      first | exact (show _ from by simp only [← e63] at *; exact h) | (simp only [e63] at h; exact h)
    | 16, hx, h =>
      have e64 := hx 64 (by simp)
      first | exact (show _ from by simp only [← e64] at *; exact h) | (simp only [e64] at h; exact h)
    | 17, hx, h =>
      have e65 := hx 65 (by simp)
      first | exact (show _ from by simp only [← e65] at *; exact h) | (simp only [e65] at h; exact h)
    | 18, hx, h =>
      exact h
    | (n + 19), _, h => exact h
  case phh =>
    intro i j s w w' hij h r
    match i, hij, h with
    | 0, hij, h =>
      exact h
    | 1, hij, h =>
      exact h
    | 2, hij, h =>
      exact h
    | 3, hij, h =>
      exact h
    | 4, hij, h =>
      exact h
    | 5, hij, h =>
      exact h
    | 6, hij, h =>
      exact h
    | 7, hij, h =>
      exact h
    | 8, hij, h =>
      exact h
    | 9, hij, h =>
      exact h
    | 10, hij, h =>
      exact h
    | 11, hij, h =>
      exact h
    | 12, hij, h =>
      exact h
    | 13, hij, h =>
      exact h
    | 14, hij, h =>
      exact h
    | 15, hij, h =>
      exact h
    | 16, hij, h =>
      obtain ⟨gb, h1, h2, h3⟩ := h
      by_cases e : j = 17
      · exact ⟨gb, h1, h2, ((r.2 e).block gb (heap_lt h3) (fun e2 => by have := hrl gb e2.symm; omega)).trans h3⟩
      · exact ⟨gb, h1, h2, ((r.1 e).block _ (heap_lt h3)).trans h3⟩
    | 17, hij, h =>
      obtain ⟨ro2, rc2, h1, h2⟩ := h
      exact ⟨ro2, rc2, h1, below_row (r.1 (fun e => hij e.symm)) h2⟩
    | 18, hij, h =>
      exact h
    | (n + 19), _, h => exact h
  case pstep =>
    intro i o ho a' w' bb hbb hsa hb hd
    match i, ho with
    | 0, ho =>
      obtain rfl := Option.some.inj ho
      try dsimp only at hd
      have g7 : a'.tmps.getD 7 undef = .slice oo ol oc := hsa.rest 7 (by rfl)
      refine wpOp_of rfl rfl ?_
      refine op_run (v := .slice oo ol oc) (w' := w') ?_ ⟨_, rfl, ?_, ?_⟩
      · simp only [execOp, Act.eval, List.map_toArray, List.map_cons, List.map_nil, g7]; first | (go_simp; done) | rfl
      · try dsimp only
        exact (slots_put (ns := 77) (hsa.size.trans rfl) (by decide))
      · exact ⟨fun _ => Below.refl _ _, fun e => by cases e⟩
    | 1, ho =>
      obtain rfl := Option.some.inj ho
      try dsimp only at hd
      have g9 : a'.tmps.getD 9 undef = .pointer (some ⟨x, 0, none⟩) := hsa.rest 9 (by rfl)
      refine wpOp_of rfl rfl ?_
      refine op_run (v := .pointer (some ⟨x, 0, none⟩)) (w' := w') ?_ ⟨_, rfl, ?_, ?_⟩
      · simp only [execOp, Act.eval, List.map_toArray, List.map_cons, List.map_nil, g9]; first | (go_simp; done) | rfl
      · try dsimp only
        exact (slots_put (ns := 77) (hsa.size.trans rfl) (by decide))
      · exact ⟨fun _ => Below.refl _ _, fun e => by cases e⟩
    | 2, ho =>
      obtain rfl := Option.some.inj ho
      try dsimp only at hd
      have d1 : a'.tmps.getD 49 undef = .pointer (some ⟨x, 0, none⟩) := hd 1 (by rfl)
      have y := box_cell (hb.2.at hX hnx) 0 rfl
      refine wpOp_of rfl rfl ?_
      refine op_run (v := .int .i64 xo) (w' := w') ?_ ⟨_, rfl, ?_, ?_⟩
      · simp only [execOp, Act.eval, List.map_toArray, List.map_cons, List.map_nil, d1, y]; first | (go_simp; done) | rfl
      · try dsimp only
        exact (slots_put (ns := 77) (hsa.size.trans rfl) (by decide))
      · exact ⟨fun _ => Below.refl _ _, fun e => by cases e⟩
    | 3, ho =>
      obtain rfl := Option.some.inj ho
      try dsimp only at hd
      have d2 : a'.tmps.getD 50 undef = .int .i64 xo := hd 2 (by rfl)
      refine wpOp_of rfl rfl ?_
      refine op_call 29 _ _ rfl (enters_of Tryz.func29 (by kernel_rfl) rfl) [.int .i64 xo] (by simp only [List.map, Act.eval, d2]) (rlong xo w') ?_
      rintro e w'' ⟨rfl, b2⟩
      refine ⟨_, rfl, _, rfl, ?_, ?_⟩
      · try dsimp only
        exact (slots_put (ns := 77) (hsa.size.trans rfl) (by decide))
      · exact ⟨fun _ => b2, fun e => by cases e⟩
    | 4, ho =>
      obtain rfl := Option.some.inj ho
      try dsimp only at hd
      have g9 : a'.tmps.getD 9 undef = .pointer (some ⟨x, 0, none⟩) := hsa.rest 9 (by rfl)
      refine wpOp_of rfl rfl ?_
      refine op_run (v := .pointer (some ⟨x, 1, none⟩)) (w' := w') ?_ ⟨_, rfl, ?_, ?_⟩
      · simp only [execOp, Act.eval, List.map_toArray, List.map_cons, List.map_nil, g9]; first | (go_simp; done) | rfl
      · try dsimp only
        exact (slots_put (ns := 77) (hsa.size.trans rfl) (by decide))
      · exact ⟨fun _ => Below.refl _ _, fun e => by cases e⟩
    | 5, ho =>
      obtain rfl := Option.some.inj ho
      try dsimp only at hd
      have d4 : a'.tmps.getD 52 undef = .pointer (some ⟨x, 1, none⟩) := hd 4 (by rfl)
      have y := box_cell (hb.2.at hX hnx) 1 rfl
      refine wpOp_of rfl rfl ?_
      refine op_run (v := .string xp) (w' := w') ?_ ⟨_, rfl, ?_, ?_⟩
      · simp only [execOp, Act.eval, List.map_toArray, List.map_cons, List.map_nil, d4, y]; first | (go_simp; done) | rfl
      · try dsimp only
        exact (slots_put (ns := 77) (hsa.size.trans rfl) (by decide))
      · exact ⟨fun _ => Below.refl _ _, fun e => by cases e⟩
    | 6, ho =>
      obtain rfl := Option.some.inj ho
      try dsimp only at hd
      have d5 : a'.tmps.getD 53 undef = .string xp := hd 5 (by rfl)
      refine wpOp_of rfl rfl ?_
      refine op_call 31 _ _ rfl (enters_of Tryz.func31 (by kernel_rfl) rfl) [.string xp] (by simp only [List.map, Act.eval, d5]) (rtext xp w') ?_
      rintro e w'' ⟨rfl, b2⟩
      refine ⟨_, rfl, _, rfl, ?_, ?_⟩
      · try dsimp only
        exact (slots_put (ns := 77) (hsa.size.trans rfl) (by decide))
      · exact ⟨fun _ => b2, fun e => by cases e⟩
    | 7, ho =>
      obtain rfl := Option.some.inj ho
      try dsimp only at hd
      have g9 : a'.tmps.getD 9 undef = .pointer (some ⟨x, 0, none⟩) := hsa.rest 9 (by rfl)
      refine wpOp_of rfl rfl ?_
      refine op_run (v := .pointer (some ⟨x, 2, none⟩)) (w' := w') ?_ ⟨_, rfl, ?_, ?_⟩
      · simp only [execOp, Act.eval, List.map_toArray, List.map_cons, List.map_nil, g9]; first | (go_simp; done) | rfl
      · try dsimp only
        exact (slots_put (ns := 77) (hsa.size.trans rfl) (by decide))
      · exact ⟨fun _ => Below.refl _ _, fun e => by cases e⟩
    | 8, ho =>
      obtain rfl := Option.some.inj ho
      try dsimp only at hd
      have d7 : a'.tmps.getD 55 undef = .pointer (some ⟨x, 2, none⟩) := hd 7 (by rfl)
      have y := box_cell (hb.2.at hX hnx) 2 rfl
      refine wpOp_of rfl rfl ?_
      refine op_run (v := .int .i64 xs) (w' := w') ?_ ⟨_, rfl, ?_, ?_⟩
      · simp only [execOp, Act.eval, List.map_toArray, List.map_cons, List.map_nil, d7, y]; first | (go_simp; done) | rfl
      · try dsimp only
        exact (slots_put (ns := 77) (hsa.size.trans rfl) (by decide))
      · exact ⟨fun _ => Below.refl _ _, fun e => by cases e⟩
    | 9, ho =>
      obtain rfl := Option.some.inj ho
      try dsimp only at hd
      have d8 : a'.tmps.getD 56 undef = .int .i64 xs := hd 8 (by rfl)
      refine wpOp_of rfl rfl ?_
      refine op_call 29 _ _ rfl (enters_of Tryz.func29 (by kernel_rfl) rfl) [.int .i64 xs] (by simp only [List.map, Act.eval, d8]) (rlong xs w') ?_
      rintro e w'' ⟨rfl, b2⟩
      refine ⟨_, rfl, _, rfl, ?_, ?_⟩
      · try dsimp only
        exact (slots_put (ns := 77) (hsa.size.trans rfl) (by decide))
      · exact ⟨fun _ => b2, fun e => by cases e⟩
    | 10, ho =>
      obtain rfl := Option.some.inj ho
      try dsimp only at hd
      have g9 : a'.tmps.getD 9 undef = .pointer (some ⟨x, 0, none⟩) := hsa.rest 9 (by rfl)
      refine wpOp_of rfl rfl ?_
      refine op_run (v := .pointer (some ⟨x, 3, none⟩)) (w' := w') ?_ ⟨_, rfl, ?_, ?_⟩
      · simp only [execOp, Act.eval, List.map_toArray, List.map_cons, List.map_nil, g9]; first | (go_simp; done) | rfl
      · try dsimp only
        exact (slots_put (ns := 77) (hsa.size.trans rfl) (by decide))
      · exact ⟨fun _ => Below.refl _ _, fun e => by cases e⟩
    | 11, ho =>
      obtain rfl := Option.some.inj ho
      try dsimp only at hd
      have d10 : a'.tmps.getD 58 undef = .pointer (some ⟨x, 3, none⟩) := hd 10 (by rfl)
      have y := box_cell (hb.2.at hX hnx) 3 rfl
      refine wpOp_of rfl rfl ?_
      refine op_run (v := .string xk) (w' := w') ?_ ⟨_, rfl, ?_, ?_⟩
      · simp only [execOp, Act.eval, List.map_toArray, List.map_cons, List.map_nil, d10, y]; first | (go_simp; done) | rfl
      · try dsimp only
        exact (slots_put (ns := 77) (hsa.size.trans rfl) (by decide))
      · exact ⟨fun _ => Below.refl _ _, fun e => by cases e⟩
    | 12, ho =>
      obtain rfl := Option.some.inj ho
      try dsimp only at hd
      have d11 : a'.tmps.getD 59 undef = .string xk := hd 11 (by rfl)
      refine wpOp_of rfl rfl ?_
      refine op_call 31 _ _ rfl (enters_of Tryz.func31 (by kernel_rfl) rfl) [.string xk] (by simp only [List.map, Act.eval, d11]) (rtext xk w') ?_
      rintro e w'' ⟨rfl, b2⟩
      refine ⟨_, rfl, _, rfl, ?_, ?_⟩
      · try dsimp only
        exact (slots_put (ns := 77) (hsa.size.trans rfl) (by decide))
      · exact ⟨fun _ => b2, fun e => by cases e⟩
    | 13, ho =>
      obtain rfl := Option.some.inj ho
      try dsimp only at hd
      have g9 : a'.tmps.getD 9 undef = .pointer (some ⟨x, 0, none⟩) := hsa.rest 9 (by rfl)
      refine wpOp_of rfl rfl ?_
      refine op_run (v := .pointer (some ⟨x, 4, none⟩)) (w' := w') ?_ ⟨_, rfl, ?_, ?_⟩
      · simp only [execOp, Act.eval, List.map_toArray, List.map_cons, List.map_nil, g9]; first | (go_simp; done) | rfl
      · try dsimp only
        exact (slots_put (ns := 77) (hsa.size.trans rfl) (by decide))
      · exact ⟨fun _ => Below.refl _ _, fun e => by cases e⟩
    | 14, ho =>
      obtain rfl := Option.some.inj ho
      try dsimp only at hd
      have d13 : a'.tmps.getD 61 undef = .pointer (some ⟨x, 4, none⟩) := hd 13 (by rfl)
      have y := box_cell (hb.2.at hX hnx) 4 rfl
      refine wpOp_of rfl rfl ?_
      refine op_run (v := .string xv) (w' := w') ?_ ⟨_, rfl, ?_, ?_⟩
      · simp only [execOp, Act.eval, List.map_toArray, List.map_cons, List.map_nil, d13, y]; first | (go_simp; done) | rfl
      · try dsimp only
        exact (slots_put (ns := 77) (hsa.size.trans rfl) (by decide))
      · exact ⟨fun _ => Below.refl _ _, fun e => by cases e⟩
    | 15, ho =>
      obtain rfl := Option.some.inj ho
      try dsimp only at hd
      have d14 : a'.tmps.getD 62 undef = .string xv := hd 14 (by rfl)
      refine wpOp_of rfl rfl ?_
      refine op_call 31 _ _ rfl (enters_of Tryz.func31 (by kernel_rfl) rfl) [.string xv] (by simp only [List.map, Act.eval, d14]) (rtext xv w') ?_
      rintro e w'' ⟨rfl, b2⟩
      refine ⟨_, rfl, _, rfl, ?_, ?_⟩
      · try dsimp only
        exact (slots_put (ns := 77) (hsa.size.trans rfl) (by decide))
      · exact ⟨fun _ => b2, fun e => by cases e⟩
    | 16, ho =>
      obtain rfl := Option.some.inj ho
      try dsimp only at hd
      have d3 : a'.tmps.getD 51 undef = .agg #[.int .i64 3, .int .u64 (IntKind.u64.wrap xo), .string ⟨#[]⟩] := hd 3 (by rfl)
      have d6 : a'.tmps.getD 54 undef = .agg #[.int .i64 4, .int .u64 0, .string xp] := hd 6 (by rfl)
      have d9 : a'.tmps.getD 57 undef = .agg #[.int .i64 3, .int .u64 (IntKind.u64.wrap xs), .string ⟨#[]⟩] := hd 9 (by rfl)
      have d12 : a'.tmps.getD 60 undef = .agg #[.int .i64 4, .int .u64 0, .string xk] := hd 12 (by rfl)
      have d15 : a'.tmps.getD 63 undef = .agg #[.int .i64 4, .int .u64 0, .string xv] := hd 15 (by rfl)
      refine wpOp_of rfl rfl ?_
      refine op_run (v := Value.slice (some ⟨w'.heap.size, 0, none⟩) 5 5) (w' := w'.alloc (.cells #[.int .i64 3, .int .u64 (IntKind.u64.wrap xo), .string ⟨#[]⟩, .int .i64 4, .int .u64 0, .string xp, .int .i64 3, .int .u64 (IntKind.u64.wrap xs), .string ⟨#[]⟩, .int .i64 4, .int .u64 0, .string xk, .int .i64 4, .int .u64 0, .string xv] 61)) ?_ ⟨_, rfl, ?_, ?_⟩
      · simp only [execOp, Act.eval, List.map_toArray, List.map_cons, List.map_nil, d3, d6, d9, d12, d15]; first | (go_simp; done) | rfl
      · try dsimp only
        exact ⟨_, (slots_put (ns := 77) (hsa.size.trans rfl) (by decide)), hb.2.size, heap_alloc_new _ _⟩
      · exact ⟨fun _ => (Below.refl _ _).alloc (Nat.le_refl _) _, fun e => by cases e⟩
    | 17, ho =>
      obtain rfl := Option.some.inj ho
      try dsimp only at hd
      have d0 : a'.tmps.getD 48 undef = .slice oo ol oc := hd 0 (by rfl)
      have d16 : ∃ gb, a'.tmps.getD 64 undef = .slice (some ⟨gb, 0, none⟩) 5 5 ∧ wq.heap.size ≤ gb ∧ w'.heap[gb]? = some (.cells #[.int .i64 3, .int .u64 (IntKind.u64.wrap xo), .string ⟨#[]⟩, .int .i64 4, .int .u64 0, .string xp, .int .i64 3, .int .u64 (IntKind.u64.wrap xs), .string ⟨#[]⟩, .int .i64 4, .int .u64 0, .string xk, .int .i64 4, .int .u64 0, .string xv] 61 (0, 0)) := hd 16 (by rfl)
      refine wpOp_of rfl rfl ?_
      obtain ⟨gb, d16, _, h6⟩ := d16
      have hbl := hb.1 (hbb rfl)
      refine wp_append_own w' _ _ 50 rfl n0 61 i0 (.agg #[.int .i64 0, .int .u64 0, .string ⟨#[]⟩]) 3 32 Tryz.underlying50 hi hz0 hz1 hz2 rfl (by decide) (Value.slice oo ol oc) ol xs0 (by simp only [Act.eval, d0]) (below_row hbl hrow) ⟨gb, 0, none⟩ 5 5 [.int .i64 3, .int .u64 (IntKind.u64.wrap xo), .string ⟨#[]⟩, .int .i64 4, .int .u64 0, .string xp, .int .i64 3, .int .u64 (IntKind.u64.wrap xs), .string ⟨#[]⟩, .int .i64 4, .int .u64 0, .string xk, .int .i64 4, .int .u64 0, .string xv] (by simp only [Act.eval, d16]) rfl (fun j u hj => by
        rw [Addr.add_lit]
        simp only [Nat.zero_add]
        exact box_cell h6 j (by simpa using hj)) (by simp [Value.oneCell']) (by have : maxLen = 9223372036854775807 := rfl; omega) (by omega) (Nat.le_trans hn0 hbl.size) ?_
      intro v' w'' h7 h8 _
      obtain ⟨ro2, rc2, rfl⟩ := row_slice h7
      refine ⟨_, rfl, ⟨ro2, rc2, (slots_put (ns := 77) (hsa.size.trans rfl) (by decide)), h7⟩, fun e => absurd rfl e, fun _ => h8⟩
    | 18, ho =>
      obtain rfl := Option.some.inj ho
      try dsimp only at hd
      refine wpOp_of rfl rfl ?_
      refine op_run (v := undef) (w' := w') ?_ ⟨_, rfl, ?_, ?_⟩
      · rfl
      · try dsimp only
        trivial
      · exact ⟨fun _ => Below.refl _ _, fun e => by cases e⟩
    | (n + 19), ho => exact absurd ho (by simp)
  case pdone =>
    intro a' w' hsa hb hd
    have d0 : a'.tmps.getD 48 undef = .slice oo ol oc := hd 0 (by decide)
    have d1 : a'.tmps.getD 49 undef = .pointer (some ⟨x, 0, none⟩) := hd 1 (by decide)
    have d2 : a'.tmps.getD 50 undef = .int .i64 xo := hd 2 (by decide)
    have d3 : a'.tmps.getD 51 undef = .agg #[.int .i64 3, .int .u64 (IntKind.u64.wrap xo), .string ⟨#[]⟩] := hd 3 (by decide)
    have d4 : a'.tmps.getD 52 undef = .pointer (some ⟨x, 1, none⟩) := hd 4 (by decide)
    have d5 : a'.tmps.getD 53 undef = .string xp := hd 5 (by decide)
    have d6 : a'.tmps.getD 54 undef = .agg #[.int .i64 4, .int .u64 0, .string xp] := hd 6 (by decide)
    have d7 : a'.tmps.getD 55 undef = .pointer (some ⟨x, 2, none⟩) := hd 7 (by decide)
    have d8 : a'.tmps.getD 56 undef = .int .i64 xs := hd 8 (by decide)
    have d9 : a'.tmps.getD 57 undef = .agg #[.int .i64 3, .int .u64 (IntKind.u64.wrap xs), .string ⟨#[]⟩] := hd 9 (by decide)
    have d10 : a'.tmps.getD 58 undef = .pointer (some ⟨x, 3, none⟩) := hd 10 (by decide)
    have d11 : a'.tmps.getD 59 undef = .string xk := hd 11 (by decide)
    have d12 : a'.tmps.getD 60 undef = .agg #[.int .i64 4, .int .u64 0, .string xk] := hd 12 (by decide)
    have d13 : a'.tmps.getD 61 undef = .pointer (some ⟨x, 4, none⟩) := hd 13 (by decide)
    have d14 : a'.tmps.getD 62 undef = .string xv := hd 14 (by decide)
    have d15 : a'.tmps.getD 63 undef = .agg #[.int .i64 4, .int .u64 0, .string xv] := hd 15 (by decide)
    have d16 : ∃ gb, a'.tmps.getD 64 undef = .slice (some ⟨gb, 0, none⟩) 5 5 ∧ wq.heap.size ≤ gb ∧ w'.heap[gb]? = some (.cells #[.int .i64 3, .int .u64 (IntKind.u64.wrap xo), .string ⟨#[]⟩, .int .i64 4, .int .u64 0, .string xp, .int .i64 3, .int .u64 (IntKind.u64.wrap xs), .string ⟨#[]⟩, .int .i64 4, .int .u64 0, .string xk, .int .i64 4, .int .u64 0, .string xv] 61 (0, 0)) := hd 16 (by decide)
    have d17 : ∃ ro2 rc2, a'.tmps.getD 65 undef = .slice ro2 (ol + 5) rc2 ∧ w'.ownsRow n0 61 3 (.slice ro2 (ol + 5) rc2) (ol + 5) (xs0 ++ [.int .i64 3, .int .u64 (IntKind.u64.wrap xo), .string ⟨#[]⟩, .int .i64 4, .int .u64 0, .string xp, .int .i64 3, .int .u64 (IntKind.u64.wrap xs), .string ⟨#[]⟩, .int .i64 4, .int .u64 0, .string xk, .int .i64 4, .int .u64 0, .string xv]) := hd 17 (by decide)
    have d18 : True := hd 18 (by decide)
    obtain ⟨ro2, rc2, d17, h7⟩ := d17
    intro K2 hK2
    refine op_run (v := .slice ro2 (ol + 5) rc2) (w' := w') ?_ (hK2 _ _ ?_)
    · simp only [execOp, Act.eval, d17]
      first | (go_simp; done) | rfl
    obtain ⟨wo, wsq⟩ := WK.out
    rw [wo, wsq] at h7
    refine HQ.out _ _ ro2 rc2 ⟨?_, hsa.defers.trans rfl, (slots_ne (by decide)).trans (hsa.rest 0 (by rfl)), (slots_ne (by decide)).trans (hsa.rest 1 (by rfl)), (slots_ne (by decide)).trans (hsa.rest 3 (by rfl)), (slots_ne (by decide)).trans (hsa.rest 4 (by rfl)), (slots_ne (by decide)).trans (hsa.rest 5 (by rfl)), (slots_ne (by decide)).trans (hsa.rest 6 (by rfl)), slots_put (ns := 77) (hsa.size.trans rfl) (by decide), (slots_ne (by decide)).trans (hsa.rest 8 (by rfl)), (slots_ne (by decide)).trans (hsa.rest 9 (by rfl)), (slots_ne (by decide)).trans (hsa.rest 10 (by rfl)), (slots_ne (by decide)).trans (hsa.rest 12 (by rfl)), (slots_ne (by decide)).trans (hsa.rest 25 (by rfl)), (slots_ne (by decide)).trans (hsa.rest 40 (by rfl))⟩ h7 hb.2
    · exact (size_put7 _ _).trans (hsa.size.trans rfl)
end Go.Proofs.YtoolbbibnegdnaaGreatDoor
/-
  carillonref14's Answer, whole.
-/
namespace Go.Proofs.YtoolbbibnegdnaaGreatDoor
open Go.RowKit

attribute [local go_sem ↓] Go.wp_at_zero Go.wp_at_succ
set_option linter.unusedSimpArgs false
set_option linter.unusedVariables false
theorem itemsR_cells (r : Rec) : K.itemCells (itemsR r) = [.int .i64 3, .int .u64 r.off, .string ⟨#[]⟩, .int .i64 4, .int .u64 0, .string r.prod, .int .i64 3, .int .u64 r.seq, .string ⟨#[]⟩, .int .i64 4, .int .u64 0, .string r.key, .int .i64 4, .int .u64 0, .string r.val] := rfl
theorem headI_cells (a c n : Int) : K.itemCells (headI a c n) = [.int .i64 3, .int .u64 a, .string ⟨#[]⟩, .int .i64 1, .int .u64 c, .string ⟨#[]⟩, .int .i64 3, .int .u64 (n + 1), .string ⟨#[]⟩] := rfl
def answT (ask : Int) (r : RP) : ByteArray := if askOk ask ∧ r.right then ⟨(oneP ask r).toArray⟩ else ⟨#[]⟩
instance (ask : Int) : Decidable (askOk ask) := by unfold askOk; infer_instance
instance (r : RP) : Decidable r.right := by unfold RP.right; infer_instance
set_option maxHeartbeats 8000000 in
set_option maxRecDepth 100000 in
theorem ransw (ask : Int) (r : RP) (ao : Option Addr) (cap : Nat) (w : World) (hat : RecsC w ao r.recs) (hok : ∀ x ∈ r.recs, x.ok) (hlen : r.recs.length ≤ 9223372036854775807) (p : Bool) (hp : p = decide (askOk ask ∧ r.right)) :
    Calls Tryz.prog 11 #[.int .i64 ask, r.v ao cap] w fun e w' => e = .returned (.tuple #[.string (answT ask r), .bool p]) ∧ Below w.heap.size w w' := by
  have hRR : ∀ W, Below w.heap.size w W → Calls Tryz.prog 28 #[r.v ao cap] W fun e w' => e = .returned (.bool (decide r.right)) ∧ Below W.heap.size W w' := fun W hb => rrightrep r ao cap W (hat.below hb (Nat.le_refl _)) hok hlen
  simp only [RP.v] at hRR ⊢
  go_enter Tryz.func11, Tryz.ntmps11
  refine wp_seq (reg_mono (rw_r0 (by kernel_rfl) _ (v := ⟨_, _, _, _, _, _, _, _, _, _, _, _, _⟩) ⟨rfl, rfl, rfl, rfl, rfl, rfl, rfl, rfl, rfl, rfl, rfl, rfl, rfl, rfl, rfl⟩ rfl ?_))
  intro a0 w0 b F0 X0 b0
  try dsimp only at F0
  refine wp_seq (reg_mono (rw_r1 (by kernel_rfl) _ F0 rfl X0 (fun W hb => hRR W (b0.trans (hb.mono b0.size))) ?_))
  intro a1 w1 F1 b1
  try dsimp only at F1
  have B1 := b0.trans (b1.mono b0.size)
  have X1 := (b1.block _ (heap_lt X0)).trans X0
  refine wp_seq (wp_seq (reg_mono (rw_r2 (by kernel_rfl) _ F1 rfl rfl rfl ?_)))
  intro a2 F2
  try dsimp only at F2
  by_cases hg : askOk ask ∧ r.right
  case neg =>
    have e : (!(decide r.right && decide (0 ≤ ask ∧ ask ≤ 9007199254740991))) = true := by
      rw [Bool.not_eq_true', Bool.and_eq_false_iff]
      by_cases h : r.right
      · right; exact decide_eq_false (fun e => hg ⟨e, h⟩)
      · left; exact decide_eq_false h
    rw [e] at F2
    refine wp_cond_true F2.s25 ?_
    refine wp_seq (reg_mono (rw_r3 (by kernel_rfl) _ F2 ?_))
    intro a3 F3
    have hp2 : p = false := by rw [hp]; exact decide_eq_false hg
    have hT : answT ask r = ⟨#[]⟩ := if_neg hg
    exact wp_ret (rw_ret (R := fun e w' => e = .returned (.tuple #[.string (answT ask r), .bool p]) ∧ Below w.heap.size w w') F3 rfl rfl ⟨by rw [hT, hp2], B1⟩)
  have e : (!(decide r.right && decide (0 ≤ ask ∧ ask ≤ 9007199254740991))) = false := by
    rw [decide_eq_true hg.2, decide_eq_true (show 0 ≤ ask ∧ ask ≤ 9007199254740991 from hg.1)]
    rfl
  rw [e] at F2
  refine wp_cond_false F2.s25 (wp_skip ?_)
  show Code.wp _ _ _ _ _
  have hp2 : p = true := by rw [hp]; exact decide_eq_true hg
  have hT : answT ask r = ⟨(oneP ask r).toArray⟩ := if_pos hg
  obtain ⟨ha, hr⟩ := hg
  obtain ⟨c1, c2, n1, n2, hl50, hrec⟩ := id hr
  refine wp_seq (reg_mono (rw_r4 (by kernel_rfl) _ F2 rfl rfl X1 ha.1 ha.2 c1 c2 n1 n2 ?_))
  intro a4 w4 g F4 hg4 G4 b4
  try dsimp only at F4
  have B4 := B1.trans (b4.mono B1.size)
  have X4 := (b4.block _ (heap_lt X1)).trans X1
  have R4 : w4.ownsRow w.heap.size 61 3 (.slice (some ⟨g, 0, none⟩) 3 3) 3 (K.itemCells (headI ask r.code r.n)) := by
    refine ⟨rfl, .inr ⟨g, 3, _, rfl, Nat.le_trans B1.size hg4, G4, Nat.le_refl _, by unfold maxLen; omega, rfl, rfl⟩⟩
  refine wp_seq (wp_seq (reg_mono (rw_r5 (by kernel_rfl) _ F4 ?_)))
  intro a5 F5
  try dsimp only at F5
  refine wp_block (wp_loop (fun a W => ∃ (k : Nat) (v : Vrw) (oo : Option Addr) (oc : Nat), k ≤ r.recs.length ∧ Frw a v ∧ v.v3 = .pointer (some ⟨b, 0, none⟩) ∧ v.v7 = .slice oo (3 + 5 * k) oc ∧ v.v8 = .int .i64 (k : Int) ∧ W.heap[b]? = some (.cells #[.int .i64 r.code, .int .i64 r.n, .slice ao r.recs.length cap] 37 (0, 0)) ∧ W.ownsRow w.heap.size 61 3 (.slice oo (3 + 5 * k) oc) (3 + 5 * k) (K.itemCells (headI ask r.code r.n ++ (r.recs.take k).flatMap itemsR)) ∧ Below w.heap.size w W) (fun a _ => r.recs.length - (intOf (a.tmps.getD 8 undef)).toNat) ⟨0, _, _, _, Nat.zero_le _, F5, rfl, rfl, rfl, X4, by simpa using R4, B4⟩ ?_)
  clear F0 F1 F2 F4 F5 X0 X1 X4 G4 R4 b0 b1 b4 B1 B4 hRR
  rintro a6 w6 ⟨k, v, oo, oc, hk, F6, q3, q7, q8, X6, R6, B6⟩
  have hmk : (intOf (a6.tmps.getD 8 undef)).toNat = k := by rw [F6.s8, q8]; simp [intOf]
  refine wp_seq (wp_seq (reg_mono (rw_r6 (by kernel_rfl) _ F6 q3 q8 X6 rfl ?_)))
  intro a7 F7
  try dsimp only at F7
  by_cases hkl : k < r.recs.length
  case neg =>
    have s40 := F7.s40
    rw [decide_eq_false hkl] at s40
    refine wp_cond_false s40 (wp_exit ?_)
    show Code.wp _ _ _ _ _
    obtain rfl : k = r.recs.length := by omega
    have hL : headI ask r.code r.n ++ (r.recs.take r.recs.length).flatMap itemsR = itemsP ask r := by rw [List.take_length]; rfl
    rw [hL] at R6
    have hln : 3 + 5 * r.recs.length = (itemsP ask r).length := (itemsP_len ask r).symm
    rw [hln] at q7 R6
    obtain ⟨ao2, cap2, hv, hIt⟩ := K.items_of_own R6
    injection hv with hv1 _ hv3
    subst hv1 hv3
    have hE := fun W (hb : Below w6.heap.size w6 W) => K.rencode_any oo oc (itemsP ask r) W (items_below hIt hb) (itemsP_ok ha hr) (by rw [itemsP_len]; unfold maxLen; omega)
    rw [encP ha hr] at hE
    refine wp_seq (reg_mono (rw_r10 (by kernel_rfl) _ F7 q7 hE ?_))
    intro a8 w8 F8 b8
    try dsimp only at F8
    have hcl := @codeP_le ask r hr
    have hFr := fun W (hb : Below w8.heap.size w8 W) => rframe_any ⟨(codeP ask r).toArray⟩ W (by show (codeP ask r).toArray.size ≤ _; simp; omega)
    have e1 : (⟨(codeP ask r).toArray⟩ : ByteArray).data.toList = codeP ask r := by simp
    rw [e1, frameP hr] at hFr
    refine wp_seq (reg_mono (rw_r11 (by kernel_rfl) _ F8 rfl hFr ?_))
    intro a9 w9 F9 b9
    try dsimp only at F9
    refine wp_seq (reg_mono (rw_r12 (by kernel_rfl) _ F9 rfl ?_))
    intro a10 F10
    have B8 := B6.trans (b8.mono B6.size)
    exact wp_ret (rw_ret (R := fun e w' => e = .returned (.tuple #[.string (answT ask r), .bool p]) ∧ Below w.heap.size w w') F10 rfl rfl ⟨by rw [hT, hp2], B8.trans (b9.mono B8.size)⟩)
  have s40 := F7.s40
  rw [decide_eq_true hkl] at s40
  refine wp_cond_true s40 (wp_skip ?_)
  show Code.wp _ _ _ _ _
  obtain ⟨g, off, hao, hgl, y0, y1, y2, y3, y4⟩ := (hat.below B6 (Nat.le_refl _)) k hkl
  have hrk := hrec _ (List.getElem_mem hkl)
  have hnx := upto_next (headI ask r.code r.n) r.recs k hkl
  generalize r.recs[k] = x at *
  have X6' := X6
  rw [hao] at X6'
  refine wp_seq (wp_block (wp_seq (reg_mono (rw_r8 (by kernel_rfl) _ F7 q3 q8 X6' (by omega) y0 y1 y2 y3 y4 ?_))))
  intro a8 w8 q F8 X8 b8
  try dsimp only at F8
  have R8 := below_row b8 R6
  have Y8 := (b8.block _ (heap_lt X6)).trans X6
  have B8 := B6.trans (b8.mono B6.size)
  obtain ⟨xo, xp, xs, xk, xv⟩ := x
  obtain ⟨o1, o2, s1, s2, _⟩ := id hrk
  refine reg_all (rw_r9 (by kernel_rfl) _ F8 q7 rfl X8 R8 B8.size (by omega) o1 o2 s1 s2 ?_)
  intro a9 w9 ro2 rc2 F9 R9 t9
  try dsimp only at F9
  show Code.wp _ _ _ _ _
  refine reg_mono (rw_r7 (by kernel_rfl) _ F9 q8 (by omega) ?_)
  intro a10 F10
  try dsimp only at F10
  have hcells : K.itemCells (headI ask r.code r.n ++ (r.recs.take (k + 1)).flatMap itemsR) = K.itemCells (headI ask r.code r.n ++ (r.recs.take k).flatMap itemsR) ++ [.int .i64 3, .int .u64 xo, .string ⟨#[]⟩, .int .i64 4, .int .u64 0, .string xp, .int .i64 3, .int .u64 xs, .string ⟨#[]⟩, .int .i64 4, .int .u64 0, .string xk, .int .i64 4, .int .u64 0, .string xv] := by
    rw [← hnx, K.itemCells_append]
    rfl
  refine ⟨⟨k + 1, _, ro2, rc2, by omega, F10, q3, by rw [show 3 + 5 * (k + 1) = 3 + 5 * k + 5 by omega], rfl, t9.at Y8 (fun e => row_type R8 e Y8 (by decide)), ?_, B8.trans (t9.toBelow B8.size (fun j hj e => by have := (R8.lt j e).1; omega))⟩, ?_⟩
  · rw [hcells, show 3 + 5 * (k + 1) = 3 + 5 * k + 5 by omega]
    exact R9
  · rw [hmk, F10.s8]
    simp [intOf]
    omega
end Go.Proofs.YtoolbbibnegdnaaGreatDoor
