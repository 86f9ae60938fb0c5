/-
  CommandWords: its regions (mkwords.py)
-/
import Derived.Test.YthfflefnapbkiabDoorZHC
namespace Go.Proofs.YthfflefnapbkiabDoor
open Go.RowKit

attribute [local go_sem ↓] Go.wp_at_zero Go.wp_at_succ
set_option linter.unusedSimpArgs false
set_option linter.unusedVariables false
set_option maxRecDepth 100000 in
theorem frame_ww (t : Array Value) (h : t.size = 96) : ∃ u : Nat → Value, t = List.toArray (u 0 :: u 1 :: u 2 :: u 3 :: u 4 :: u 5 :: u 6 :: u 7 :: u 8 :: u 9 :: u 10 :: u 11 :: u 12 :: u 13 :: u 14 :: u 15 :: u 16 :: u 17 :: u 18 :: u 19 :: u 20 :: u 21 :: u 22 :: u 23 :: u 24 :: u 25 :: u 26 :: u 27 :: u 28 :: u 29 :: u 30 :: u 31 :: u 32 :: u 33 :: u 34 :: u 35 :: u 36 :: u 37 :: u 38 :: u 39 :: u 40 :: u 41 :: u 42 :: u 43 :: u 44 :: u 45 :: u 46 :: u 47 :: u 48 :: u 49 :: u 50 :: u 51 :: u 52 :: u 53 :: u 54 :: u 55 :: u 56 :: u 57 :: u 58 :: u 59 :: u 60 :: u 61 :: u 62 :: u 63 :: u 64 :: u 65 :: u 66 :: u 67 :: u 68 :: u 69 :: u 70 :: u 71 :: u 72 :: u 73 :: u 74 :: u 75 :: u 76 :: u 77 :: u 78 :: u 79 :: u 80 :: u 81 :: u 82 :: u 83 :: u 84 :: u 85 :: u 86 :: u 87 :: u 88 :: u 89 :: u 90 :: u 91 :: u 92 :: u 93 :: u 94 :: u 95 :: []) := by
  refine ⟨fun i => t.getD i undef, ?_⟩
  have e : (List.toArray ((fun i => t.getD i undef) 0 :: (fun i => t.getD i undef) 1 :: (fun i => t.getD i undef) 2 :: (fun i => t.getD i undef) 3 :: (fun i => t.getD i undef) 4 :: (fun i => t.getD i undef) 5 :: (fun i => t.getD i undef) 6 :: (fun i => t.getD i undef) 7 :: (fun i => t.getD i undef) 8 :: (fun i => t.getD i undef) 9 :: (fun i => t.getD i undef) 10 :: (fun i => t.getD i undef) 11 :: (fun i => t.getD i undef) 12 :: (fun i => t.getD i undef) 13 :: (fun i => t.getD i undef) 14 :: (fun i => t.getD i undef) 15 :: (fun i => t.getD i undef) 16 :: (fun i => t.getD i undef) 17 :: (fun i => t.getD i undef) 18 :: (fun i => t.getD i undef) 19 :: (fun i => t.getD i undef) 20 :: (fun i => t.getD i undef) 21 :: (fun i => t.getD i undef) 22 :: (fun i => t.getD i undef) 23 :: (fun i => t.getD i undef) 24 :: (fun i => t.getD i undef) 25 :: (fun i => t.getD i undef) 26 :: (fun i => t.getD i undef) 27 :: (fun i => t.getD i undef) 28 :: (fun i => t.getD i undef) 29 :: (fun i => t.getD i undef) 30 :: (fun i => t.getD i undef) 31 :: (fun i => t.getD i undef) 32 :: (fun i => t.getD i undef) 33 :: (fun i => t.getD i undef) 34 :: (fun i => t.getD i undef) 35 :: (fun i => t.getD i undef) 36 :: (fun i => t.getD i undef) 37 :: (fun i => t.getD i undef) 38 :: (fun i => t.getD i undef) 39 :: (fun i => t.getD i undef) 40 :: (fun i => t.getD i undef) 41 :: (fun i => t.getD i undef) 42 :: (fun i => t.getD i undef) 43 :: (fun i => t.getD i undef) 44 :: (fun i => t.getD i undef) 45 :: (fun i => t.getD i undef) 46 :: (fun i => t.getD i undef) 47 :: (fun i => t.getD i undef) 48 :: (fun i => t.getD i undef) 49 :: (fun i => t.getD i undef) 50 :: (fun i => t.getD i undef) 51 :: (fun i => t.getD i undef) 52 :: (fun i => t.getD i undef) 53 :: (fun i => t.getD i undef) 54 :: (fun i => t.getD i undef) 55 :: (fun i => t.getD i undef) 56 :: (fun i => t.getD i undef) 57 :: (fun i => t.getD i undef) 58 :: (fun i => t.getD i undef) 59 :: (fun i => t.getD i undef) 60 :: (fun i => t.getD i undef) 61 :: (fun i => t.getD i undef) 62 :: (fun i => t.getD i undef) 63 :: (fun i => t.getD i undef) 64 :: (fun i => t.getD i undef) 65 :: (fun i => t.getD i undef) 66 :: (fun i => t.getD i undef) 67 :: (fun i => t.getD i undef) 68 :: (fun i => t.getD i undef) 69 :: (fun i => t.getD i undef) 70 :: (fun i => t.getD i undef) 71 :: (fun i => t.getD i undef) 72 :: (fun i => t.getD i undef) 73 :: (fun i => t.getD i undef) 74 :: (fun i => t.getD i undef) 75 :: (fun i => t.getD i undef) 76 :: (fun i => t.getD i undef) 77 :: (fun i => t.getD i undef) 78 :: (fun i => t.getD i undef) 79 :: (fun i => t.getD i undef) 80 :: (fun i => t.getD i undef) 81 :: (fun i => t.getD i undef) 82 :: (fun i => t.getD i undef) 83 :: (fun i => t.getD i undef) 84 :: (fun i => t.getD i undef) 85 :: (fun i => t.getD i undef) 86 :: (fun i => t.getD i undef) 87 :: (fun i => t.getD i undef) 88 :: (fun i => t.getD i undef) 89 :: (fun i => t.getD i undef) 90 :: (fun i => t.getD i undef) 91 :: (fun i => t.getD i undef) 92 :: (fun i => t.getD i undef) 93 :: (fun i => t.getD i undef) 94 :: (fun i => t.getD i undef) 95 :: []) : Array Value) = ((List.range 96).map fun i => t.getD i undef).toArray := rfl
  refine Eq.trans ?_ e.symm
  apply Array.ext
  · simp [h]
  · intro k h1 h2
    simp [Array.getD, h1]
/-- The slots that matter. -/
structure Vww where
  v0 : Value
  v1 : Value
  v4 : Value
  v5 : Value
  v6 : Value
  v7 : Value
  v8 : Value
  v9 : Value
  v53 : Value
  v57 : Value
  v85 : Value
structure Fww (a : Act) (v : Vww) : Prop where
  size : a.tmps.size = 96
  defers : a.defers = []
  s0 : a.tmps.getD 0 undef = v.v0
  s1 : a.tmps.getD 1 undef = v.v1
  s4 : a.tmps.getD 4 undef = v.v4
  s5 : a.tmps.getD 5 undef = v.v5
  s6 : a.tmps.getD 6 undef = v.v6
  s7 : a.tmps.getD 7 undef = v.v7
  s8 : a.tmps.getD 8 undef = v.v8
  s9 : a.tmps.getD 9 undef = v.v9
  s53 : a.tmps.getD 53 undef = v.v53
  s57 : a.tmps.getD 57 undef = v.v57
  s85 : a.tmps.getD 85 undef = v.v85
set_option maxHeartbeats 8000000 in
set_option maxRecDepth 100000 in
theorem ww_r0 {K : Act → World → Prop} {c : Code} (hc : regOf (Tryd.f3.body.getD .skip) 0 = some c) (a : Act) {v : Vww} {wq : World}  (hF : Fww a v) (hQ : ∀ a', Fww a' { v with v4 := .bool false } → K a' wq) :
    Code.wp Tryd.prog c (Exit.then K fun _ _ _ => False) a wq := by
  have HQ := hide hQ
  clear hQ
  obtain ⟨t', d'⟩ := a
  obtain ⟨v0, v1, v4, v5, v6, v7, v8, v9, v53, v57, v85⟩ := v
  obtain ⟨hs1, hd1, q0, q1, q4, q5, q6, q7, q8, q9, q53, q57, q85⟩ := hF
  obtain ⟨u, hu⟩ := frame_ww t' hs1
  simp only at hd1 q0 q1 q4 q5 q6 q7 q8 q9 q53 q57 q85
  subst hu hd1
  have e0 : u 0 = v0 := q0
  have e1 : u 1 = v1 := q1
  have e4 : u 4 = v4 := q4
  have e5 : u 5 = v5 := q5
  have e6 : u 6 = v6 := q6
  have e7 : u 7 = v7 := q7
  have e8 : u 8 = v8 := q8
  have e9 : u 9 = v9 := q9
  have e53 : u 53 = v53 := q53
  have e57 : u 57 = v57 := q57
  have e85 : u 85 = v85 := q85
  rw [e0, e1, e4, e5, e6, e7, e8, e9, e53, e57, e85]
  clear q0 e0 q1 e1 q4 e4 q5 e5 q6 e6 q7 e7 q8 e8 q9 e9 q53 e53 q57 e57 q85 e85 hs1
  simp only [Tryd.f3, Option.getD_some, regOf] at hc
  injection hc with hc
  subst hc
  generalize u 2 = u2
  generalize u 3 = u3
  generalize u 10 = u10
  generalize u 11 = u11
  generalize u 12 = u12
  generalize u 13 = u13
  generalize u 14 = u14
  generalize u 15 = u15
  generalize u 16 = u16
  generalize u 17 = u17
  generalize u 18 = u18
  generalize u 19 = u19
  generalize u 20 = u20
  generalize u 21 = u21
  generalize u 22 = u22
  generalize u 23 = u23
  generalize u 24 = u24
  generalize u 25 = u25
  generalize u 26 = u26
  generalize u 27 = u27
  generalize u 28 = u28
  generalize u 29 = u29
  generalize u 30 = u30
  generalize u 31 = u31
  generalize u 32 = u32
  generalize u 33 = u33
  generalize u 34 = u34
  generalize u 35 = u35
  generalize u 36 = u36
  generalize u 37 = u37
  generalize u 38 = u38
  generalize u 39 = u39
  generalize u 40 = u40
  generalize u 41 = u41
  generalize u 42 = u42
  generalize u 43 = u43
  generalize u 44 = u44
  generalize u 45 = u45
  generalize u 46 = u46
  generalize u 47 = u47
  generalize u 48 = u48
  generalize u 49 = u49
  generalize u 50 = u50
  generalize u 51 = u51
  generalize u 52 = u52
  generalize u 54 = u54
  generalize u 55 = u55
  generalize u 56 = u56
  generalize u 58 = u58
  generalize u 59 = u59
  generalize u 60 = u60
  generalize u 61 = u61
  generalize u 62 = u62
  generalize u 63 = u63
  generalize u 64 = u64
  generalize u 65 = u65
  generalize u 66 = u66
  generalize u 67 = u67
  generalize u 68 = u68
  generalize u 69 = u69
  generalize u 70 = u70
  generalize u 71 = u71
  generalize u 72 = u72
  generalize u 73 = u73
  generalize u 74 = u74
  generalize u 75 = u75
  generalize u 76 = u76
  generalize u 77 = u77
  generalize u 78 = u78
  generalize u 79 = u79
  generalize u 80 = u80
  generalize u 81 = u81
  generalize u 82 = u82
  generalize u 83 = u83
  generalize u 84 = u84
  generalize u 86 = u86
  generalize u 87 = u87
  generalize u 88 = u88
  generalize u 89 = u89
  generalize u 90 = u90
  generalize u 91 = u91
  generalize u 92 = u92
  generalize u 93 = u93
  generalize u 94 = u94
  generalize u 95 = u95
  clear u
  go_wp2
  exact HQ.out _ ⟨rfl, rfl, rfl, rfl, rfl, rfl, rfl, rfl, rfl, rfl, rfl, rfl, rfl⟩
set_option maxHeartbeats 8000000 in
set_option maxRecDepth 100000 in
theorem ww_r1 {K : Act → World → Prop} {c : Code} (hc : regOf (Tryd.f3.body.getD .skip) 1 = some c) (a : Act) {v : Vww} {wq : World}  (hF : Fww a v) (hC : ∀ W, Below wq.heap.size wq W → Calls Tryd.prog 5 #[] W fun e w' => e = .returned (.bool true) ∧ Below W.heap.size W w')
    (hQ : ∀ a' w', Fww a' { v with v5 := .bool true } → Below wq.heap.size wq w' → K a' w') :
    Code.wp Tryd.prog c (Exit.then K fun _ _ _ => False) a wq := by
  have HQ := hide hQ
  clear hQ
  obtain ⟨t', d'⟩ := a
  obtain ⟨v0, v1, v4, v5, v6, v7, v8, v9, v53, v57, v85⟩ := v
  obtain ⟨hs1, hd1, q0, q1, q4, q5, q6, q7, q8, q9, q53, q57, q85⟩ := hF
  obtain ⟨u, hu⟩ := frame_ww t' hs1
  simp only at hd1 q0 q1 q4 q5 q6 q7 q8 q9 q53 q57 q85
  subst hu hd1
  have e0 : u 0 = v0 := q0
  have e1 : u 1 = v1 := q1
  have e4 : u 4 = v4 := q4
  have e5 : u 5 = v5 := q5
  have e6 : u 6 = v6 := q6
  have e7 : u 7 = v7 := q7
  have e8 : u 8 = v8 := q8
  have e9 : u 9 = v9 := q9
  have e53 : u 53 = v53 := q53
  have e57 : u 57 = v57 := q57
  have e85 : u 85 = v85 := q85
  rw [e0, e1, e4, e5, e6, e7, e8, e9, e53, e57, e85]
  clear q0 e0 q1 e1 q4 e4 q5 e5 q6 e6 q7 e7 q8 e8 q9 e9 q53 e53 q57 e57 q85 e85 hs1
  simp only [Tryd.f3, Option.getD_some, regOf] at hc
  injection hc with hc
  subst hc
  generalize u 2 = u2
  generalize u 3 = u3
  generalize u 10 = u10
  generalize u 11 = u11
  generalize u 12 = u12
  generalize u 13 = u13
  generalize u 14 = u14
  generalize u 15 = u15
  generalize u 16 = u16
  generalize u 17 = u17
  generalize u 18 = u18
  generalize u 19 = u19
  generalize u 20 = u20
  generalize u 21 = u21
  generalize u 22 = u22
  generalize u 23 = u23
  generalize u 24 = u24
  generalize u 25 = u25
  generalize u 26 = u26
  generalize u 27 = u27
  generalize u 28 = u28
  generalize u 29 = u29
  generalize u 30 = u30
  generalize u 31 = u31
  generalize u 32 = u32
  generalize u 33 = u33
  generalize u 34 = u34
  generalize u 35 = u35
  generalize u 36 = u36
  generalize u 37 = u37
  generalize u 38 = u38
  generalize u 39 = u39
  generalize u 40 = u40
  generalize u 41 = u41
  generalize u 42 = u42
  generalize u 43 = u43
  generalize u 44 = u44
  generalize u 45 = u45
  generalize u 46 = u46
  generalize u 47 = u47
  generalize u 48 = u48
  generalize u 49 = u49
  generalize u 50 = u50
  generalize u 51 = u51
  generalize u 52 = u52
  generalize u 54 = u54
  generalize u 55 = u55
  generalize u 56 = u56
  generalize u 58 = u58
  generalize u 59 = u59
  generalize u 60 = u60
  generalize u 61 = u61
  generalize u 62 = u62
  generalize u 63 = u63
  generalize u 64 = u64
  generalize u 65 = u65
  generalize u 66 = u66
  generalize u 67 = u67
  generalize u 68 = u68
  generalize u 69 = u69
  generalize u 70 = u70
  generalize u 71 = u71
  generalize u 72 = u72
  generalize u 73 = u73
  generalize u 74 = u74
  generalize u 75 = u75
  generalize u 76 = u76
  generalize u 77 = u77
  generalize u 78 = u78
  generalize u 79 = u79
  generalize u 80 = u80
  generalize u 81 = u81
  generalize u 82 = u82
  generalize u 83 = u83
  generalize u 84 = u84
  generalize u 86 = u86
  generalize u 87 = u87
  generalize u 88 = u88
  generalize u 89 = u89
  generalize u 90 = u90
  generalize u 91 = u91
  generalize u 92 = u92
  generalize u 93 = u93
  generalize u 94 = u94
  generalize u 95 = u95
  clear u
  have HC := hide hC
  clear hC
  go_wp2_with (go_at_call 5; refine (HC.out _ (Below.refl _ _)).mono ?_; rintro e w1 ⟨rfl, b1⟩)
  exact HQ.out _ _ ⟨rfl, rfl, rfl, rfl, rfl, rfl, rfl, rfl, rfl, rfl, rfl, rfl, rfl⟩ b1
set_option maxHeartbeats 8000000 in
set_option maxRecDepth 100000 in
theorem ww_r2 {K : Act → World → Prop} {c : Code} (hc : regOf (Tryd.f3.body.getD .skip) 2 = some c) (a : Act) {v : Vww} {wq : World} {S : ByteArray} {p : Bool} (hF : Fww a v) (h0v : v.v0 = .string S) (hC : ∀ W, Calls Tryd.prog 6 #[.string S] W fun e w' => e = .returned (.bool p) ∧ w' = W)
    (hQ : ∀ a', Fww a' { v with v6 := .bool p } → K a' wq) :
    Code.wp Tryd.prog c (Exit.then K fun _ _ _ => False) a wq := by
  have HQ := hide hQ
  clear hQ
  obtain ⟨t', d'⟩ := a
  obtain ⟨v0, v1, v4, v5, v6, v7, v8, v9, v53, v57, v85⟩ := v
  simp only at h0v HQ
  subst h0v
  obtain ⟨hs1, hd1, q0, q1, q4, q5, q6, q7, q8, q9, q53, q57, q85⟩ := hF
  obtain ⟨u, hu⟩ := frame_ww t' hs1
  simp only at hd1 q0 q1 q4 q5 q6 q7 q8 q9 q53 q57 q85
  subst hu hd1
  have e0 : u 0 = .string S := q0
  have e1 : u 1 = v1 := q1
  have e4 : u 4 = v4 := q4
  have e5 : u 5 = v5 := q5
  have e6 : u 6 = v6 := q6
  have e7 : u 7 = v7 := q7
  have e8 : u 8 = v8 := q8
  have e9 : u 9 = v9 := q9
  have e53 : u 53 = v53 := q53
  have e57 : u 57 = v57 := q57
  have e85 : u 85 = v85 := q85
  rw [e0, e1, e4, e5, e6, e7, e8, e9, e53, e57, e85]
  clear q0 e0 q1 e1 q4 e4 q5 e5 q6 e6 q7 e7 q8 e8 q9 e9 q53 e53 q57 e57 q85 e85 hs1
  simp only [Tryd.f3, Option.getD_some, regOf] at hc
  injection hc with hc
  subst hc
  generalize u 2 = u2
  generalize u 3 = u3
  generalize u 10 = u10
  generalize u 11 = u11
  generalize u 12 = u12
  generalize u 13 = u13
  generalize u 14 = u14
  generalize u 15 = u15
  generalize u 16 = u16
  generalize u 17 = u17
  generalize u 18 = u18
  generalize u 19 = u19
  generalize u 20 = u20
  generalize u 21 = u21
  generalize u 22 = u22
  generalize u 23 = u23
  generalize u 24 = u24
  generalize u 25 = u25
  generalize u 26 = u26
  generalize u 27 = u27
  generalize u 28 = u28
  generalize u 29 = u29
  generalize u 30 = u30
  generalize u 31 = u31
  generalize u 32 = u32
  generalize u 33 = u33
  generalize u 34 = u34
  generalize u 35 = u35
  generalize u 36 = u36
  generalize u 37 = u37
  generalize u 38 = u38
  generalize u 39 = u39
  generalize u 40 = u40
  generalize u 41 = u41
  generalize u 42 = u42
  generalize u 43 = u43
  generalize u 44 = u44
  generalize u 45 = u45
  generalize u 46 = u46
  generalize u 47 = u47
  generalize u 48 = u48
  generalize u 49 = u49
  generalize u 50 = u50
  generalize u 51 = u51
  generalize u 52 = u52
  generalize u 54 = u54
  generalize u 55 = u55
  generalize u 56 = u56
  generalize u 58 = u58
  generalize u 59 = u59
  generalize u 60 = u60
  generalize u 61 = u61
  generalize u 62 = u62
  generalize u 63 = u63
  generalize u 64 = u64
  generalize u 65 = u65
  generalize u 66 = u66
  generalize u 67 = u67
  generalize u 68 = u68
  generalize u 69 = u69
  generalize u 70 = u70
  generalize u 71 = u71
  generalize u 72 = u72
  generalize u 73 = u73
  generalize u 74 = u74
  generalize u 75 = u75
  generalize u 76 = u76
  generalize u 77 = u77
  generalize u 78 = u78
  generalize u 79 = u79
  generalize u 80 = u80
  generalize u 81 = u81
  generalize u 82 = u82
  generalize u 83 = u83
  generalize u 84 = u84
  generalize u 86 = u86
  generalize u 87 = u87
  generalize u 88 = u88
  generalize u 89 = u89
  generalize u 90 = u90
  generalize u 91 = u91
  generalize u 92 = u92
  generalize u 93 = u93
  generalize u 94 = u94
  generalize u 95 = u95
  clear u
  have HC := hide hC
  clear hC
  go_wp2_with (go_at_call 6; refine (HC.out _).mono ?_; rintro e w' ⟨rfl, rfl⟩)
  exact HQ.out _ ⟨rfl, rfl, rfl, rfl, rfl, rfl, rfl, rfl, rfl, rfl, rfl, rfl, rfl⟩
set_option maxHeartbeats 8000000 in
set_option maxRecDepth 100000 in
theorem ww_r3 {K : Act → World → Prop} {c : Code} (hc : regOf (Tryd.f3.body.getD .skip) 3 = some c) (a : Act) {v : Vww} {wq : World} {S : ByteArray} {p : Bool} (hF : Fww a v) (h1v : v.v1 = .string S) (hC : ∀ W, Calls Tryd.prog 6 #[.string S] W fun e w' => e = .returned (.bool p) ∧ w' = W)
    (hQ : ∀ a', Fww a' { v with v7 := .bool p } → K a' wq) :
    Code.wp Tryd.prog c (Exit.then K fun _ _ _ => False) a wq := by
  have HQ := hide hQ
  clear hQ
  obtain ⟨t', d'⟩ := a
  obtain ⟨v0, v1, v4, v5, v6, v7, v8, v9, v53, v57, v85⟩ := v
  simp only at h1v HQ
  subst h1v
  obtain ⟨hs1, hd1, q0, q1, q4, q5, q6, q7, q8, q9, q53, q57, q85⟩ := hF
  obtain ⟨u, hu⟩ := frame_ww t' hs1
  simp only at hd1 q0 q1 q4 q5 q6 q7 q8 q9 q53 q57 q85
  subst hu hd1
  have e0 : u 0 = v0 := q0
  have e1 : u 1 = .string S := q1
  have e4 : u 4 = v4 := q4
  have e5 : u 5 = v5 := q5
  have e6 : u 6 = v6 := q6
  have e7 : u 7 = v7 := q7
  have e8 : u 8 = v8 := q8
  have e9 : u 9 = v9 := q9
  have e53 : u 53 = v53 := q53
  have e57 : u 57 = v57 := q57
  have e85 : u 85 = v85 := q85
  rw [e0, e1, e4, e5, e6, e7, e8, e9, e53, e57, e85]
  clear q0 e0 q1 e1 q4 e4 q5 e5 q6 e6 q7 e7 q8 e8 q9 e9 q53 e53 q57 e57 q85 e85 hs1
  simp only [Tryd.f3, Option.getD_some, regOf] at hc
  injection hc with hc
  subst hc
  generalize u 2 = u2
  generalize u 3 = u3
  generalize u 10 = u10
  generalize u 11 = u11
  generalize u 12 = u12
  generalize u 13 = u13
  generalize u 14 = u14
  generalize u 15 = u15
  generalize u 16 = u16
  generalize u 17 = u17
  generalize u 18 = u18
  generalize u 19 = u19
  generalize u 20 = u20
  generalize u 21 = u21
  generalize u 22 = u22
  generalize u 23 = u23
  generalize u 24 = u24
  generalize u 25 = u25
  generalize u 26 = u26
  generalize u 27 = u27
  generalize u 28 = u28
  generalize u 29 = u29
  generalize u 30 = u30
  generalize u 31 = u31
  generalize u 32 = u32
  generalize u 33 = u33
  generalize u 34 = u34
  generalize u 35 = u35
  generalize u 36 = u36
  generalize u 37 = u37
  generalize u 38 = u38
  generalize u 39 = u39
  generalize u 40 = u40
  generalize u 41 = u41
  generalize u 42 = u42
  generalize u 43 = u43
  generalize u 44 = u44
  generalize u 45 = u45
  generalize u 46 = u46
  generalize u 47 = u47
  generalize u 48 = u48
  generalize u 49 = u49
  generalize u 50 = u50
  generalize u 51 = u51
  generalize u 52 = u52
  generalize u 54 = u54
  generalize u 55 = u55
  generalize u 56 = u56
  generalize u 58 = u58
  generalize u 59 = u59
  generalize u 60 = u60
  generalize u 61 = u61
  generalize u 62 = u62
  generalize u 63 = u63
  generalize u 64 = u64
  generalize u 65 = u65
  generalize u 66 = u66
  generalize u 67 = u67
  generalize u 68 = u68
  generalize u 69 = u69
  generalize u 70 = u70
  generalize u 71 = u71
  generalize u 72 = u72
  generalize u 73 = u73
  generalize u 74 = u74
  generalize u 75 = u75
  generalize u 76 = u76
  generalize u 77 = u77
  generalize u 78 = u78
  generalize u 79 = u79
  generalize u 80 = u80
  generalize u 81 = u81
  generalize u 82 = u82
  generalize u 83 = u83
  generalize u 84 = u84
  generalize u 86 = u86
  generalize u 87 = u87
  generalize u 88 = u88
  generalize u 89 = u89
  generalize u 90 = u90
  generalize u 91 = u91
  generalize u 92 = u92
  generalize u 93 = u93
  generalize u 94 = u94
  generalize u 95 = u95
  clear u
  have HC := hide hC
  clear hC
  go_wp2_with (go_at_call 6; refine (HC.out _).mono ?_; rintro e w' ⟨rfl, rfl⟩)
  exact HQ.out _ ⟨rfl, rfl, rfl, rfl, rfl, rfl, rfl, rfl, rfl, rfl, rfl, rfl, rfl⟩
set_option maxHeartbeats 8000000 in
set_option maxRecDepth 100000 in
theorem ww_r4 {K : Act → World → Prop} {c : Code} (hc : regOf (Tryd.f3.body.getD .skip) 4 = some c) (a : Act) {v : Vww} {wq : World} {S T : ByteArray} {p : Bool} (hF : Fww a v) (h0v : v.v0 = .string S) (h1v : v.v1 = .string T) (hST : S.size + T.size ≤ 9223372036854775807) (hC : ∀ W, Calls Tryd.prog 6 #[.string (S ++ T)] W fun e w' => e = .returned (.bool p) ∧ w' = W)
    (hQ : ∀ a', Fww a' { v with v8 := .bool p } → K a' wq) :
    Code.wp Tryd.prog c (Exit.then K fun _ _ _ => False) a wq := by
  have HQ := hide hQ
  clear hQ
  obtain ⟨t', d'⟩ := a
  obtain ⟨v0, v1, v4, v5, v6, v7, v8, v9, v53, v57, v85⟩ := v
  simp only at h0v h1v HQ
  subst h0v h1v
  obtain ⟨hs1, hd1, q0, q1, q4, q5, q6, q7, q8, q9, q53, q57, q85⟩ := hF
  obtain ⟨u, hu⟩ := frame_ww t' hs1
  simp only at hd1 q0 q1 q4 q5 q6 q7 q8 q9 q53 q57 q85
  subst hu hd1
  have e0 : u 0 = .string S := q0
  have e1 : u 1 = .string T := q1
  have e4 : u 4 = v4 := q4
  have e5 : u 5 = v5 := q5
  have e6 : u 6 = v6 := q6
  have e7 : u 7 = v7 := q7
  have e8 : u 8 = v8 := q8
  have e9 : u 9 = v9 := q9
  have e53 : u 53 = v53 := q53
  have e57 : u 57 = v57 := q57
  have e85 : u 85 = v85 := q85
  rw [e0, e1, e4, e5, e6, e7, e8, e9, e53, e57, e85]
  clear q0 e0 q1 e1 q4 e4 q5 e5 q6 e6 q7 e7 q8 e8 q9 e9 q53 e53 q57 e57 q85 e85 hs1
  simp only [Tryd.f3, Option.getD_some, regOf] at hc
  injection hc with hc
  subst hc
  generalize u 2 = u2
  generalize u 3 = u3
  generalize u 10 = u10
  generalize u 11 = u11
  generalize u 12 = u12
  generalize u 13 = u13
  generalize u 14 = u14
  generalize u 15 = u15
  generalize u 16 = u16
  generalize u 17 = u17
  generalize u 18 = u18
  generalize u 19 = u19
  generalize u 20 = u20
  generalize u 21 = u21
  generalize u 22 = u22
  generalize u 23 = u23
  generalize u 24 = u24
  generalize u 25 = u25
  generalize u 26 = u26
  generalize u 27 = u27
  generalize u 28 = u28
  generalize u 29 = u29
  generalize u 30 = u30
  generalize u 31 = u31
  generalize u 32 = u32
  generalize u 33 = u33
  generalize u 34 = u34
  generalize u 35 = u35
  generalize u 36 = u36
  generalize u 37 = u37
  generalize u 38 = u38
  generalize u 39 = u39
  generalize u 40 = u40
  generalize u 41 = u41
  generalize u 42 = u42
  generalize u 43 = u43
  generalize u 44 = u44
  generalize u 45 = u45
  generalize u 46 = u46
  generalize u 47 = u47
  generalize u 48 = u48
  generalize u 49 = u49
  generalize u 50 = u50
  generalize u 51 = u51
  generalize u 52 = u52
  generalize u 54 = u54
  generalize u 55 = u55
  generalize u 56 = u56
  generalize u 58 = u58
  generalize u 59 = u59
  generalize u 60 = u60
  generalize u 61 = u61
  generalize u 62 = u62
  generalize u 63 = u63
  generalize u 64 = u64
  generalize u 65 = u65
  generalize u 66 = u66
  generalize u 67 = u67
  generalize u 68 = u68
  generalize u 69 = u69
  generalize u 70 = u70
  generalize u 71 = u71
  generalize u 72 = u72
  generalize u 73 = u73
  generalize u 74 = u74
  generalize u 75 = u75
  generalize u 76 = u76
  generalize u 77 = u77
  generalize u 78 = u78
  generalize u 79 = u79
  generalize u 80 = u80
  generalize u 81 = u81
  generalize u 82 = u82
  generalize u 83 = u83
  generalize u 84 = u84
  generalize u 86 = u86
  generalize u 87 = u87
  generalize u 88 = u88
  generalize u 89 = u89
  generalize u 90 = u90
  generalize u 91 = u91
  generalize u 92 = u92
  generalize u 93 = u93
  generalize u 94 = u94
  generalize u 95 = u95
  clear u
  have HC := hide hC
  clear hC
  go_wp2_with (go_at_call 6; refine (HC.out _).mono ?_; rintro e w' ⟨rfl, rfl⟩)
  exact HQ.out _ ⟨rfl, rfl, rfl, rfl, rfl, rfl, rfl, rfl, rfl, rfl, rfl, rfl, rfl⟩
set_option maxHeartbeats 8000000 in
set_option maxRecDepth 100000 in
theorem ww_r5 {K : Act → World → Prop} {c : Code} (hc : regOf (Tryd.f3.body.getD .skip) 5 = some c) (a : Act) {v : Vww} {wq : World} {S T : ByteArray} {p q r : Bool} (hF : Fww a v) (h0v : v.v0 = .string S) (h1v : v.v1 = .string T) (h6v : v.v6 = .bool p) (h7v : v.v7 = .bool q) (h8v : v.v8 = .bool r) (hST : S.size + T.size ≤ 9223372036854775807) (h1 : p = true → q = true → r = decide ((S.size : Int) + (T.size : Int) ≤ 20)) (h2 : r = true → p = false → S.size = 0) (h3 : r = true → q = false → T.size = 0)
    (hQ : ∀ a', Fww a' { v with v53 := .bool false } → K a' wq) :
    Code.wp Tryd.prog c (Exit.then K fun _ _ _ => False) a wq := by
  have HQ := hide hQ
  clear hQ
  obtain ⟨t', d'⟩ := a
  obtain ⟨v0, v1, v4, v5, v6, v7, v8, v9, v53, v57, v85⟩ := v
  simp only at h0v h1v h6v h7v h8v HQ
  subst h0v h1v h6v h7v h8v
  obtain ⟨hs1, hd1, q0, q1, q4, q5, q6, q7, q8, q9, q53, q57, q85⟩ := hF
  obtain ⟨u, hu⟩ := frame_ww t' hs1
  simp only at hd1 q0 q1 q4 q5 q6 q7 q8 q9 q53 q57 q85
  subst hu hd1
  have e0 : u 0 = .string S := q0
  have e1 : u 1 = .string T := q1
  have e4 : u 4 = v4 := q4
  have e5 : u 5 = v5 := q5
  have e6 : u 6 = .bool p := q6
  have e7 : u 7 = .bool q := q7
  have e8 : u 8 = .bool r := q8
  have e9 : u 9 = v9 := q9
  have e53 : u 53 = v53 := q53
  have e57 : u 57 = v57 := q57
  have e85 : u 85 = v85 := q85
  rw [e0, e1, e4, e5, e6, e7, e8, e9, e53, e57, e85]
  clear q0 e0 q1 e1 q4 e4 q5 e5 q6 e6 q7 e7 q8 e8 q9 e9 q53 e53 q57 e57 q85 e85 hs1
  simp only [Tryd.f3, Option.getD_some, regOf] at hc
  injection hc with hc
  subst hc
  generalize u 2 = u2
  generalize u 3 = u3
  generalize u 10 = u10
  generalize u 11 = u11
  generalize u 12 = u12
  generalize u 13 = u13
  generalize u 14 = u14
  generalize u 15 = u15
  generalize u 16 = u16
  generalize u 17 = u17
  generalize u 18 = u18
  generalize u 19 = u19
  generalize u 20 = u20
  generalize u 21 = u21
  generalize u 22 = u22
  generalize u 23 = u23
  generalize u 24 = u24
  generalize u 25 = u25
  generalize u 26 = u26
  generalize u 27 = u27
  generalize u 28 = u28
  generalize u 29 = u29
  generalize u 30 = u30
  generalize u 31 = u31
  generalize u 32 = u32
  generalize u 33 = u33
  generalize u 34 = u34
  generalize u 35 = u35
  generalize u 36 = u36
  generalize u 37 = u37
  generalize u 38 = u38
  generalize u 39 = u39
  generalize u 40 = u40
  generalize u 41 = u41
  generalize u 42 = u42
  generalize u 43 = u43
  generalize u 44 = u44
  generalize u 45 = u45
  generalize u 46 = u46
  generalize u 47 = u47
  generalize u 48 = u48
  generalize u 49 = u49
  generalize u 50 = u50
  generalize u 51 = u51
  generalize u 52 = u52
  generalize u 54 = u54
  generalize u 55 = u55
  generalize u 56 = u56
  generalize u 58 = u58
  generalize u 59 = u59
  generalize u 60 = u60
  generalize u 61 = u61
  generalize u 62 = u62
  generalize u 63 = u63
  generalize u 64 = u64
  generalize u 65 = u65
  generalize u 66 = u66
  generalize u 67 = u67
  generalize u 68 = u68
  generalize u 69 = u69
  generalize u 70 = u70
  generalize u 71 = u71
  generalize u 72 = u72
  generalize u 73 = u73
  generalize u 74 = u74
  generalize u 75 = u75
  generalize u 76 = u76
  generalize u 77 = u77
  generalize u 78 = u78
  generalize u 79 = u79
  generalize u 80 = u80
  generalize u 81 = u81
  generalize u 82 = u82
  generalize u 83 = u83
  generalize u 84 = u84
  generalize u 86 = u86
  generalize u 87 = u87
  generalize u 88 = u88
  generalize u 89 = u89
  generalize u 90 = u90
  generalize u 91 = u91
  generalize u 92 = u92
  generalize u 93 = u93
  generalize u 94 = u94
  generalize u 95 = u95
  clear u
  have hsm : (S.size : Int) + (T.size : Int) ≤ 9223372036854775807 := by omega
  cases p
  · cases q
    · cases r
      · go_wp2
        exact HQ.out _ ⟨rfl, rfl, rfl, rfl, rfl, rfl, rfl, rfl, rfl, rfl, rfl, rfl, rfl⟩
      · have e1 : S.size = 0 := h2 rfl rfl
        have e2 : T.size = 0 := h3 rfl rfl
        have f1 : ¬ (S.size : Int) > 0 := by omega
        have f2 : ¬ (T.size : Int) > 0 := by omega
        clear h1 h2 h3 e1 e2
        go_wp2
        exact HQ.out _ ⟨rfl, rfl, rfl, rfl, rfl, rfl, rfl, rfl, rfl, rfl, rfl, rfl, rfl⟩
    · cases r
      · go_wp2
        exact HQ.out _ ⟨rfl, rfl, rfl, rfl, rfl, rfl, rfl, rfl, rfl, rfl, rfl, rfl, rfl⟩
      · have e1 : S.size = 0 := h2 rfl rfl
        have f1 : ¬ (S.size : Int) > 0 := by omega
        clear h1 h2 h3 e1
        by_cases f2 : (T.size : Int) > 0
        · go_wp2
          exact HQ.out _ ⟨rfl, rfl, rfl, rfl, rfl, rfl, rfl, rfl, rfl, rfl, rfl, rfl, rfl⟩
        · go_wp2
          exact HQ.out _ ⟨rfl, rfl, rfl, rfl, rfl, rfl, rfl, rfl, rfl, rfl, rfl, rfl, rfl⟩
  · cases q
    · cases r
      · go_wp2
        exact HQ.out _ ⟨rfl, rfl, rfl, rfl, rfl, rfl, rfl, rfl, rfl, rfl, rfl, rfl, rfl⟩
      · have e2 : T.size = 0 := h3 rfl rfl
        have f2 : ¬ (T.size : Int) > 0 := by omega
        clear h1 h2 h3 e2
        by_cases f1 : (S.size : Int) > 0
        · go_wp2
          exact HQ.out _ ⟨rfl, rfl, rfl, rfl, rfl, rfl, rfl, rfl, rfl, rfl, rfl, rfl, rfl⟩
        · go_wp2
          exact HQ.out _ ⟨rfl, rfl, rfl, rfl, rfl, rfl, rfl, rfl, rfl, rfl, rfl, rfl, rfl⟩
    · by_cases f3 : (S.size : Int) + (T.size : Int) ≤ 20
      · have e1 : r = true := by rw [h1 rfl rfl]; exact decide_eq_true f3
        subst e1
        clear h1 h2 h3
        by_cases f1 : (S.size : Int) > 0
        · by_cases f2 : (T.size : Int) > 0
          · go_wp2
            exact HQ.out _ ⟨rfl, rfl, rfl, rfl, rfl, rfl, rfl, rfl, rfl, rfl, rfl, rfl, rfl⟩
          · go_wp2
            exact HQ.out _ ⟨rfl, rfl, rfl, rfl, rfl, rfl, rfl, rfl, rfl, rfl, rfl, rfl, rfl⟩
        · by_cases f2 : (T.size : Int) > 0
          · go_wp2
            exact HQ.out _ ⟨rfl, rfl, rfl, rfl, rfl, rfl, rfl, rfl, rfl, rfl, rfl, rfl, rfl⟩
          · go_wp2
            exact HQ.out _ ⟨rfl, rfl, rfl, rfl, rfl, rfl, rfl, rfl, rfl, rfl, rfl, rfl, rfl⟩
      · have e1 : r = false := by rw [h1 rfl rfl]; exact decide_eq_false f3
        subst e1
        clear h1 h2 h3
        go_wp2
        exact HQ.out _ ⟨rfl, rfl, rfl, rfl, rfl, rfl, rfl, rfl, rfl, rfl, rfl, rfl, rfl⟩
set_option maxHeartbeats 8000000 in
set_option maxRecDepth 100000 in
theorem ww_r7 {K : Act → World → Prop} {c : Code} (hc : regOf (Tryd.f3.body.getD .skip) 7 = some c) (a : Act) {v : Vww} {wq : World}  (hF : Fww a v) (hQ : ∀ a', Fww a' { v with v9 := .int .i64 0 } → K a' wq) :
    Code.wp Tryd.prog c (Exit.then K fun _ _ _ => False) a wq := by
  have HQ := hide hQ
  clear hQ
  obtain ⟨t', d'⟩ := a
  obtain ⟨v0, v1, v4, v5, v6, v7, v8, v9, v53, v57, v85⟩ := v
  obtain ⟨hs1, hd1, q0, q1, q4, q5, q6, q7, q8, q9, q53, q57, q85⟩ := hF
  obtain ⟨u, hu⟩ := frame_ww t' hs1
  simp only at hd1 q0 q1 q4 q5 q6 q7 q8 q9 q53 q57 q85
  subst hu hd1
  have e0 : u 0 = v0 := q0
  have e1 : u 1 = v1 := q1
  have e4 : u 4 = v4 := q4
  have e5 : u 5 = v5 := q5
  have e6 : u 6 = v6 := q6
  have e7 : u 7 = v7 := q7
  have e8 : u 8 = v8 := q8
  have e9 : u 9 = v9 := q9
  have e53 : u 53 = v53 := q53
  have e57 : u 57 = v57 := q57
  have e85 : u 85 = v85 := q85
  rw [e0, e1, e4, e5, e6, e7, e8, e9, e53, e57, e85]
  clear q0 e0 q1 e1 q4 e4 q5 e5 q6 e6 q7 e7 q8 e8 q9 e9 q53 e53 q57 e57 q85 e85 hs1
  simp only [Tryd.f3, Option.getD_some, regOf] at hc
  injection hc with hc
  subst hc
  generalize u 2 = u2
  generalize u 3 = u3
  generalize u 10 = u10
  generalize u 11 = u11
  generalize u 12 = u12
  generalize u 13 = u13
  generalize u 14 = u14
  generalize u 15 = u15
  generalize u 16 = u16
  generalize u 17 = u17
  generalize u 18 = u18
  generalize u 19 = u19
  generalize u 20 = u20
  generalize u 21 = u21
  generalize u 22 = u22
  generalize u 23 = u23
  generalize u 24 = u24
  generalize u 25 = u25
  generalize u 26 = u26
  generalize u 27 = u27
  generalize u 28 = u28
  generalize u 29 = u29
  generalize u 30 = u30
  generalize u 31 = u31
  generalize u 32 = u32
  generalize u 33 = u33
  generalize u 34 = u34
  generalize u 35 = u35
  generalize u 36 = u36
  generalize u 37 = u37
  generalize u 38 = u38
  generalize u 39 = u39
  generalize u 40 = u40
  generalize u 41 = u41
  generalize u 42 = u42
  generalize u 43 = u43
  generalize u 44 = u44
  generalize u 45 = u45
  generalize u 46 = u46
  generalize u 47 = u47
  generalize u 48 = u48
  generalize u 49 = u49
  generalize u 50 = u50
  generalize u 51 = u51
  generalize u 52 = u52
  generalize u 54 = u54
  generalize u 55 = u55
  generalize u 56 = u56
  generalize u 58 = u58
  generalize u 59 = u59
  generalize u 60 = u60
  generalize u 61 = u61
  generalize u 62 = u62
  generalize u 63 = u63
  generalize u 64 = u64
  generalize u 65 = u65
  generalize u 66 = u66
  generalize u 67 = u67
  generalize u 68 = u68
  generalize u 69 = u69
  generalize u 70 = u70
  generalize u 71 = u71
  generalize u 72 = u72
  generalize u 73 = u73
  generalize u 74 = u74
  generalize u 75 = u75
  generalize u 76 = u76
  generalize u 77 = u77
  generalize u 78 = u78
  generalize u 79 = u79
  generalize u 80 = u80
  generalize u 81 = u81
  generalize u 82 = u82
  generalize u 83 = u83
  generalize u 84 = u84
  generalize u 86 = u86
  generalize u 87 = u87
  generalize u 88 = u88
  generalize u 89 = u89
  generalize u 90 = u90
  generalize u 91 = u91
  generalize u 92 = u92
  generalize u 93 = u93
  generalize u 94 = u94
  generalize u 95 = u95
  clear u
  go_wp2
  exact HQ.out _ ⟨rfl, rfl, rfl, rfl, rfl, rfl, rfl, rfl, rfl, rfl, rfl, rfl, rfl⟩
set_option maxHeartbeats 8000000 in
set_option maxRecDepth 100000 in
theorem ww_r8 {K : Act → World → Prop} {c : Code} (hc : regOf (Tryd.f3.body.getD .skip) 8 = some c) (a : Act) {v : Vww} {wq : World} {S : ByteArray} {k : Nat} (hF : Fww a v) (h0v : v.v0 = .string S) (h9v : v.v9 = .int .i64 (k : Int)) (h6 : S.size ≤ 9223372036854775807)
    (hQ : ∀ a', Fww a' { v with v57 := .bool (decide ((k : Int) < (S.size : Int))) } → K a' wq) :
    Code.wp Tryd.prog c (Exit.then K fun _ _ _ => False) a wq := by
  have HQ := hide hQ
  clear hQ
  obtain ⟨t', d'⟩ := a
  obtain ⟨v0, v1, v4, v5, v6, v7, v8, v9, v53, v57, v85⟩ := v
  simp only at h0v h9v HQ
  subst h0v h9v
  obtain ⟨hs1, hd1, q0, q1, q4, q5, q6, q7, q8, q9, q53, q57, q85⟩ := hF
  obtain ⟨u, hu⟩ := frame_ww t' hs1
  simp only at hd1 q0 q1 q4 q5 q6 q7 q8 q9 q53 q57 q85
  subst hu hd1
  have e0 : u 0 = .string S := q0
  have e1 : u 1 = v1 := q1
  have e4 : u 4 = v4 := q4
  have e5 : u 5 = v5 := q5
  have e6 : u 6 = v6 := q6
  have e7 : u 7 = v7 := q7
  have e8 : u 8 = v8 := q8
  have e9 : u 9 = .int .i64 (k : Int) := q9
  have e53 : u 53 = v53 := q53
  have e57 : u 57 = v57 := q57
  have e85 : u 85 = v85 := q85
  rw [e0, e1, e4, e5, e6, e7, e8, e9, e53, e57, e85]
  clear q0 e0 q1 e1 q4 e4 q5 e5 q6 e6 q7 e7 q8 e8 q9 e9 q53 e53 q57 e57 q85 e85 hs1
  simp only [Tryd.f3, Option.getD_some, regOf] at hc
  injection hc with hc
  subst hc
  generalize u 2 = u2
  generalize u 3 = u3
  generalize u 10 = u10
  generalize u 11 = u11
  generalize u 12 = u12
  generalize u 13 = u13
  generalize u 14 = u14
  generalize u 15 = u15
  generalize u 16 = u16
  generalize u 17 = u17
  generalize u 18 = u18
  generalize u 19 = u19
  generalize u 20 = u20
  generalize u 21 = u21
  generalize u 22 = u22
  generalize u 23 = u23
  generalize u 24 = u24
  generalize u 25 = u25
  generalize u 26 = u26
  generalize u 27 = u27
  generalize u 28 = u28
  generalize u 29 = u29
  generalize u 30 = u30
  generalize u 31 = u31
  generalize u 32 = u32
  generalize u 33 = u33
  generalize u 34 = u34
  generalize u 35 = u35
  generalize u 36 = u36
  generalize u 37 = u37
  generalize u 38 = u38
  generalize u 39 = u39
  generalize u 40 = u40
  generalize u 41 = u41
  generalize u 42 = u42
  generalize u 43 = u43
  generalize u 44 = u44
  generalize u 45 = u45
  generalize u 46 = u46
  generalize u 47 = u47
  generalize u 48 = u48
  generalize u 49 = u49
  generalize u 50 = u50
  generalize u 51 = u51
  generalize u 52 = u52
  generalize u 54 = u54
  generalize u 55 = u55
  generalize u 56 = u56
  generalize u 58 = u58
  generalize u 59 = u59
  generalize u 60 = u60
  generalize u 61 = u61
  generalize u 62 = u62
  generalize u 63 = u63
  generalize u 64 = u64
  generalize u 65 = u65
  generalize u 66 = u66
  generalize u 67 = u67
  generalize u 68 = u68
  generalize u 69 = u69
  generalize u 70 = u70
  generalize u 71 = u71
  generalize u 72 = u72
  generalize u 73 = u73
  generalize u 74 = u74
  generalize u 75 = u75
  generalize u 76 = u76
  generalize u 77 = u77
  generalize u 78 = u78
  generalize u 79 = u79
  generalize u 80 = u80
  generalize u 81 = u81
  generalize u 82 = u82
  generalize u 83 = u83
  generalize u 84 = u84
  generalize u 86 = u86
  generalize u 87 = u87
  generalize u 88 = u88
  generalize u 89 = u89
  generalize u 90 = u90
  generalize u 91 = u91
  generalize u 92 = u92
  generalize u 93 = u93
  generalize u 94 = u94
  generalize u 95 = u95
  clear u
  by_cases h : (k : Int) < (S.size : Int)
  · rw [decide_eq_true h] at HQ
    go_wp2
    exact HQ.out _ ⟨rfl, rfl, rfl, rfl, rfl, rfl, rfl, rfl, rfl, rfl, rfl, rfl, rfl⟩
  · rw [decide_eq_false h] at HQ
    go_wp2
    exact HQ.out _ ⟨rfl, rfl, rfl, rfl, rfl, rfl, rfl, rfl, rfl, rfl, rfl, rfl, rfl⟩
set_option maxHeartbeats 8000000 in
set_option maxRecDepth 100000 in
theorem ww_r10 {K : Act → World → Prop} {c : Code} (hc : regOf (Tryd.f3.body.getD .skip) 10 = some c) (a : Act) {v : Vww} {wq : World} {S : ByteArray} {k : Nat} {p : Bool} (hF : Fww a v) (h0v : v.v0 = .string S) (h9v : v.v9 = .int .i64 (k : Int)) (h6v : v.v6 = .bool p) (hk : k < S.size) (h6 : S.size ≤ 9223372036854775807) (hl : p = true → letB S[k].toNat = true)
    (hQ : ∀ a', Fww a' { v with v85 := .bool false } → K a' wq) :
    Code.wp Tryd.prog c (Exit.then K fun _ _ _ => False) a wq := by
  have HQ := hide hQ
  clear hQ
  obtain ⟨t', d'⟩ := a
  obtain ⟨v0, v1, v4, v5, v6, v7, v8, v9, v53, v57, v85⟩ := v
  simp only at h0v h9v h6v HQ
  subst h0v h9v h6v
  obtain ⟨hs1, hd1, q0, q1, q4, q5, q6, q7, q8, q9, q53, q57, q85⟩ := hF
  obtain ⟨u, hu⟩ := frame_ww t' hs1
  simp only at hd1 q0 q1 q4 q5 q6 q7 q8 q9 q53 q57 q85
  subst hu hd1
  have e0 : u 0 = .string S := q0
  have e1 : u 1 = v1 := q1
  have e4 : u 4 = v4 := q4
  have e5 : u 5 = v5 := q5
  have e6 : u 6 = .bool p := q6
  have e7 : u 7 = v7 := q7
  have e8 : u 8 = v8 := q8
  have e9 : u 9 = .int .i64 (k : Int) := q9
  have e53 : u 53 = v53 := q53
  have e57 : u 57 = v57 := q57
  have e85 : u 85 = v85 := q85
  rw [e0, e1, e4, e5, e6, e7, e8, e9, e53, e57, e85]
  clear q0 e0 q1 e1 q4 e4 q5 e5 q6 e6 q7 e7 q8 e8 q9 e9 q53 e53 q57 e57 q85 e85 hs1
  simp only [Tryd.f3, Option.getD_some, regOf] at hc
  injection hc with hc
  subst hc
  generalize u 2 = u2
  generalize u 3 = u3
  generalize u 10 = u10
  generalize u 11 = u11
  generalize u 12 = u12
  generalize u 13 = u13
  generalize u 14 = u14
  generalize u 15 = u15
  generalize u 16 = u16
  generalize u 17 = u17
  generalize u 18 = u18
  generalize u 19 = u19
  generalize u 20 = u20
  generalize u 21 = u21
  generalize u 22 = u22
  generalize u 23 = u23
  generalize u 24 = u24
  generalize u 25 = u25
  generalize u 26 = u26
  generalize u 27 = u27
  generalize u 28 = u28
  generalize u 29 = u29
  generalize u 30 = u30
  generalize u 31 = u31
  generalize u 32 = u32
  generalize u 33 = u33
  generalize u 34 = u34
  generalize u 35 = u35
  generalize u 36 = u36
  generalize u 37 = u37
  generalize u 38 = u38
  generalize u 39 = u39
  generalize u 40 = u40
  generalize u 41 = u41
  generalize u 42 = u42
  generalize u 43 = u43
  generalize u 44 = u44
  generalize u 45 = u45
  generalize u 46 = u46
  generalize u 47 = u47
  generalize u 48 = u48
  generalize u 49 = u49
  generalize u 50 = u50
  generalize u 51 = u51
  generalize u 52 = u52
  generalize u 54 = u54
  generalize u 55 = u55
  generalize u 56 = u56
  generalize u 58 = u58
  generalize u 59 = u59
  generalize u 60 = u60
  generalize u 61 = u61
  generalize u 62 = u62
  generalize u 63 = u63
  generalize u 64 = u64
  generalize u 65 = u65
  generalize u 66 = u66
  generalize u 67 = u67
  generalize u 68 = u68
  generalize u 69 = u69
  generalize u 70 = u70
  generalize u 71 = u71
  generalize u 72 = u72
  generalize u 73 = u73
  generalize u 74 = u74
  generalize u 75 = u75
  generalize u 76 = u76
  generalize u 77 = u77
  generalize u 78 = u78
  generalize u 79 = u79
  generalize u 80 = u80
  generalize u 81 = u81
  generalize u 82 = u82
  generalize u 83 = u83
  generalize u 84 = u84
  generalize u 86 = u86
  generalize u 87 = u87
  generalize u 88 = u88
  generalize u 89 = u89
  generalize u 90 = u90
  generalize u 91 = u91
  generalize u 92 = u92
  generalize u 93 = u93
  generalize u 94 = u94
  generalize u 95 = u95
  clear u
  cases p
  · go_wp2
    exact HQ.out _ ⟨rfl, rfl, rfl, rfl, rfl, rfl, rfl, rfl, rfl, rfl, rfl, rfl, rfl⟩
  · have hh := hl rfl
    have hkk : (k : Int) < (S.size : Int) := by omega
    clear hl
    unfold letB at hh
    by_cases g1 : (97 : Int) ≤ (S[k].toNat : Int)
    · by_cases g2 : (S[k].toNat : Int) ≤ 122
      · clear hh
        go_wp2
        exact HQ.out _ ⟨rfl, rfl, rfl, rfl, rfl, rfl, rfl, rfl, rfl, rfl, rfl, rfl, rfl⟩
      · exfalso
        simp at hh
        omega
    · have g3 : (48 : Int) ≤ (S[k].toNat : Int) := by simp at hh; omega
      have g4 : (S[k].toNat : Int) ≤ 57 := by simp at hh; omega
      clear hh
      go_wp2
      exact HQ.out _ ⟨rfl, rfl, rfl, rfl, rfl, rfl, rfl, rfl, rfl, rfl, rfl, rfl, rfl⟩
set_option maxHeartbeats 8000000 in
set_option maxRecDepth 100000 in
theorem ww_r9 {K : Act → World → Prop} {c : Code} (hc : regOf (Tryd.f3.body.getD .skip) 9 = some c) (a : Act) {v : Vww} {wq : World} {k : Nat} (hF : Fww a v) (h9v : v.v9 = .int .i64 (k : Int)) (hk : (k : Int) < 9223372036854775807)
    (hQ : ∀ a', Fww a' { v with v9 := .int .i64 ((k + 1 : Nat) : Int) } → K a' wq) :
    Code.wp Tryd.prog c (Exit.then K fun _ _ _ => False) a wq := by
  have HQ := hide hQ
  clear hQ
  obtain ⟨t', d'⟩ := a
  obtain ⟨v0, v1, v4, v5, v6, v7, v8, v9, v53, v57, v85⟩ := v
  simp only at h9v HQ
  subst h9v
  obtain ⟨hs1, hd1, q0, q1, q4, q5, q6, q7, q8, q9, q53, q57, q85⟩ := hF
  obtain ⟨u, hu⟩ := frame_ww t' hs1
  simp only at hd1 q0 q1 q4 q5 q6 q7 q8 q9 q53 q57 q85
  subst hu hd1
  have e0 : u 0 = v0 := q0
  have e1 : u 1 = v1 := q1
  have e4 : u 4 = v4 := q4
  have e5 : u 5 = v5 := q5
  have e6 : u 6 = v6 := q6
  have e7 : u 7 = v7 := q7
  have e8 : u 8 = v8 := q8
  have e9 : u 9 = .int .i64 (k : Int) := q9
  have e53 : u 53 = v53 := q53
  have e57 : u 57 = v57 := q57
  have e85 : u 85 = v85 := q85
  rw [e0, e1, e4, e5, e6, e7, e8, e9, e53, e57, e85]
  clear q0 e0 q1 e1 q4 e4 q5 e5 q6 e6 q7 e7 q8 e8 q9 e9 q53 e53 q57 e57 q85 e85 hs1
  simp only [Tryd.f3, Option.getD_some, regOf] at hc
  injection hc with hc
  subst hc
  generalize u 2 = u2
  generalize u 3 = u3
  generalize u 10 = u10
  generalize u 11 = u11
  generalize u 12 = u12
  generalize u 13 = u13
  generalize u 14 = u14
  generalize u 15 = u15
  generalize u 16 = u16
  generalize u 17 = u17
  generalize u 18 = u18
  generalize u 19 = u19
  generalize u 20 = u20
  generalize u 21 = u21
  generalize u 22 = u22
  generalize u 23 = u23
  generalize u 24 = u24
  generalize u 25 = u25
  generalize u 26 = u26
  generalize u 27 = u27
  generalize u 28 = u28
  generalize u 29 = u29
  generalize u 30 = u30
  generalize u 31 = u31
  generalize u 32 = u32
  generalize u 33 = u33
  generalize u 34 = u34
  generalize u 35 = u35
  generalize u 36 = u36
  generalize u 37 = u37
  generalize u 38 = u38
  generalize u 39 = u39
  generalize u 40 = u40
  generalize u 41 = u41
  generalize u 42 = u42
  generalize u 43 = u43
  generalize u 44 = u44
  generalize u 45 = u45
  generalize u 46 = u46
  generalize u 47 = u47
  generalize u 48 = u48
  generalize u 49 = u49
  generalize u 50 = u50
  generalize u 51 = u51
  generalize u 52 = u52
  generalize u 54 = u54
  generalize u 55 = u55
  generalize u 56 = u56
  generalize u 58 = u58
  generalize u 59 = u59
  generalize u 60 = u60
  generalize u 61 = u61
  generalize u 62 = u62
  generalize u 63 = u63
  generalize u 64 = u64
  generalize u 65 = u65
  generalize u 66 = u66
  generalize u 67 = u67
  generalize u 68 = u68
  generalize u 69 = u69
  generalize u 70 = u70
  generalize u 71 = u71
  generalize u 72 = u72
  generalize u 73 = u73
  generalize u 74 = u74
  generalize u 75 = u75
  generalize u 76 = u76
  generalize u 77 = u77
  generalize u 78 = u78
  generalize u 79 = u79
  generalize u 80 = u80
  generalize u 81 = u81
  generalize u 82 = u82
  generalize u 83 = u83
  generalize u 84 = u84
  generalize u 86 = u86
  generalize u 87 = u87
  generalize u 88 = u88
  generalize u 89 = u89
  generalize u 90 = u90
  generalize u 91 = u91
  generalize u 92 = u92
  generalize u 93 = u93
  generalize u 94 = u94
  generalize u 95 = u95
  clear u
  go_wp2
  exact HQ.out _ ⟨rfl, rfl, rfl, rfl, rfl, rfl, rfl, rfl, rfl, (by simp [Array.getD]), rfl, rfl, rfl⟩
set_option maxHeartbeats 8000000 in
set_option maxRecDepth 100000 in
theorem ww_r12 {K : Act → World → Prop} {c : Code} (hc : regOf (Tryd.f3.body.getD .skip) 12 = some c) (a : Act) {v : Vww} {wq : World} {S : ByteArray} {p : Bool} (hF : Fww a v) (h0v : v.v0 = .string S) (h5v : v.v5 = .bool true) (h6v : v.v6 = .bool p) (h6 : S.size ≤ 9223372036854775807) (hp : p = true → 1 ≤ S.size)
    (hQ : ∀ a', Fww a' { v with v4 := .bool true } → K a' wq) :
    Code.wp Tryd.prog c (Exit.then K fun _ _ _ => False) a wq := by
  have HQ := hide hQ
  clear hQ
  obtain ⟨t', d'⟩ := a
  obtain ⟨v0, v1, v4, v5, v6, v7, v8, v9, v53, v57, v85⟩ := v
  simp only at h0v h5v h6v HQ
  subst h0v h5v h6v
  obtain ⟨hs1, hd1, q0, q1, q4, q5, q6, q7, q8, q9, q53, q57, q85⟩ := hF
  obtain ⟨u, hu⟩ := frame_ww t' hs1
  simp only at hd1 q0 q1 q4 q5 q6 q7 q8 q9 q53 q57 q85
  subst hu hd1
  have e0 : u 0 = .string S := q0
  have e1 : u 1 = v1 := q1
  have e4 : u 4 = v4 := q4
  have e5 : u 5 = .bool true := q5
  have e6 : u 6 = .bool p := q6
  have e7 : u 7 = v7 := q7
  have e8 : u 8 = v8 := q8
  have e9 : u 9 = v9 := q9
  have e53 : u 53 = v53 := q53
  have e57 : u 57 = v57 := q57
  have e85 : u 85 = v85 := q85
  rw [e0, e1, e4, e5, e6, e7, e8, e9, e53, e57, e85]
  clear q0 e0 q1 e1 q4 e4 q5 e5 q6 e6 q7 e7 q8 e8 q9 e9 q53 e53 q57 e57 q85 e85 hs1
  simp only [Tryd.f3, Option.getD_some, regOf] at hc
  injection hc with hc
  subst hc
  generalize u 2 = u2
  generalize u 3 = u3
  generalize u 10 = u10
  generalize u 11 = u11
  generalize u 12 = u12
  generalize u 13 = u13
  generalize u 14 = u14
  generalize u 15 = u15
  generalize u 16 = u16
  generalize u 17 = u17
  generalize u 18 = u18
  generalize u 19 = u19
  generalize u 20 = u20
  generalize u 21 = u21
  generalize u 22 = u22
  generalize u 23 = u23
  generalize u 24 = u24
  generalize u 25 = u25
  generalize u 26 = u26
  generalize u 27 = u27
  generalize u 28 = u28
  generalize u 29 = u29
  generalize u 30 = u30
  generalize u 31 = u31
  generalize u 32 = u32
  generalize u 33 = u33
  generalize u 34 = u34
  generalize u 35 = u35
  generalize u 36 = u36
  generalize u 37 = u37
  generalize u 38 = u38
  generalize u 39 = u39
  generalize u 40 = u40
  generalize u 41 = u41
  generalize u 42 = u42
  generalize u 43 = u43
  generalize u 44 = u44
  generalize u 45 = u45
  generalize u 46 = u46
  generalize u 47 = u47
  generalize u 48 = u48
  generalize u 49 = u49
  generalize u 50 = u50
  generalize u 51 = u51
  generalize u 52 = u52
  generalize u 54 = u54
  generalize u 55 = u55
  generalize u 56 = u56
  generalize u 58 = u58
  generalize u 59 = u59
  generalize u 60 = u60
  generalize u 61 = u61
  generalize u 62 = u62
  generalize u 63 = u63
  generalize u 64 = u64
  generalize u 65 = u65
  generalize u 66 = u66
  generalize u 67 = u67
  generalize u 68 = u68
  generalize u 69 = u69
  generalize u 70 = u70
  generalize u 71 = u71
  generalize u 72 = u72
  generalize u 73 = u73
  generalize u 74 = u74
  generalize u 75 = u75
  generalize u 76 = u76
  generalize u 77 = u77
  generalize u 78 = u78
  generalize u 79 = u79
  generalize u 80 = u80
  generalize u 81 = u81
  generalize u 82 = u82
  generalize u 83 = u83
  generalize u 84 = u84
  generalize u 86 = u86
  generalize u 87 = u87
  generalize u 88 = u88
  generalize u 89 = u89
  generalize u 90 = u90
  generalize u 91 = u91
  generalize u 92 = u92
  generalize u 93 = u93
  generalize u 94 = u94
  generalize u 95 = u95
  clear u
  cases p
  · go_wp2
    exact HQ.out _ ⟨rfl, rfl, rfl, rfl, rfl, rfl, rfl, rfl, rfl, rfl, rfl, rfl, rfl⟩
  · have e1 : (S.size : Int) ≥ 1 := by have := hp rfl; omega
    clear hp
    go_wp2
    exact HQ.out _ ⟨rfl, rfl, rfl, rfl, rfl, rfl, rfl, rfl, rfl, rfl, rfl, rfl, rfl⟩
theorem ww_ret {W : World} {a : Act} {v : Vww} {b : Bool} {R : Ending → World → Prop} (hF : Fww a v) (h0 : v.v4 = .bool b) (h : R (.returned (.bool b)) W) :
    bodyPost Tryd.prog Tryd.f3 R .ret a W := by
  have g0 := slot_get (hF.s4.trans h0)
  refine bodyPost_ret (v := .bool b) ?_ hF.defers h
  simp [results, Tryd.results3, go_sem, g0]
end Go.Proofs.YthfflefnapbkiabDoor
