/-
  carillonref14's Decode: its regions (mkrdec.py)
-/
import Derived.Test.YthfflefnapbkiaaDoorZHI
import Derived.Test.YthfflefnapbkiaaDoorZCA
import Derived.Test.YthfflefnapbkiaaDoorZLast
import Derived.Test.YthfflefnapbkiaaDoorZHA
import Derived.Test.YthfflefnapbkiaaDoorZGI
namespace Go.Proofs.YthfflefnapbkiaaDoor
open Go.RowKit

attribute [local go_sem ↓] Go.wp_at_zero Go.wp_at_succ
set_option linter.unusedSimpArgs false
set_option linter.unusedVariables false
set_option maxRecDepth 100000 in
theorem frame_rd (t : Array Value) (h : t.size = 86) : ∃ u : Nat → Value, t = List.toArray (u 0 :: u 1 :: u 2 :: u 3 :: u 4 :: u 5 :: u 6 :: u 7 :: u 8 :: u 9 :: u 10 :: u 11 :: u 12 :: u 13 :: u 14 :: u 15 :: u 16 :: u 17 :: u 18 :: u 19 :: u 20 :: u 21 :: u 22 :: u 23 :: u 24 :: u 25 :: u 26 :: u 27 :: u 28 :: u 29 :: u 30 :: u 31 :: u 32 :: u 33 :: u 34 :: u 35 :: u 36 :: u 37 :: u 38 :: u 39 :: u 40 :: u 41 :: u 42 :: u 43 :: u 44 :: u 45 :: u 46 :: u 47 :: u 48 :: u 49 :: u 50 :: u 51 :: u 52 :: u 53 :: u 54 :: u 55 :: u 56 :: u 57 :: u 58 :: u 59 :: u 60 :: u 61 :: u 62 :: u 63 :: u 64 :: u 65 :: u 66 :: u 67 :: u 68 :: u 69 :: u 70 :: u 71 :: u 72 :: u 73 :: u 74 :: u 75 :: u 76 :: u 77 :: u 78 :: u 79 :: u 80 :: u 81 :: u 82 :: u 83 :: u 84 :: u 85 :: []) := by
  refine ⟨fun i => t.getD i undef, ?_⟩
  have e : (List.toArray ((fun i => t.getD i undef) 0 :: (fun i => t.getD i undef) 1 :: (fun i => t.getD i undef) 2 :: (fun i => t.getD i undef) 3 :: (fun i => t.getD i undef) 4 :: (fun i => t.getD i undef) 5 :: (fun i => t.getD i undef) 6 :: (fun i => t.getD i undef) 7 :: (fun i => t.getD i undef) 8 :: (fun i => t.getD i undef) 9 :: (fun i => t.getD i undef) 10 :: (fun i => t.getD i undef) 11 :: (fun i => t.getD i undef) 12 :: (fun i => t.getD i undef) 13 :: (fun i => t.getD i undef) 14 :: (fun i => t.getD i undef) 15 :: (fun i => t.getD i undef) 16 :: (fun i => t.getD i undef) 17 :: (fun i => t.getD i undef) 18 :: (fun i => t.getD i undef) 19 :: (fun i => t.getD i undef) 20 :: (fun i => t.getD i undef) 21 :: (fun i => t.getD i undef) 22 :: (fun i => t.getD i undef) 23 :: (fun i => t.getD i undef) 24 :: (fun i => t.getD i undef) 25 :: (fun i => t.getD i undef) 26 :: (fun i => t.getD i undef) 27 :: (fun i => t.getD i undef) 28 :: (fun i => t.getD i undef) 29 :: (fun i => t.getD i undef) 30 :: (fun i => t.getD i undef) 31 :: (fun i => t.getD i undef) 32 :: (fun i => t.getD i undef) 33 :: (fun i => t.getD i undef) 34 :: (fun i => t.getD i undef) 35 :: (fun i => t.getD i undef) 36 :: (fun i => t.getD i undef) 37 :: (fun i => t.getD i undef) 38 :: (fun i => t.getD i undef) 39 :: (fun i => t.getD i undef) 40 :: (fun i => t.getD i undef) 41 :: (fun i => t.getD i undef) 42 :: (fun i => t.getD i undef) 43 :: (fun i => t.getD i undef) 44 :: (fun i => t.getD i undef) 45 :: (fun i => t.getD i undef) 46 :: (fun i => t.getD i undef) 47 :: (fun i => t.getD i undef) 48 :: (fun i => t.getD i undef) 49 :: (fun i => t.getD i undef) 50 :: (fun i => t.getD i undef) 51 :: (fun i => t.getD i undef) 52 :: (fun i => t.getD i undef) 53 :: (fun i => t.getD i undef) 54 :: (fun i => t.getD i undef) 55 :: (fun i => t.getD i undef) 56 :: (fun i => t.getD i undef) 57 :: (fun i => t.getD i undef) 58 :: (fun i => t.getD i undef) 59 :: (fun i => t.getD i undef) 60 :: (fun i => t.getD i undef) 61 :: (fun i => t.getD i undef) 62 :: (fun i => t.getD i undef) 63 :: (fun i => t.getD i undef) 64 :: (fun i => t.getD i undef) 65 :: (fun i => t.getD i undef) 66 :: (fun i => t.getD i undef) 67 :: (fun i => t.getD i undef) 68 :: (fun i => t.getD i undef) 69 :: (fun i => t.getD i undef) 70 :: (fun i => t.getD i undef) 71 :: (fun i => t.getD i undef) 72 :: (fun i => t.getD i undef) 73 :: (fun i => t.getD i undef) 74 :: (fun i => t.getD i undef) 75 :: (fun i => t.getD i undef) 76 :: (fun i => t.getD i undef) 77 :: (fun i => t.getD i undef) 78 :: (fun i => t.getD i undef) 79 :: (fun i => t.getD i undef) 80 :: (fun i => t.getD i undef) 81 :: (fun i => t.getD i undef) 82 :: (fun i => t.getD i undef) 83 :: (fun i => t.getD i undef) 84 :: (fun i => t.getD i undef) 85 :: []) : Array Value) = ((List.range 86).map fun i => t.getD i undef).toArray := rfl
  refine Eq.trans ?_ e.symm
  apply Array.ext
  · simp [h]
  · intro k h1 h2
    simp [Array.getD, h1]
/-- The slots that matter. -/
structure Vrd where
  v0 : Value
  v2 : Value
  v3 : Value
  v4 : Value
  v5 : Value
  v6 : Value
  v7 : Value
  v14 : Value
  v35 : Value
  v83 : Value
structure Frd (a : Act) (v : Vrd) : Prop where
  size : a.tmps.size = 86
  defers : a.defers = []
  s0 : a.tmps.getD 0 undef = v.v0
  s2 : a.tmps.getD 2 undef = v.v2
  s3 : a.tmps.getD 3 undef = v.v3
  s4 : a.tmps.getD 4 undef = v.v4
  s5 : a.tmps.getD 5 undef = v.v5
  s6 : a.tmps.getD 6 undef = v.v6
  s7 : a.tmps.getD 7 undef = v.v7
  s14 : a.tmps.getD 14 undef = v.v14
  s35 : a.tmps.getD 35 undef = v.v35
  s83 : a.tmps.getD 83 undef = v.v83
set_option maxHeartbeats 8000000 in
set_option maxRecDepth 100000 in
theorem rd_r0 {K : Act → World → Prop} {c : Code} (hc : regOf (Tryd.f11.body.getD .skip) 0 = some c) (a : Act) {v : Vrd} {wq : World}  (hF : Frd a v) (hQ : ∀ a' w' b, Frd a' { v with v2 := .pointer (some ⟨b, 0, none⟩), v3 := .int .i64 0 } → w'.heap[b]? = some (.cells CM.zero.cells 23 (0, 0)) → wq.heap.size ≤ b → Below wq.heap.size wq w' → K a' w') :
    Code.wp Tryd.prog c (Exit.then K fun _ _ _ => False) a wq := by
  have HQ := hide hQ
  clear hQ
  obtain ⟨t', d'⟩ := a
  obtain ⟨v0, v2, v3, v4, v5, v6, v7, v14, v35, v83⟩ := v
  obtain ⟨hs1, hd1, q0, q2, q3, q4, q5, q6, q7, q14, q35, q83⟩ := hF
  obtain ⟨u, hu⟩ := frame_rd t' hs1
  simp only at hd1 q0 q2 q3 q4 q5 q6 q7 q14 q35 q83
  subst hu hd1
  have e0 : u 0 = v0 := q0
  have e2 : u 2 = v2 := q2
  have e3 : u 3 = v3 := q3
  have e4 : u 4 = v4 := q4
  have e5 : u 5 = v5 := q5
  have e6 : u 6 = v6 := q6
  have e7 : u 7 = v7 := q7
  have e14 : u 14 = v14 := q14
  have e35 : u 35 = v35 := q35
  have e83 : u 83 = v83 := q83
  rw [e0, e2, e3, e4, e5, e6, e7, e14, e35, e83]
  clear q0 e0 q2 e2 q3 e3 q4 e4 q5 e5 q6 e6 q7 e7 q14 e14 q35 e35 q83 e83 hs1
  simp only [Tryd.f11, Option.getD_some, regOf] at hc
  injection hc with hc
  subst hc
  generalize u 1 = u1
  generalize u 8 = u8
  generalize u 9 = u9
  generalize u 10 = u10
  generalize u 11 = u11
  generalize u 12 = u12
  generalize u 13 = u13
  generalize u 15 = u15
  generalize u 16 = u16
  generalize u 17 = u17
  generalize u 18 = u18
  generalize u 19 = u19
  generalize u 20 = u20
  generalize u 21 = u21
  generalize u 22 = u22
  generalize u 23 = u23
  generalize u 24 = u24
  generalize u 25 = u25
  generalize u 26 = u26
  generalize u 27 = u27
  generalize u 28 = u28
  generalize u 29 = u29
  generalize u 30 = u30
  generalize u 31 = u31
  generalize u 32 = u32
  generalize u 33 = u33
  generalize u 34 = u34
  generalize u 36 = u36
  generalize u 37 = u37
  generalize u 38 = u38
  generalize u 39 = u39
  generalize u 40 = u40
  generalize u 41 = u41
  generalize u 42 = u42
  generalize u 43 = u43
  generalize u 44 = u44
  generalize u 45 = u45
  generalize u 46 = u46
  generalize u 47 = u47
  generalize u 48 = u48
  generalize u 49 = u49
  generalize u 50 = u50
  generalize u 51 = u51
  generalize u 52 = u52
  generalize u 53 = u53
  generalize u 54 = u54
  generalize u 55 = u55
  generalize u 56 = u56
  generalize u 57 = u57
  generalize u 58 = u58
  generalize u 59 = u59
  generalize u 60 = u60
  generalize u 61 = u61
  generalize u 62 = u62
  generalize u 63 = u63
  generalize u 64 = u64
  generalize u 65 = u65
  generalize u 66 = u66
  generalize u 67 = u67
  generalize u 68 = u68
  generalize u 69 = u69
  generalize u 70 = u70
  generalize u 71 = u71
  generalize u 72 = u72
  generalize u 73 = u73
  generalize u 74 = u74
  generalize u 75 = u75
  generalize u 76 = u76
  generalize u 77 = u77
  generalize u 78 = u78
  generalize u 79 = u79
  generalize u 80 = u80
  generalize u 81 = u81
  generalize u 82 = u82
  generalize u 84 = u84
  generalize u 85 = u85
  clear u
  go_wp2
  exact HQ.out _ _ wq.heap.size ⟨rfl, rfl, rfl, rfl, rfl, rfl, rfl, rfl, rfl, rfl, rfl, rfl⟩ (heap_alloc_new _ _) (Nat.le_refl _) ((Below.refl _ _).alloc (Nat.le_refl _) _)
set_option maxHeartbeats 8000000 in
set_option maxRecDepth 100000 in
theorem rd_r1 {K : Act → World → Prop} {c : Code} (hc : regOf (Tryd.f11.body.getD .skip) 1 = some c) (a : Act) {v : Vrd} {wq : World} {s : ByteArray} {er : Int} {P : Value → World → Prop} (hF : Frd a v) (h0v : v.v0 = .string s) (hC : Calls Tryd.prog 29 #[.string ⟨#[98, 116, 116, 108, 116, 116, 108, 98, 108]⟩, .string s] wq fun e w' => ∃ u, e = .returned (.tuple #[u, .int .i64 er]) ∧ P u w' ∧ Below wq.heap.size wq w')
    (hQ : ∀ a' w' u, Frd a' { v with v4 := u, v5 := .int .i64 er } → P u w' → Below wq.heap.size wq w' → K a' w') :
    Code.wp Tryd.prog c (Exit.then K fun _ _ _ => False) a wq := by
  have HQ := hide hQ
  clear hQ
  obtain ⟨t', d'⟩ := a
  obtain ⟨v0, v2, v3, v4, v5, v6, v7, v14, v35, v83⟩ := v
  simp only at h0v HQ
  subst h0v
  obtain ⟨hs1, hd1, q0, q2, q3, q4, q5, q6, q7, q14, q35, q83⟩ := hF
  obtain ⟨u, hu⟩ := frame_rd t' hs1
  simp only at hd1 q0 q2 q3 q4 q5 q6 q7 q14 q35 q83
  subst hu hd1
  have e0 : u 0 = .string s := q0
  have e2 : u 2 = v2 := q2
  have e3 : u 3 = v3 := q3
  have e4 : u 4 = v4 := q4
  have e5 : u 5 = v5 := q5
  have e6 : u 6 = v6 := q6
  have e7 : u 7 = v7 := q7
  have e14 : u 14 = v14 := q14
  have e35 : u 35 = v35 := q35
  have e83 : u 83 = v83 := q83
  rw [e0, e2, e3, e4, e5, e6, e7, e14, e35, e83]
  clear q0 e0 q2 e2 q3 e3 q4 e4 q5 e5 q6 e6 q7 e7 q14 e14 q35 e35 q83 e83 hs1
  simp only [Tryd.f11, Option.getD_some, regOf] at hc
  injection hc with hc
  subst hc
  generalize u 1 = u1
  generalize u 8 = u8
  generalize u 9 = u9
  generalize u 10 = u10
  generalize u 11 = u11
  generalize u 12 = u12
  generalize u 13 = u13
  generalize u 15 = u15
  generalize u 16 = u16
  generalize u 17 = u17
  generalize u 18 = u18
  generalize u 19 = u19
  generalize u 20 = u20
  generalize u 21 = u21
  generalize u 22 = u22
  generalize u 23 = u23
  generalize u 24 = u24
  generalize u 25 = u25
  generalize u 26 = u26
  generalize u 27 = u27
  generalize u 28 = u28
  generalize u 29 = u29
  generalize u 30 = u30
  generalize u 31 = u31
  generalize u 32 = u32
  generalize u 33 = u33
  generalize u 34 = u34
  generalize u 36 = u36
  generalize u 37 = u37
  generalize u 38 = u38
  generalize u 39 = u39
  generalize u 40 = u40
  generalize u 41 = u41
  generalize u 42 = u42
  generalize u 43 = u43
  generalize u 44 = u44
  generalize u 45 = u45
  generalize u 46 = u46
  generalize u 47 = u47
  generalize u 48 = u48
  generalize u 49 = u49
  generalize u 50 = u50
  generalize u 51 = u51
  generalize u 52 = u52
  generalize u 53 = u53
  generalize u 54 = u54
  generalize u 55 = u55
  generalize u 56 = u56
  generalize u 57 = u57
  generalize u 58 = u58
  generalize u 59 = u59
  generalize u 60 = u60
  generalize u 61 = u61
  generalize u 62 = u62
  generalize u 63 = u63
  generalize u 64 = u64
  generalize u 65 = u65
  generalize u 66 = u66
  generalize u 67 = u67
  generalize u 68 = u68
  generalize u 69 = u69
  generalize u 70 = u70
  generalize u 71 = u71
  generalize u 72 = u72
  generalize u 73 = u73
  generalize u 74 = u74
  generalize u 75 = u75
  generalize u 76 = u76
  generalize u 77 = u77
  generalize u 78 = u78
  generalize u 79 = u79
  generalize u 80 = u80
  generalize u 81 = u81
  generalize u 82 = u82
  generalize u 84 = u84
  generalize u 85 = u85
  clear u
  have HC := hide hC
  clear hC
  go_wp2_with (go_at_call 29; refine HC.out.mono ?_; rintro e w1 ⟨u, rfl, hu, b1⟩)
  exact HQ.out _ _ _ ⟨rfl, rfl, rfl, rfl, rfl, rfl, rfl, rfl, rfl, rfl, rfl, rfl⟩ hu b1
set_option maxHeartbeats 8000000 in
set_option maxRecDepth 100000 in
theorem rd_r2 {K : Act → World → Prop} {c : Code} (hc : regOf (Tryd.f11.body.getD .skip) 2 = some c) (a : Act) {v : Vrd} {wq : World} {er : Int} {bb : Bool} (hF : Frd a v) (h5v : v.v5 = .int .i64 er) (hz : (er != 0) = bb)
    (hQ : ∀ a', Frd a' { v with v14 := .bool bb } → K a' wq) :
    Code.wp Tryd.prog c (Exit.then K fun _ _ _ => False) a wq := by
  have HQ := hide hQ
  clear hQ
  obtain ⟨t', d'⟩ := a
  obtain ⟨v0, v2, v3, v4, v5, v6, v7, v14, v35, v83⟩ := v
  simp only at h5v HQ
  subst h5v
  obtain ⟨hs1, hd1, q0, q2, q3, q4, q5, q6, q7, q14, q35, q83⟩ := hF
  obtain ⟨u, hu⟩ := frame_rd t' hs1
  simp only at hd1 q0 q2 q3 q4 q5 q6 q7 q14 q35 q83
  subst hu hd1
  have e0 : u 0 = v0 := q0
  have e2 : u 2 = v2 := q2
  have e3 : u 3 = v3 := q3
  have e4 : u 4 = v4 := q4
  have e5 : u 5 = .int .i64 er := q5
  have e6 : u 6 = v6 := q6
  have e7 : u 7 = v7 := q7
  have e14 : u 14 = v14 := q14
  have e35 : u 35 = v35 := q35
  have e83 : u 83 = v83 := q83
  rw [e0, e2, e3, e4, e5, e6, e7, e14, e35, e83]
  clear q0 e0 q2 e2 q3 e3 q4 e4 q5 e5 q6 e6 q7 e7 q14 e14 q35 e35 q83 e83 hs1
  simp only [Tryd.f11, Option.getD_some, regOf] at hc
  injection hc with hc
  subst hc
  generalize u 1 = u1
  generalize u 8 = u8
  generalize u 9 = u9
  generalize u 10 = u10
  generalize u 11 = u11
  generalize u 12 = u12
  generalize u 13 = u13
  generalize u 15 = u15
  generalize u 16 = u16
  generalize u 17 = u17
  generalize u 18 = u18
  generalize u 19 = u19
  generalize u 20 = u20
  generalize u 21 = u21
  generalize u 22 = u22
  generalize u 23 = u23
  generalize u 24 = u24
  generalize u 25 = u25
  generalize u 26 = u26
  generalize u 27 = u27
  generalize u 28 = u28
  generalize u 29 = u29
  generalize u 30 = u30
  generalize u 31 = u31
  generalize u 32 = u32
  generalize u 33 = u33
  generalize u 34 = u34
  generalize u 36 = u36
  generalize u 37 = u37
  generalize u 38 = u38
  generalize u 39 = u39
  generalize u 40 = u40
  generalize u 41 = u41
  generalize u 42 = u42
  generalize u 43 = u43
  generalize u 44 = u44
  generalize u 45 = u45
  generalize u 46 = u46
  generalize u 47 = u47
  generalize u 48 = u48
  generalize u 49 = u49
  generalize u 50 = u50
  generalize u 51 = u51
  generalize u 52 = u52
  generalize u 53 = u53
  generalize u 54 = u54
  generalize u 55 = u55
  generalize u 56 = u56
  generalize u 57 = u57
  generalize u 58 = u58
  generalize u 59 = u59
  generalize u 60 = u60
  generalize u 61 = u61
  generalize u 62 = u62
  generalize u 63 = u63
  generalize u 64 = u64
  generalize u 65 = u65
  generalize u 66 = u66
  generalize u 67 = u67
  generalize u 68 = u68
  generalize u 69 = u69
  generalize u 70 = u70
  generalize u 71 = u71
  generalize u 72 = u72
  generalize u 73 = u73
  generalize u 74 = u74
  generalize u 75 = u75
  generalize u 76 = u76
  generalize u 77 = u77
  generalize u 78 = u78
  generalize u 79 = u79
  generalize u 80 = u80
  generalize u 81 = u81
  generalize u 82 = u82
  generalize u 84 = u84
  generalize u 85 = u85
  clear u
  go_wp2
  exact HQ.out _ ⟨rfl, rfl, rfl, rfl, rfl, rfl, rfl, rfl, rfl, rfl, rfl, rfl⟩
set_option maxHeartbeats 8000000 in
set_option maxRecDepth 100000 in
theorem rd_r3 {K : Act → World → Prop} {c : Code} (hc : regOf (Tryd.f11.body.getD .skip) 3 = some c) (a : Act) {v : Vrd} {wq : World} {rb B : Nat} {er : Int} (hF : Frd a v) (h2v : v.v2 = .pointer (some ⟨rb, 0, none⟩)) (h5v : v.v5 = .int .i64 er) (hB : wq.heap[rb]? = some (.cells CM.zero.cells 23 (0, 0))) (hrb : B ≤ rb)
    (hQ : ∀ a' w', Frd a' { v with v3 := .int .i64 er } → w'.heap[rb]? = some (.cells CM.zero.cells 23 (0, 0)) → Below B wq w' → K a' w') :
    Code.wp Tryd.prog c (Exit.then K fun _ _ _ => False) a wq := by
  have HQ := hide hQ
  clear hQ
  obtain ⟨t', d'⟩ := a
  obtain ⟨v0, v2, v3, v4, v5, v6, v7, v14, v35, v83⟩ := v
  simp only at h2v h5v HQ
  subst h2v h5v
  obtain ⟨hs1, hd1, q0, q2, q3, q4, q5, q6, q7, q14, q35, q83⟩ := hF
  obtain ⟨u, hu⟩ := frame_rd t' hs1
  simp only at hd1 q0 q2 q3 q4 q5 q6 q7 q14 q35 q83
  subst hu hd1
  have e0 : u 0 = v0 := q0
  have e2 : u 2 = .pointer (some ⟨rb, 0, none⟩) := q2
  have e3 : u 3 = v3 := q3
  have e4 : u 4 = v4 := q4
  have e5 : u 5 = .int .i64 er := q5
  have e6 : u 6 = v6 := q6
  have e7 : u 7 = v7 := q7
  have e14 : u 14 = v14 := q14
  have e35 : u 35 = v35 := q35
  have e83 : u 83 = v83 := q83
  rw [e0, e2, e3, e4, e5, e6, e7, e14, e35, e83]
  clear q0 e0 q2 e2 q3 e3 q4 e4 q5 e5 q6 e6 q7 e7 q14 e14 q35 e35 q83 e83 hs1
  simp only [Tryd.f11, Option.getD_some, regOf] at hc
  injection hc with hc
  subst hc
  generalize u 1 = u1
  generalize u 8 = u8
  generalize u 9 = u9
  generalize u 10 = u10
  generalize u 11 = u11
  generalize u 12 = u12
  generalize u 13 = u13
  generalize u 15 = u15
  generalize u 16 = u16
  generalize u 17 = u17
  generalize u 18 = u18
  generalize u 19 = u19
  generalize u 20 = u20
  generalize u 21 = u21
  generalize u 22 = u22
  generalize u 23 = u23
  generalize u 24 = u24
  generalize u 25 = u25
  generalize u 26 = u26
  generalize u 27 = u27
  generalize u 28 = u28
  generalize u 29 = u29
  generalize u 30 = u30
  generalize u 31 = u31
  generalize u 32 = u32
  generalize u 33 = u33
  generalize u 34 = u34
  generalize u 36 = u36
  generalize u 37 = u37
  generalize u 38 = u38
  generalize u 39 = u39
  generalize u 40 = u40
  generalize u 41 = u41
  generalize u 42 = u42
  generalize u 43 = u43
  generalize u 44 = u44
  generalize u 45 = u45
  generalize u 46 = u46
  generalize u 47 = u47
  generalize u 48 = u48
  generalize u 49 = u49
  generalize u 50 = u50
  generalize u 51 = u51
  generalize u 52 = u52
  generalize u 53 = u53
  generalize u 54 = u54
  generalize u 55 = u55
  generalize u 56 = u56
  generalize u 57 = u57
  generalize u 58 = u58
  generalize u 59 = u59
  generalize u 60 = u60
  generalize u 61 = u61
  generalize u 62 = u62
  generalize u 63 = u63
  generalize u 64 = u64
  generalize u 65 = u65
  generalize u 66 = u66
  generalize u 67 = u67
  generalize u 68 = u68
  generalize u 69 = u69
  generalize u 70 = u70
  generalize u 71 = u71
  generalize u 72 = u72
  generalize u 73 = u73
  generalize u 74 = u74
  generalize u 75 = u75
  generalize u 76 = u76
  generalize u 77 = u77
  generalize u 78 = u78
  generalize u 79 = u79
  generalize u 80 = u80
  generalize u 81 = u81
  generalize u 82 = u82
  generalize u 84 = u84
  generalize u 85 = u85
  clear u
  have H1 := hide (set9_box (c := CM.zero) hB)
  have H2 := hide (set9_below (B := B) (c := CM.zero) (Below.refl _ wq) hrb)
  simp only [CM.zero, CM.cells] at hB
  have c0 := box_cell hB 0 rfl
  have f0 := box_free hB 0
  have c1 := box_cell hB 1 rfl
  have f1 := box_free hB 1
  have c2 := box_cell hB 2 rfl
  have f2 := box_free hB 2
  have c3 := box_cell hB 3 rfl
  have f3 := box_free hB 3
  have c4 := box_cell hB 4 rfl
  have f4 := box_free hB 4
  have c5 := box_cell hB 5 rfl
  have f5 := box_free hB 5
  have c6 := box_cell hB 6 rfl
  have f6 := box_free hB 6
  have c7 := box_cell hB 7 rfl
  have f7 := box_free hB 7
  have c8 := box_cell hB 8 rfl
  have f8 := box_free hB 8
  clear hB hrb
  go_wp2
  exact HQ.out _ _ ⟨rfl, rfl, rfl, rfl, rfl, rfl, rfl, rfl, rfl, rfl, rfl, rfl⟩ H1.out H2.out
set_option maxHeartbeats 8000000 in
set_option maxRecDepth 100000 in
theorem rd_r5 {K : Act → World → Prop} {c : Code} (hc : regOf (Tryd.f11.body.getD .skip) 5 = some c) (a : Act) {v : Vrd} {wq : World} {rb B : Nat} (hF : Frd a v) (h2v : v.v2 = .pointer (some ⟨rb, 0, none⟩)) (hB : wq.heap[rb]? = some (.cells CM.zero.cells 23 (0, 0))) (hrb : B ≤ rb)
    (hQ : ∀ a' w', Frd a' { v with v3 := .int .i64 10 } → w'.heap[rb]? = some (.cells CM.zero.cells 23 (0, 0)) → Below B wq w' → K a' w') :
    Code.wp Tryd.prog c (Exit.then K fun _ _ _ => False) a wq := by
  have HQ := hide hQ
  clear hQ
  obtain ⟨t', d'⟩ := a
  obtain ⟨v0, v2, v3, v4, v5, v6, v7, v14, v35, v83⟩ := v
  simp only at h2v HQ
  subst h2v
  obtain ⟨hs1, hd1, q0, q2, q3, q4, q5, q6, q7, q14, q35, q83⟩ := hF
  obtain ⟨u, hu⟩ := frame_rd t' hs1
  simp only at hd1 q0 q2 q3 q4 q5 q6 q7 q14 q35 q83
  subst hu hd1
  have e0 : u 0 = v0 := q0
  have e2 : u 2 = .pointer (some ⟨rb, 0, none⟩) := q2
  have e3 : u 3 = v3 := q3
  have e4 : u 4 = v4 := q4
  have e5 : u 5 = v5 := q5
  have e6 : u 6 = v6 := q6
  have e7 : u 7 = v7 := q7
  have e14 : u 14 = v14 := q14
  have e35 : u 35 = v35 := q35
  have e83 : u 83 = v83 := q83
  rw [e0, e2, e3, e4, e5, e6, e7, e14, e35, e83]
  clear q0 e0 q2 e2 q3 e3 q4 e4 q5 e5 q6 e6 q7 e7 q14 e14 q35 e35 q83 e83 hs1
  simp only [Tryd.f11, Option.getD_some, regOf] at hc
  injection hc with hc
  subst hc
  generalize u 1 = u1
  generalize u 8 = u8
  generalize u 9 = u9
  generalize u 10 = u10
  generalize u 11 = u11
  generalize u 12 = u12
  generalize u 13 = u13
  generalize u 15 = u15
  generalize u 16 = u16
  generalize u 17 = u17
  generalize u 18 = u18
  generalize u 19 = u19
  generalize u 20 = u20
  generalize u 21 = u21
  generalize u 22 = u22
  generalize u 23 = u23
  generalize u 24 = u24
  generalize u 25 = u25
  generalize u 26 = u26
  generalize u 27 = u27
  generalize u 28 = u28
  generalize u 29 = u29
  generalize u 30 = u30
  generalize u 31 = u31
  generalize u 32 = u32
  generalize u 33 = u33
  generalize u 34 = u34
  generalize u 36 = u36
  generalize u 37 = u37
  generalize u 38 = u38
  generalize u 39 = u39
  generalize u 40 = u40
  generalize u 41 = u41
  generalize u 42 = u42
  generalize u 43 = u43
  generalize u 44 = u44
  generalize u 45 = u45
  generalize u 46 = u46
  generalize u 47 = u47
  generalize u 48 = u48
  generalize u 49 = u49
  generalize u 50 = u50
  generalize u 51 = u51
  generalize u 52 = u52
  generalize u 53 = u53
  generalize u 54 = u54
  generalize u 55 = u55
  generalize u 56 = u56
  generalize u 57 = u57
  generalize u 58 = u58
  generalize u 59 = u59
  generalize u 60 = u60
  generalize u 61 = u61
  generalize u 62 = u62
  generalize u 63 = u63
  generalize u 64 = u64
  generalize u 65 = u65
  generalize u 66 = u66
  generalize u 67 = u67
  generalize u 68 = u68
  generalize u 69 = u69
  generalize u 70 = u70
  generalize u 71 = u71
  generalize u 72 = u72
  generalize u 73 = u73
  generalize u 74 = u74
  generalize u 75 = u75
  generalize u 76 = u76
  generalize u 77 = u77
  generalize u 78 = u78
  generalize u 79 = u79
  generalize u 80 = u80
  generalize u 81 = u81
  generalize u 82 = u82
  generalize u 84 = u84
  generalize u 85 = u85
  clear u
  have H1 := hide (set9_box (c := CM.zero) hB)
  have H2 := hide (set9_below (B := B) (c := CM.zero) (Below.refl _ wq) hrb)
  simp only [CM.zero, CM.cells] at hB
  have c0 := box_cell hB 0 rfl
  have f0 := box_free hB 0
  have c1 := box_cell hB 1 rfl
  have f1 := box_free hB 1
  have c2 := box_cell hB 2 rfl
  have f2 := box_free hB 2
  have c3 := box_cell hB 3 rfl
  have f3 := box_free hB 3
  have c4 := box_cell hB 4 rfl
  have f4 := box_free hB 4
  have c5 := box_cell hB 5 rfl
  have f5 := box_free hB 5
  have c6 := box_cell hB 6 rfl
  have f6 := box_free hB 6
  have c7 := box_cell hB 7 rfl
  have f7 := box_free hB 7
  have c8 := box_cell hB 8 rfl
  have f8 := box_free hB 8
  clear hB hrb
  go_wp2
  exact HQ.out _ _ ⟨rfl, rfl, rfl, rfl, rfl, rfl, rfl, rfl, rfl, rfl, rfl, rfl⟩ H1.out H2.out
set_option maxHeartbeats 8000000 in
set_option maxRecDepth 100000 in
theorem rd_r9 {K : Act → World → Prop} {c : Code} (hc : regOf (Tryd.f11.body.getD .skip) 9 = some c) (a : Act) {v : Vrd} {wq : World} {rb B : Nat} (hF : Frd a v) (h2v : v.v2 = .pointer (some ⟨rb, 0, none⟩)) (hB : wq.heap[rb]? = some (.cells CM.zero.cells 23 (0, 0))) (hrb : B ≤ rb)
    (hQ : ∀ a' w', Frd a' { v with v3 := .int .i64 10 } → w'.heap[rb]? = some (.cells CM.zero.cells 23 (0, 0)) → Below B wq w' → K a' w') :
    Code.wp Tryd.prog c (Exit.then K fun _ _ _ => False) a wq := by
  have HQ := hide hQ
  clear hQ
  obtain ⟨t', d'⟩ := a
  obtain ⟨v0, v2, v3, v4, v5, v6, v7, v14, v35, v83⟩ := v
  simp only at h2v HQ
  subst h2v
  obtain ⟨hs1, hd1, q0, q2, q3, q4, q5, q6, q7, q14, q35, q83⟩ := hF
  obtain ⟨u, hu⟩ := frame_rd t' hs1
  simp only at hd1 q0 q2 q3 q4 q5 q6 q7 q14 q35 q83
  subst hu hd1
  have e0 : u 0 = v0 := q0
  have e2 : u 2 = .pointer (some ⟨rb, 0, none⟩) := q2
  have e3 : u 3 = v3 := q3
  have e4 : u 4 = v4 := q4
  have e5 : u 5 = v5 := q5
  have e6 : u 6 = v6 := q6
  have e7 : u 7 = v7 := q7
  have e14 : u 14 = v14 := q14
  have e35 : u 35 = v35 := q35
  have e83 : u 83 = v83 := q83
  rw [e0, e2, e3, e4, e5, e6, e7, e14, e35, e83]
  clear q0 e0 q2 e2 q3 e3 q4 e4 q5 e5 q6 e6 q7 e7 q14 e14 q35 e35 q83 e83 hs1
  simp only [Tryd.f11, Option.getD_some, regOf] at hc
  injection hc with hc
  subst hc
  generalize u 1 = u1
  generalize u 8 = u8
  generalize u 9 = u9
  generalize u 10 = u10
  generalize u 11 = u11
  generalize u 12 = u12
  generalize u 13 = u13
  generalize u 15 = u15
  generalize u 16 = u16
  generalize u 17 = u17
  generalize u 18 = u18
  generalize u 19 = u19
  generalize u 20 = u20
  generalize u 21 = u21
  generalize u 22 = u22
  generalize u 23 = u23
  generalize u 24 = u24
  generalize u 25 = u25
  generalize u 26 = u26
  generalize u 27 = u27
  generalize u 28 = u28
  generalize u 29 = u29
  generalize u 30 = u30
  generalize u 31 = u31
  generalize u 32 = u32
  generalize u 33 = u33
  generalize u 34 = u34
  generalize u 36 = u36
  generalize u 37 = u37
  generalize u 38 = u38
  generalize u 39 = u39
  generalize u 40 = u40
  generalize u 41 = u41
  generalize u 42 = u42
  generalize u 43 = u43
  generalize u 44 = u44
  generalize u 45 = u45
  generalize u 46 = u46
  generalize u 47 = u47
  generalize u 48 = u48
  generalize u 49 = u49
  generalize u 50 = u50
  generalize u 51 = u51
  generalize u 52 = u52
  generalize u 53 = u53
  generalize u 54 = u54
  generalize u 55 = u55
  generalize u 56 = u56
  generalize u 57 = u57
  generalize u 58 = u58
  generalize u 59 = u59
  generalize u 60 = u60
  generalize u 61 = u61
  generalize u 62 = u62
  generalize u 63 = u63
  generalize u 64 = u64
  generalize u 65 = u65
  generalize u 66 = u66
  generalize u 67 = u67
  generalize u 68 = u68
  generalize u 69 = u69
  generalize u 70 = u70
  generalize u 71 = u71
  generalize u 72 = u72
  generalize u 73 = u73
  generalize u 74 = u74
  generalize u 75 = u75
  generalize u 76 = u76
  generalize u 77 = u77
  generalize u 78 = u78
  generalize u 79 = u79
  generalize u 80 = u80
  generalize u 81 = u81
  generalize u 82 = u82
  generalize u 84 = u84
  generalize u 85 = u85
  clear u
  have H1 := hide (set9_box (c := CM.zero) hB)
  have H2 := hide (set9_below (B := B) (c := CM.zero) (Below.refl _ wq) hrb)
  simp only [CM.zero, CM.cells] at hB
  have c0 := box_cell hB 0 rfl
  have f0 := box_free hB 0
  have c1 := box_cell hB 1 rfl
  have f1 := box_free hB 1
  have c2 := box_cell hB 2 rfl
  have f2 := box_free hB 2
  have c3 := box_cell hB 3 rfl
  have f3 := box_free hB 3
  have c4 := box_cell hB 4 rfl
  have f4 := box_free hB 4
  have c5 := box_cell hB 5 rfl
  have f5 := box_free hB 5
  have c6 := box_cell hB 6 rfl
  have f6 := box_free hB 6
  have c7 := box_cell hB 7 rfl
  have f7 := box_free hB 7
  have c8 := box_cell hB 8 rfl
  have f8 := box_free hB 8
  clear hB hrb
  go_wp2
  exact HQ.out _ _ ⟨rfl, rfl, rfl, rfl, rfl, rfl, rfl, rfl, rfl, rfl, rfl, rfl⟩ H1.out H2.out
set_option maxHeartbeats 8000000 in
set_option maxRecDepth 100000 in
theorem rd_r4 {K : Act → World → Prop} {c : Code} (hc : regOf (Tryd.f11.body.getD .skip) 4 = some c) (a : Act) {v : Vrd} {wq : World} {g cp : Nat} {x3 x6 x8 : ItC} {bb : Bool} (hF : Frd a v) (h4v : v.v4 = .slice (some ⟨g, 0, none⟩) 9 cp) (y3 : wq.cell? ⟨g, 10, none⟩ = some (.int .u64 x3.n)) (y6 : wq.cell? ⟨g, 19, none⟩ = some (.int .u64 x6.n)) (y8 : wq.cell? ⟨g, 25, none⟩ = some (.int .u64 x8.n)) (hbb : bb = decide (9007199254740991 < x3.n ∨ 9007199254740992 < x6.n ∨ 9007199254740991 < x8.n))
    (hQ : ∀ a', Frd a' { v with v35 := .bool bb } → K a' wq) :
    Code.wp Tryd.prog c (Exit.then K fun _ _ _ => False) a wq := by
  have HQ := hide hQ
  clear hQ
  obtain ⟨t', d'⟩ := a
  obtain ⟨v0, v2, v3, v4, v5, v6, v7, v14, v35, v83⟩ := v
  simp only at h4v HQ
  subst h4v
  obtain ⟨hs1, hd1, q0, q2, q3, q4, q5, q6, q7, q14, q35, q83⟩ := hF
  obtain ⟨u, hu⟩ := frame_rd t' hs1
  simp only at hd1 q0 q2 q3 q4 q5 q6 q7 q14 q35 q83
  subst hu hd1
  have e0 : u 0 = v0 := q0
  have e2 : u 2 = v2 := q2
  have e3 : u 3 = v3 := q3
  have e4 : u 4 = .slice (some ⟨g, 0, none⟩) 9 cp := q4
  have e5 : u 5 = v5 := q5
  have e6 : u 6 = v6 := q6
  have e7 : u 7 = v7 := q7
  have e14 : u 14 = v14 := q14
  have e35 : u 35 = v35 := q35
  have e83 : u 83 = v83 := q83
  rw [e0, e2, e3, e4, e5, e6, e7, e14, e35, e83]
  clear q0 e0 q2 e2 q3 e3 q4 e4 q5 e5 q6 e6 q7 e7 q14 e14 q35 e35 q83 e83 hs1
  simp only [Tryd.f11, Option.getD_some, regOf] at hc
  injection hc with hc
  subst hc
  generalize u 1 = u1
  generalize u 8 = u8
  generalize u 9 = u9
  generalize u 10 = u10
  generalize u 11 = u11
  generalize u 12 = u12
  generalize u 13 = u13
  generalize u 15 = u15
  generalize u 16 = u16
  generalize u 17 = u17
  generalize u 18 = u18
  generalize u 19 = u19
  generalize u 20 = u20
  generalize u 21 = u21
  generalize u 22 = u22
  generalize u 23 = u23
  generalize u 24 = u24
  generalize u 25 = u25
  generalize u 26 = u26
  generalize u 27 = u27
  generalize u 28 = u28
  generalize u 29 = u29
  generalize u 30 = u30
  generalize u 31 = u31
  generalize u 32 = u32
  generalize u 33 = u33
  generalize u 34 = u34
  generalize u 36 = u36
  generalize u 37 = u37
  generalize u 38 = u38
  generalize u 39 = u39
  generalize u 40 = u40
  generalize u 41 = u41
  generalize u 42 = u42
  generalize u 43 = u43
  generalize u 44 = u44
  generalize u 45 = u45
  generalize u 46 = u46
  generalize u 47 = u47
  generalize u 48 = u48
  generalize u 49 = u49
  generalize u 50 = u50
  generalize u 51 = u51
  generalize u 52 = u52
  generalize u 53 = u53
  generalize u 54 = u54
  generalize u 55 = u55
  generalize u 56 = u56
  generalize u 57 = u57
  generalize u 58 = u58
  generalize u 59 = u59
  generalize u 60 = u60
  generalize u 61 = u61
  generalize u 62 = u62
  generalize u 63 = u63
  generalize u 64 = u64
  generalize u 65 = u65
  generalize u 66 = u66
  generalize u 67 = u67
  generalize u 68 = u68
  generalize u 69 = u69
  generalize u 70 = u70
  generalize u 71 = u71
  generalize u 72 = u72
  generalize u 73 = u73
  generalize u 74 = u74
  generalize u 75 = u75
  generalize u 76 = u76
  generalize u 77 = u77
  generalize u 78 = u78
  generalize u 79 = u79
  generalize u 80 = u80
  generalize u 81 = u81
  generalize u 82 = u82
  generalize u 84 = u84
  generalize u 85 = u85
  clear u
  by_cases g1 : x3.n > 9007199254740991
  · obtain rfl : bb = true := by rw [hbb]; simp; omega
    clear hbb
    go_wp2
    exact HQ.out _ ⟨rfl, rfl, rfl, rfl, rfl, rfl, rfl, rfl, rfl, rfl, rfl, rfl⟩
  · by_cases g2 : x6.n > 9007199254740992
    · obtain rfl : bb = true := by rw [hbb]; simp; omega
      clear hbb
      go_wp2
      exact HQ.out _ ⟨rfl, rfl, rfl, rfl, rfl, rfl, rfl, rfl, rfl, rfl, rfl, rfl⟩
    · by_cases g3 : x8.n > 9007199254740991
      · obtain rfl : bb = true := by rw [hbb]; simp; omega
        clear hbb
        go_wp2
        exact HQ.out _ ⟨rfl, rfl, rfl, rfl, rfl, rfl, rfl, rfl, rfl, rfl, rfl, rfl⟩
      · obtain rfl : bb = false := by rw [hbb]; simp; omega
        clear hbb
        go_wp2
        exact HQ.out _ ⟨rfl, rfl, rfl, rfl, rfl, rfl, rfl, rfl, rfl, rfl, rfl, rfl⟩
/-- A command as carillonref14 reads it. -/
def cmR (x0 x1 x2 x3 x4 x5 x6 x7 x8 : K.It) : CM := ⟨IntKind.i64.wrap x0.n, x1.s, x2.s, IntKind.i64.wrap x3.n, x4.s, x5.s, IntKind.i64.wrap (IntKind.i64.wrap x6.n - 1), IntKind.i64.wrap x7.n, IntKind.i64.wrap x8.n⟩
set_option maxHeartbeats 8000000 in
set_option maxRecDepth 100000 in
theorem rd_r6 {K : Act → World → Prop} {c : Code} (hc : regOf (Tryd.f11.body.getD .skip) 6 = some c) (a : Act) {v : Vrd} {wq : World} {g cp : Nat} {x0 x1 x2 x3 x4 x5 x6 x7 x8 : ItC} (hF : Frd a v) (h4v : v.v4 = .slice (some ⟨g, 0, none⟩) 9 cp) (hg : g < wq.heap.size) (y0 : wq.cell? ⟨g, 1, none⟩ = some (.int .u64 x0.n)) (y1 : wq.cell? ⟨g, 5, none⟩ = some (.string x1.s)) (y2 : wq.cell? ⟨g, 8, none⟩ = some (.string x2.s)) (y3 : wq.cell? ⟨g, 10, none⟩ = some (.int .u64 x3.n)) (y4 : wq.cell? ⟨g, 14, none⟩ = some (.string x4.s)) (y5 : wq.cell? ⟨g, 17, none⟩ = some (.string x5.s)) (y6 : wq.cell? ⟨g, 19, none⟩ = some (.int .u64 x6.n)) (y7 : wq.cell? ⟨g, 22, none⟩ = some (.int .u64 x7.n)) (y8 : wq.cell? ⟨g, 25, none⟩ = some (.int .u64 x8.n))
    (hQ : ∀ a' w' q, Frd a' { v with v6 := .pointer (some ⟨q, 0, none⟩) } → w'.heap[q]? = some (.cells (cmR x0 x1 x2 x3 x4 x5 x6 x7 x8).cells 23 (0, 0)) → wq.heap.size ≤ q → Below wq.heap.size wq w' → K a' w') :
    Code.wp Tryd.prog c (Exit.then K fun _ _ _ => False) a wq := by
  have HQ := hide hQ
  clear hQ
  obtain ⟨t', d'⟩ := a
  obtain ⟨v0, v2, v3, v4, v5, v6, v7, v14, v35, v83⟩ := v
  simp only at h4v HQ
  subst h4v
  obtain ⟨hs1, hd1, q0, q2, q3, q4, q5, q6, q7, q14, q35, q83⟩ := hF
  obtain ⟨u, hu⟩ := frame_rd t' hs1
  simp only at hd1 q0 q2 q3 q4 q5 q6 q7 q14 q35 q83
  subst hu hd1
  have e0 : u 0 = v0 := q0
  have e2 : u 2 = v2 := q2
  have e3 : u 3 = v3 := q3
  have e4 : u 4 = .slice (some ⟨g, 0, none⟩) 9 cp := q4
  have e5 : u 5 = v5 := q5
  have e6 : u 6 = v6 := q6
  have e7 : u 7 = v7 := q7
  have e14 : u 14 = v14 := q14
  have e35 : u 35 = v35 := q35
  have e83 : u 83 = v83 := q83
  rw [e0, e2, e3, e4, e5, e6, e7, e14, e35, e83]
  clear q0 e0 q2 e2 q3 e3 q4 e4 q5 e5 q6 e6 q7 e7 q14 e14 q35 e35 q83 e83 hs1
  simp only [Tryd.f11, Option.getD_some, regOf] at hc
  injection hc with hc
  subst hc
  generalize u 1 = u1
  generalize u 8 = u8
  generalize u 9 = u9
  generalize u 10 = u10
  generalize u 11 = u11
  generalize u 12 = u12
  generalize u 13 = u13
  generalize u 15 = u15
  generalize u 16 = u16
  generalize u 17 = u17
  generalize u 18 = u18
  generalize u 19 = u19
  generalize u 20 = u20
  generalize u 21 = u21
  generalize u 22 = u22
  generalize u 23 = u23
  generalize u 24 = u24
  generalize u 25 = u25
  generalize u 26 = u26
  generalize u 27 = u27
  generalize u 28 = u28
  generalize u 29 = u29
  generalize u 30 = u30
  generalize u 31 = u31
  generalize u 32 = u32
  generalize u 33 = u33
  generalize u 34 = u34
  generalize u 36 = u36
  generalize u 37 = u37
  generalize u 38 = u38
  generalize u 39 = u39
  generalize u 40 = u40
  generalize u 41 = u41
  generalize u 42 = u42
  generalize u 43 = u43
  generalize u 44 = u44
  generalize u 45 = u45
  generalize u 46 = u46
  generalize u 47 = u47
  generalize u 48 = u48
  generalize u 49 = u49
  generalize u 50 = u50
  generalize u 51 = u51
  generalize u 52 = u52
  generalize u 53 = u53
  generalize u 54 = u54
  generalize u 55 = u55
  generalize u 56 = u56
  generalize u 57 = u57
  generalize u 58 = u58
  generalize u 59 = u59
  generalize u 60 = u60
  generalize u 61 = u61
  generalize u 62 = u62
  generalize u 63 = u63
  generalize u 64 = u64
  generalize u 65 = u65
  generalize u 66 = u66
  generalize u 67 = u67
  generalize u 68 = u68
  generalize u 69 = u69
  generalize u 70 = u70
  generalize u 71 = u71
  generalize u 72 = u72
  generalize u 73 = u73
  generalize u 74 = u74
  generalize u 75 = u75
  generalize u 76 = u76
  generalize u 77 = u77
  generalize u 78 = u78
  generalize u 79 = u79
  generalize u 80 = u80
  generalize u 81 = u81
  generalize u 82 = u82
  generalize u 84 = u84
  generalize u 85 = u85
  clear u
  refine wp_region_last 44 rfl (by kernel_rfl) rfl rfl (by kernel_rfl) ?_
  intro ops' hops'
  simp only [idle, List.setIfInBounds_toArray, List.set_cons_succ, List.set_cons_zero] at hops'
  subst hops'
  refine wpAny_phi (ns := 86) (uses := (fun i => match i with | 0 => [37] | 1 => [38] | 2 => [39] | 3 => [40] | 4 => [41] | 5 => [42] | 6 => [43] | 7 => [44] | 8 => [45] | 9 => [46] | 10 => [47] | 11 => [48] | 12 => [49] | 13 => [50] | 14 => [51] | 15 => [52] | 16 => [53] | 17 => [54] | 18 => [55] | 19 => [56] | 20 => [57] | 21 => [58] | 22 => [59] | 23 => [60] | 24 => [61] | 25 => [62] | 26 => [63] | 27 => [64] | 28 => [65] | 29 => [66] | 30 => [67] | 31 => [68] | 32 => [69] | 33 => [70] | 34 => [71] | 35 => [72] | 36 => [73] | 37 => [74] | 38 => [75] | 39 => [76] | 40 => [77] | 41 => [78] | 42 => [79] | 43 => [6] | 44 => [] | _ => [])) (by kernel_rfl) (by kernel_rfl) (fun _ w w' => Below w.heap.size w w') (fun w => Below wq.heap.size wq w) (fun _ _ _ h r => h.trans (r.mono h.size)) ((Below.refl _ _).drew) (fun i => match i with | 0 => fun s w => s 37 = .slice (some ⟨g, 0, none⟩) 9 cp | 1 => fun s w => s 38 = .pointer (some ⟨g, 0, none⟩) | 2 => fun s w => s 39 = .pointer (some ⟨g, 1, none⟩) | 3 => fun s w => s 40 = .int .u64 x0.n | 4 => fun s w => s 41 = .int .i64 (IntKind.i64.wrap x0.n) | 5 => fun s w => s 42 = .slice (some ⟨g, 0, none⟩) 9 cp | 6 => fun s w => s 43 = .pointer (some ⟨g, 3, none⟩) | 7 => fun s w => s 44 = .pointer (some ⟨g, 5, none⟩) | 8 => fun s w => s 45 = .string x1.s | 9 => fun s w => s 46 = .slice (some ⟨g, 0, none⟩) 9 cp | 10 => fun s w => s 47 = .pointer (some ⟨g, 6, none⟩) | 11 => fun s w => s 48 = .pointer (some ⟨g, 8, none⟩) | 12 => fun s w => s 49 = .string x2.s | 13 => fun s w => s 50 = .slice (some ⟨g, 0, none⟩) 9 cp | 14 => fun s w => s 51 = .pointer (some ⟨g, 9, none⟩) | 15 => fun s w => s 52 = .pointer (some ⟨g, 10, none⟩) | 16 => fun s w => s 53 = .int .u64 x3.n | 17 => fun s w => s 54 = .int .i64 (IntKind.i64.wrap x3.n) | 18 => fun s w => s 55 = .slice (some ⟨g, 0, none⟩) 9 cp | 19 => fun s w => s 56 = .pointer (some ⟨g, 12, none⟩) | 20 => fun s w => s 57 = .pointer (some ⟨g, 14, none⟩) | 21 => fun s w => s 58 = .string x4.s | 22 => fun s w => s 59 = .slice (some ⟨g, 0, none⟩) 9 cp | 23 => fun s w => s 60 = .pointer (some ⟨g, 15, none⟩) | 24 => fun s w => s 61 = .pointer (some ⟨g, 17, none⟩) | 25 => fun s w => s 62 = .string x5.s | 26 => fun s w => s 63 = .slice (some ⟨g, 0, none⟩) 9 cp | 27 => fun s w => s 64 = .pointer (some ⟨g, 18, none⟩) | 28 => fun s w => s 65 = .pointer (some ⟨g, 19, none⟩) | 29 => fun s w => s 66 = .int .u64 x6.n | 30 => fun s w => s 67 = .int .i64 (IntKind.i64.wrap x6.n) | 31 => fun s w => s 68 = .int .i64 (IntKind.i64.wrap (IntKind.i64.wrap x6.n - 1)) | 32 => fun s w => s 69 = .slice (some ⟨g, 0, none⟩) 9 cp | 33 => fun s w => s 70 = .pointer (some ⟨g, 21, none⟩) | 34 => fun s w => s 71 = .pointer (some ⟨g, 22, none⟩) | 35 => fun s w => s 72 = .int .u64 x7.n | 36 => fun s w => s 73 = .int .i64 (IntKind.i64.wrap x7.n) | 37 => fun s w => s 74 = .slice (some ⟨g, 0, none⟩) 9 cp | 38 => fun s w => s 75 = .pointer (some ⟨g, 24, none⟩) | 39 => fun s w => s 76 = .pointer (some ⟨g, 25, none⟩) | 40 => fun s w => s 77 = .int .u64 x8.n | 41 => fun s w => s 78 = .int .i64 (IntKind.i64.wrap x8.n) | 42 => fun s w => s 79 = .agg #[.int .i64 (IntKind.i64.wrap x0.n), .string x1.s, .string x2.s, .int .i64 (IntKind.i64.wrap x3.n), .string x4.s, .string x5.s, .int .i64 (IntKind.i64.wrap (IntKind.i64.wrap x6.n - 1)), .int .i64 (IntKind.i64.wrap x7.n), .int .i64 (IntKind.i64.wrap x8.n)] | 43 => fun s w => ∃ q, s 6 = .pointer (some ⟨q, 0, none⟩) ∧ wq.heap.size ≤ q ∧ w.heap[q]? = some (.cells #[.int .i64 0, .string ⟨#[]⟩, .string ⟨#[]⟩, .int .i64 0, .string ⟨#[]⟩, .string ⟨#[]⟩, .int .i64 0, .int .i64 0, .int .i64 0] 23 (0, 0)) | 44 => fun s w => True | _ => fun _ _ => True) ?phc ?phh ?pstep ?pdone
  case phc =>
    intro i s s' w hx h
    match i, hx, h with
    | 0, hx, h =>
      have e37 := hx 37 (by simp)
      first | exact (show _ from by simp only [← e37] at *; exact h) | (simp only [e37] at h; exact h)
    | 1, hx, h =>
      have e38 := hx 38 (by simp)
      first | exact (show _ from by simp only [← e38] at *; exact h) | (simp only [e38] at h; exact h)
    | 2, hx, h =>
      have e39 := hx 39 (by simp)
      first | exact (show _ from by simp only [← e39] at *; exact h) | (simp only [e39] at h; exact h)
    | 3, hx, h =>
      have e40 := hx 40 (by simp)
      first | exact (show _ from by simp only [← e40] at *; exact h) | (simp only [e40] at h; exact h)
    | 4, hx, h =>
      have e41 := hx 41 (by simp)
      first | exact (show _ from by simp only [← e41] at *; exact h) | (simp only [e41] at h; exact h)
    | 5, hx, h =>
      have e42 := hx 42 (by simp)
      first | exact (show _ from by simp only [← e42] at *; exact h) | (simp only [e42] at h; exact h)
    | 6, hx, h =>
      have e43 := hx 43 (by simp)
      first | exact (show _ from by simp only [← e43] at *; exact h) | (simp only [e43] at h; exact h)
    | 7, hx, h =>
      have e44 := hx 44 (by simp)
      first | exact (show _ from by simp only [← e44] at *; exact h) | (simp only [e44] at h; exact h)
    | 8, hx, h =>
      have e45 := hx 45 (by simp)
      first | exact (show _ from by simp only [← e45] at *; exact h) | (simp only [e45] at h; exact h)
    | 9, hx, h =>
      have e46 := hx 46 (by simp)
      first | exact (show _ from by simp only [← e46] at *; exact h) | (simp only [e46] at h; exact h)
    | 10, hx, h =>
      have e47 := hx 47 (by simp)
      first | exact (show _ from by simp only [← e47] at *; exact h) | (simp only [e47] at h; exact h)
    | 11, hx, h =>
      have e48 := hx 48 (by simp)
      first | exact (show _ from by simp only [← e48] at *; exact h) | (simp only [e48] at h; exact h)
    | 12, hx, h =>
      have e49 := hx 49 (by simp)
      first | exact (show _ from by simp only [← e49] at *; exact h) | (simp only [e49] at h; exact h)
    | 13, hx, h =>
      have e50 := hx 50 (by simp)
      first | exact (show _ from by simp only [← e50] at *; exact h) | (simp only [e50] at h; exact h)
    | 14, hx, h =>
      have e51 := hx 51 (by simp)
      first | exact (show _ from by simp only [← e51] at *; exact h) | (simp only [e51] at h; exact h)
    | 15, hx, h =>
      have e52 := hx 52 (by simp)
      first | exact (show _ from by simp only [← e52] at *; exact h) | (simp only [e52] at h; exact h)
    | 16, hx, h =>
      have e53 := hx 53 (by simp)
      first | exact (show _ from by simp only [← e53] at *; exact h) | (simp only [e53] at h; exact h)
    | 17, hx, h =>
      have e54 := hx 54 (by simp)
      first | exact (show _ from by simp only [← e54] at *; exact h) | (simp only [e54] at h; exact h)
    | 18, hx, h =>
      have e55 := hx 55 (by simp)
      first | exact (show _ from by simp only [← e55] at *; exact h) | (simp only [e55] at h; exact h)
    | 19, hx, h =>
      have e56 := hx 56 (by simp)
      first | exact (show _ from by simp only [← e56] at *; exact h) | (simp only [e56] at h; exact h)
    | 20, hx, h =>
      have e57 := hx 57 (by simp)
      first | exact (show _ from by simp only [← e57] at *; exact h) | (simp only [e57] at h; exact h)
    | 21, hx, h =>
      have e58 := hx 58 (by simp)
      first | exact (show _ from by simp only [← e58] at *; exact h) | (simp only [e58] at h; exact h)
    | 22, hx, h =>
      have e59 := hx 59 (by simp)
      first | exact (show _ from by simp only [← e59] at *; exact h) | (simp only [e59] at h; exact h)
    | 23, hx, h =>
      have e60 := hx 60 (by simp)
      first | exact (show _ from by simp only [← e60] at *; exact h) | (simp only [e60] at h; exact h)
    | 24, hx, h =>
      have e61 := hx 61 (by simp)
      first | exact (show _ from by simp only [← e61] at *; exact h) | (simp only [e61] at h; exact h)
    | 25, hx, h =>
      have e62 := hx 62 (by simp)
      first | exact (show _ from by simp only [← e62] at *; exact h) | (simp only [e62] at h; exact h)
    | 26, hx, h =>
      have e63 := hx 63 (by simp)
      first | exact (show _ from by simp only [← e63] at *; exact h) | (simp only [e63] at h; exact h)
    | 27, hx, h =>
      have e64 := hx 64 (by simp)
      first | exact (show _ from by simp only [← e64] at *; exact h) | (simp only [e64] at h; exact h)
    | 28, hx, h =>
      have e65 := hx 65 (by simp)
      first | exact (show _ from by simp only [← e65] at *; exact h) | (simp only [e65] at h; exact h)
    | 29, hx, h =>
      have e66 := hx 66 (by simp)
      first | exact (show _ from by simp only [← e66] at *; exact h) | (simp only [e66] at h; exact h)
    | 30, hx, h =>
      have e67 := hx 67 (by simp)
      first | exact (show _ from by simp only [← e67] at *; exact h) | (simp only [e67] at h; exact h)
    | 31, hx, h =>
      have e68 := hx 68 (by simp)
      first | exact (show _ from by simp only [← e68] at *; exact h) | (simp only [e68] at h; exact h)
    | 32, hx, h =>
      have e69 := hx 69 (by simp)
      first | exact (show _ from by simp only [← e69] at *; exact h) | (simp only [e69] at h; exact h)
    | 33, hx, h =>
      have e70 := hx 70 (by simp)
      first | exact (show _ from by simp only [← e70] at *; exact h) | (simp only [e70] at h; exact h)
    | 34, hx, h =>
      have e71 := hx 71 (by simp)
      first | exact (show _ from by simp only [← e71] at *; exact h) | (simp only [e71] at h; exact h)
    | 35, hx, h =>
      have e72 := hx 72 (by simp)
      first | exact (show _ from by simp only [← e72] at *; exact h) | (simp only [e72] at h; exact h)
    | 36, hx, h =>
      have e73 := hx 73 (by simp)
      first | exact (show _ from by simp only [← e73] at *; exact h) | (simp only [e73] at h; exact h)
    | 37, hx, h =>
      have e74 := hx 74 (by simp)
      first | exact (show _ from by simp only [← e74] at *; exact h) | (simp only [e74] at h; exact h)
    | 38, hx, h =>
      have e75 := hx 75 (by simp)
      first | exact (show _ from by simp only [← e75] at *; exact h) | (simp only [e75] at h; exact h)
    | 39, hx, h =>
      have e76 := hx 76 (by simp)
      first | exact (show _ from by simp only [← e76] at *; exact h) | (simp only [e76] at h; exact h)
    | 40, hx, h =>
      have e77 := hx 77 (by simp)
      first | exact (show _ from by simp only [← e77] at *; exact h) | (simp only [e77] at h; exact h)
    | 41, hx, h =>
      have e78 := hx 78 (by simp)
      first | exact (show _ from by simp only [← e78] at *; exact h) | (simp only [e78] at h; exact h)
    | 42, hx, h =>
      have e79 := hx 79 (by simp)
      first | exact (show _ from by simp only [← e79] at *; exact h) | (simp only [e79] at h; exact h)
    | 43, hx, h =>
      have e6 := hx 6 (by simp)
      first | exact (show _ from by simp only [← e6] at *; exact h) | (simp only [e6] at h; exact h)
    | 44, hx, h =>
      exact h
    | (n + 45), _, h => exact h
  case phh =>
    intro i j s w w' hij h hb r
    match i, hij, h with
    | 0, hij, h =>
      exact h
    | 1, hij, h =>
      exact h
    | 2, hij, h =>
      exact h
    | 3, hij, h =>
      exact h
    | 4, hij, h =>
      exact h
    | 5, hij, h =>
      exact h
    | 6, hij, h =>
      exact h
    | 7, hij, h =>
      exact h
    | 8, hij, h =>
      exact h
    | 9, hij, h =>
      exact h
    | 10, hij, h =>
      exact h
    | 11, hij, h =>
      exact h
    | 12, hij, h =>
      exact h
    | 13, hij, h =>
      exact h
    | 14, hij, h =>
      exact h
    | 15, hij, h =>
      exact h
    | 16, hij, h =>
      exact h
    | 17, hij, h =>
      exact h
    | 18, hij, h =>
      exact h
    | 19, hij, h =>
      exact h
    | 20, hij, h =>
      exact h
    | 21, hij, h =>
      exact h
    | 22, hij, h =>
      exact h
    | 23, hij, h =>
      exact h
    | 24, hij, h =>
      exact h
    | 25, hij, h =>
      exact h
    | 26, hij, h =>
      exact h
    | 27, hij, h =>
      exact h
    | 28, hij, h =>
      exact h
    | 29, hij, h =>
      exact h
    | 30, hij, h =>
      exact h
    | 31, hij, h =>
      exact h
    | 32, hij, h =>
      exact h
    | 33, hij, h =>
      exact h
    | 34, hij, h =>
      exact h
    | 35, hij, h =>
      exact h
    | 36, hij, h =>
      exact h
    | 37, hij, h =>
      exact h
    | 38, hij, h =>
      exact h
    | 39, hij, h =>
      exact h
    | 40, hij, h =>
      exact h
    | 41, hij, h =>
      exact h
    | 42, hij, h =>
      exact h
    | 43, hij, h =>
      obtain ⟨q, h1, h0, h2⟩ := h
      exact ⟨q, h1, h0, (r.block _ (heap_lt h2)).trans h2⟩
    | 44, hij, h =>
      exact h
    | (n + 45), _, h => exact h
  case pstep =>
    intro i o ho a' w' hsa hb hd
    match i, ho with
    | 0, ho =>
      obtain rfl := Option.some.inj ho
      try dsimp only at hd
      have g4 : a'.tmps.getD 4 undef = .slice (some ⟨g, 0, none⟩) 9 cp := hsa.rest 4 (by rfl)
      refine wpOp_of rfl rfl ?_
      refine op_run (v := .slice (some ⟨g, 0, none⟩) 9 cp) (w' := w') ?_ ⟨_, rfl, ?_, ?_⟩
      · simp only [execOp, Act.eval, List.map_toArray, List.map_cons, List.map_nil, g4]; first | (go_simp; done) | rfl
      · try dsimp only
        exact (slots_put (ns := 86) (hsa.size.trans rfl) (by decide))
      · exact Below.refl _ _
    | 1, ho =>
      obtain rfl := Option.some.inj ho
      try dsimp only at hd
      have d0 : a'.tmps.getD 37 undef = .slice (some ⟨g, 0, none⟩) 9 cp := hd 0 (by rfl)
      refine wpOp_of rfl rfl ?_
      refine op_run (v := .pointer (some ⟨g, 0, none⟩)) (w' := w') ?_ ⟨_, rfl, ?_, ?_⟩
      · simp only [execOp, Act.eval, List.map_toArray, List.map_cons, List.map_nil, d0]; first | (go_simp; done) | rfl
      · try dsimp only
        exact (slots_put (ns := 86) (hsa.size.trans rfl) (by decide))
      · exact Below.refl _ _
    | 2, ho =>
      obtain rfl := Option.some.inj ho
      try dsimp only at hd
      have d1 : a'.tmps.getD 38 undef = .pointer (some ⟨g, 0, none⟩) := hd 1 (by rfl)
      refine wpOp_of rfl rfl ?_
      refine op_run (v := .pointer (some ⟨g, 1, none⟩)) (w' := w') ?_ ⟨_, rfl, ?_, ?_⟩
      · simp only [execOp, Act.eval, List.map_toArray, List.map_cons, List.map_nil, d1]; first | (go_simp; done) | rfl
      · try dsimp only
        exact (slots_put (ns := 86) (hsa.size.trans rfl) (by decide))
      · exact Below.refl _ _
    | 3, ho =>
      obtain rfl := Option.some.inj ho
      try dsimp only at hd
      have d2 : a'.tmps.getD 39 undef = .pointer (some ⟨g, 1, none⟩) := hd 2 (by rfl)
      have y0 : w'.cell? ⟨g, 1, none⟩ = some (.int .u64 x0.n) := (hb.cell (p := ⟨g, 1, none⟩) hg).trans y0
      refine wpOp_of rfl rfl ?_
      refine op_run (v := .int .u64 x0.n) (w' := w') ?_ ⟨_, rfl, ?_, ?_⟩
      · simp only [execOp, Act.eval, List.map_toArray, List.map_cons, List.map_nil, d2, y0]; first | (go_simp; done) | rfl
      · try dsimp only
        exact (slots_put (ns := 86) (hsa.size.trans rfl) (by decide))
      · exact Below.refl _ _
    | 4, ho =>
      obtain rfl := Option.some.inj ho
      try dsimp only at hd
      have d3 : a'.tmps.getD 40 undef = .int .u64 x0.n := hd 3 (by rfl)
      refine wpOp_of rfl rfl ?_
      refine op_run (v := .int .i64 (IntKind.i64.wrap x0.n)) (w' := w') ?_ ⟨_, rfl, ?_, ?_⟩
      · simp only [execOp, Act.eval, List.map_toArray, List.map_cons, List.map_nil, d3]; first | (go_simp; done) | rfl
      · try dsimp only
        exact (slots_put (ns := 86) (hsa.size.trans rfl) (by decide))
      · exact Below.refl _ _
    | 5, ho =>
      obtain rfl := Option.some.inj ho
      try dsimp only at hd
      have g4 : a'.tmps.getD 4 undef = .slice (some ⟨g, 0, none⟩) 9 cp := hsa.rest 4 (by rfl)
      refine wpOp_of rfl rfl ?_
      refine op_run (v := .slice (some ⟨g, 0, none⟩) 9 cp) (w' := w') ?_ ⟨_, rfl, ?_, ?_⟩
      · simp only [execOp, Act.eval, List.map_toArray, List.map_cons, List.map_nil, g4]; first | (go_simp; done) | rfl
      · try dsimp only
        exact (slots_put (ns := 86) (hsa.size.trans rfl) (by decide))
      · exact Below.refl _ _
    | 6, ho =>
      obtain rfl := Option.some.inj ho
      try dsimp only at hd
      have d5 : a'.tmps.getD 42 undef = .slice (some ⟨g, 0, none⟩) 9 cp := hd 5 (by rfl)
      refine wpOp_of rfl rfl ?_
      refine op_run (v := .pointer (some ⟨g, 3, none⟩)) (w' := w') ?_ ⟨_, rfl, ?_, ?_⟩
      · simp only [execOp, Act.eval, List.map_toArray, List.map_cons, List.map_nil, d5]; first | (go_simp; done) | rfl
      · try dsimp only
        exact (slots_put (ns := 86) (hsa.size.trans rfl) (by decide))
      · exact Below.refl _ _
    | 7, ho =>
      obtain rfl := Option.some.inj ho
      try dsimp only at hd
      have d6 : a'.tmps.getD 43 undef = .pointer (some ⟨g, 3, none⟩) := hd 6 (by rfl)
      refine wpOp_of rfl rfl ?_
      refine op_run (v := .pointer (some ⟨g, 5, none⟩)) (w' := w') ?_ ⟨_, rfl, ?_, ?_⟩
      · simp only [execOp, Act.eval, List.map_toArray, List.map_cons, List.map_nil, d6]; first | (go_simp; done) | rfl
      · try dsimp only
        exact (slots_put (ns := 86) (hsa.size.trans rfl) (by decide))
      · exact Below.refl _ _
    | 8, ho =>
      obtain rfl := Option.some.inj ho
      try dsimp only at hd
      have d7 : a'.tmps.getD 44 undef = .pointer (some ⟨g, 5, none⟩) := hd 7 (by rfl)
      have y1 : w'.cell? ⟨g, 5, none⟩ = some (.string x1.s) := (hb.cell (p := ⟨g, 5, none⟩) hg).trans y1
      refine wpOp_of rfl rfl ?_
      refine op_run (v := .string x1.s) (w' := w') ?_ ⟨_, rfl, ?_, ?_⟩
      · simp only [execOp, Act.eval, List.map_toArray, List.map_cons, List.map_nil, d7, y1]; first | (go_simp; done) | rfl
      · try dsimp only
        exact (slots_put (ns := 86) (hsa.size.trans rfl) (by decide))
      · exact Below.refl _ _
    | 9, ho =>
      obtain rfl := Option.some.inj ho
      try dsimp only at hd
      have g4 : a'.tmps.getD 4 undef = .slice (some ⟨g, 0, none⟩) 9 cp := hsa.rest 4 (by rfl)
      refine wpOp_of rfl rfl ?_
      refine op_run (v := .slice (some ⟨g, 0, none⟩) 9 cp) (w' := w') ?_ ⟨_, rfl, ?_, ?_⟩
      · simp only [execOp, Act.eval, List.map_toArray, List.map_cons, List.map_nil, g4]; first | (go_simp; done) | rfl
      · try dsimp only
        exact (slots_put (ns := 86) (hsa.size.trans rfl) (by decide))
      · exact Below.refl _ _
    | 10, ho =>
      obtain rfl := Option.some.inj ho
      try dsimp only at hd
      have d9 : a'.tmps.getD 46 undef = .slice (some ⟨g, 0, none⟩) 9 cp := hd 9 (by rfl)
      refine wpOp_of rfl rfl ?_
      refine op_run (v := .pointer (some ⟨g, 6, none⟩)) (w' := w') ?_ ⟨_, rfl, ?_, ?_⟩
      · simp only [execOp, Act.eval, List.map_toArray, List.map_cons, List.map_nil, d9]; first | (go_simp; done) | rfl
      · try dsimp only
        exact (slots_put (ns := 86) (hsa.size.trans rfl) (by decide))
      · exact Below.refl _ _
    | 11, ho =>
      obtain rfl := Option.some.inj ho
      try dsimp only at hd
      have d10 : a'.tmps.getD 47 undef = .pointer (some ⟨g, 6, none⟩) := hd 10 (by rfl)
      refine wpOp_of rfl rfl ?_
      refine op_run (v := .pointer (some ⟨g, 8, none⟩)) (w' := w') ?_ ⟨_, rfl, ?_, ?_⟩
      · simp only [execOp, Act.eval, List.map_toArray, List.map_cons, List.map_nil, d10]; first | (go_simp; done) | rfl
      · try dsimp only
        exact (slots_put (ns := 86) (hsa.size.trans rfl) (by decide))
      · exact Below.refl _ _
    | 12, ho =>
      obtain rfl := Option.some.inj ho
      try dsimp only at hd
      have d11 : a'.tmps.getD 48 undef = .pointer (some ⟨g, 8, none⟩) := hd 11 (by rfl)
      have y2 : w'.cell? ⟨g, 8, none⟩ = some (.string x2.s) := (hb.cell (p := ⟨g, 8, none⟩) hg).trans y2
      refine wpOp_of rfl rfl ?_
      refine op_run (v := .string x2.s) (w' := w') ?_ ⟨_, rfl, ?_, ?_⟩
      · simp only [execOp, Act.eval, List.map_toArray, List.map_cons, List.map_nil, d11, y2]; first | (go_simp; done) | rfl
      · try dsimp only
        exact (slots_put (ns := 86) (hsa.size.trans rfl) (by decide))
      · exact Below.refl _ _
    | 13, ho =>
      obtain rfl := Option.some.inj ho
      try dsimp only at hd
      have g4 : a'.tmps.getD 4 undef = .slice (some ⟨g, 0, none⟩) 9 cp := hsa.rest 4 (by rfl)
      refine wpOp_of rfl rfl ?_
      refine op_run (v := .slice (some ⟨g, 0, none⟩) 9 cp) (w' := w') ?_ ⟨_, rfl, ?_, ?_⟩
      · simp only [execOp, Act.eval, List.map_toArray, List.map_cons, List.map_nil, g4]; first | (go_simp; done) | rfl
      · try dsimp only
        exact (slots_put (ns := 86) (hsa.size.trans rfl) (by decide))
      · exact Below.refl _ _
    | 14, ho =>
      obtain rfl := Option.some.inj ho
      try dsimp only at hd
      have d13 : a'.tmps.getD 50 undef = .slice (some ⟨g, 0, none⟩) 9 cp := hd 13 (by rfl)
      refine wpOp_of rfl rfl ?_
      refine op_run (v := .pointer (some ⟨g, 9, none⟩)) (w' := w') ?_ ⟨_, rfl, ?_, ?_⟩
      · simp only [execOp, Act.eval, List.map_toArray, List.map_cons, List.map_nil, d13]; first | (go_simp; done) | rfl
      · try dsimp only
        exact (slots_put (ns := 86) (hsa.size.trans rfl) (by decide))
      · exact Below.refl _ _
    | 15, ho =>
      obtain rfl := Option.some.inj ho
      try dsimp only at hd
      have d14 : a'.tmps.getD 51 undef = .pointer (some ⟨g, 9, none⟩) := hd 14 (by rfl)
      refine wpOp_of rfl rfl ?_
      refine op_run (v := .pointer (some ⟨g, 10, none⟩)) (w' := w') ?_ ⟨_, rfl, ?_, ?_⟩
      · simp only [execOp, Act.eval, List.map_toArray, List.map_cons, List.map_nil, d14]; first | (go_simp; done) | rfl
      · try dsimp only
        exact (slots_put (ns := 86) (hsa.size.trans rfl) (by decide))
      · exact Below.refl _ _
    | 16, ho =>
      obtain rfl := Option.some.inj ho
      try dsimp only at hd
      have d15 : a'.tmps.getD 52 undef = .pointer (some ⟨g, 10, none⟩) := hd 15 (by rfl)
      have y3 : w'.cell? ⟨g, 10, none⟩ = some (.int .u64 x3.n) := (hb.cell (p := ⟨g, 10, none⟩) hg).trans y3
      refine wpOp_of rfl rfl ?_
      refine op_run (v := .int .u64 x3.n) (w' := w') ?_ ⟨_, rfl, ?_, ?_⟩
      · simp only [execOp, Act.eval, List.map_toArray, List.map_cons, List.map_nil, d15, y3]; first | (go_simp; done) | rfl
      · try dsimp only
        exact (slots_put (ns := 86) (hsa.size.trans rfl) (by decide))
      · exact Below.refl _ _
    | 17, ho =>
      obtain rfl := Option.some.inj ho
      try dsimp only at hd
      have d16 : a'.tmps.getD 53 undef = .int .u64 x3.n := hd 16 (by rfl)
      refine wpOp_of rfl rfl ?_
      refine op_run (v := .int .i64 (IntKind.i64.wrap x3.n)) (w' := w') ?_ ⟨_, rfl, ?_, ?_⟩
      · simp only [execOp, Act.eval, List.map_toArray, List.map_cons, List.map_nil, d16]; first | (go_simp; done) | rfl
      · try dsimp only
        exact (slots_put (ns := 86) (hsa.size.trans rfl) (by decide))
      · exact Below.refl _ _
    | 18, ho =>
      obtain rfl := Option.some.inj ho
      try dsimp only at hd
      have g4 : a'.tmps.getD 4 undef = .slice (some ⟨g, 0, none⟩) 9 cp := hsa.rest 4 (by rfl)
      refine wpOp_of rfl rfl ?_
      refine op_run (v := .slice (some ⟨g, 0, none⟩) 9 cp) (w' := w') ?_ ⟨_, rfl, ?_, ?_⟩
      · simp only [execOp, Act.eval, List.map_toArray, List.map_cons, List.map_nil, g4]; first | (go_simp; done) | rfl
      · try dsimp only
        exact (slots_put (ns := 86) (hsa.size.trans rfl) (by decide))
      · exact Below.refl _ _
    | 19, ho =>
      obtain rfl := Option.some.inj ho
      try dsimp only at hd
      have d18 : a'.tmps.getD 55 undef = .slice (some ⟨g, 0, none⟩) 9 cp := hd 18 (by rfl)
      refine wpOp_of rfl rfl ?_
      refine op_run (v := .pointer (some ⟨g, 12, none⟩)) (w' := w') ?_ ⟨_, rfl, ?_, ?_⟩
      · simp only [execOp, Act.eval, List.map_toArray, List.map_cons, List.map_nil, d18]; first | (go_simp; done) | rfl
      · try dsimp only
        exact (slots_put (ns := 86) (hsa.size.trans rfl) (by decide))
      · exact Below.refl _ _
    | 20, ho =>
      obtain rfl := Option.some.inj ho
      try dsimp only at hd
      have d19 : a'.tmps.getD 56 undef = .pointer (some ⟨g, 12, none⟩) := hd 19 (by rfl)
      refine wpOp_of rfl rfl ?_
      refine op_run (v := .pointer (some ⟨g, 14, none⟩)) (w' := w') ?_ ⟨_, rfl, ?_, ?_⟩
      · simp only [execOp, Act.eval, List.map_toArray, List.map_cons, List.map_nil, d19]; first | (go_simp; done) | rfl
      · try dsimp only
        exact (slots_put (ns := 86) (hsa.size.trans rfl) (by decide))
      · exact Below.refl _ _
    | 21, ho =>
      obtain rfl := Option.some.inj ho
      try dsimp only at hd
      have d20 : a'.tmps.getD 57 undef = .pointer (some ⟨g, 14, none⟩) := hd 20 (by rfl)
      have y4 : w'.cell? ⟨g, 14, none⟩ = some (.string x4.s) := (hb.cell (p := ⟨g, 14, none⟩) hg).trans y4
      refine wpOp_of rfl rfl ?_
      refine op_run (v := .string x4.s) (w' := w') ?_ ⟨_, rfl, ?_, ?_⟩
      · simp only [execOp, Act.eval, List.map_toArray, List.map_cons, List.map_nil, d20, y4]; first | (go_simp; done) | rfl
      · try dsimp only
        exact (slots_put (ns := 86) (hsa.size.trans rfl) (by decide))
      · exact Below.refl _ _
    | 22, ho =>
      obtain rfl := Option.some.inj ho
      try dsimp only at hd
      have g4 : a'.tmps.getD 4 undef = .slice (some ⟨g, 0, none⟩) 9 cp := hsa.rest 4 (by rfl)
      refine wpOp_of rfl rfl ?_
      refine op_run (v := .slice (some ⟨g, 0, none⟩) 9 cp) (w' := w') ?_ ⟨_, rfl, ?_, ?_⟩
      · simp only [execOp, Act.eval, List.map_toArray, List.map_cons, List.map_nil, g4]; first | (go_simp; done) | rfl
      · try dsimp only
        exact (slots_put (ns := 86) (hsa.size.trans rfl) (by decide))
      · exact Below.refl _ _
    | 23, ho =>
      obtain rfl := Option.some.inj ho
      try dsimp only at hd
      have d22 : a'.tmps.getD 59 undef = .slice (some ⟨g, 0, none⟩) 9 cp := hd 22 (by rfl)
      refine wpOp_of rfl rfl ?_
      refine op_run (v := .pointer (some ⟨g, 15, none⟩)) (w' := w') ?_ ⟨_, rfl, ?_, ?_⟩
      · simp only [execOp, Act.eval, List.map_toArray, List.map_cons, List.map_nil, d22]; first | (go_simp; done) | rfl
      · try dsimp only
        exact (slots_put (ns := 86) (hsa.size.trans rfl) (by decide))
      · exact Below.refl _ _
    | 24, ho =>
      obtain rfl := Option.some.inj ho
      try dsimp only at hd
      have d23 : a'.tmps.getD 60 undef = .pointer (some ⟨g, 15, none⟩) := hd 23 (by rfl)
      refine wpOp_of rfl rfl ?_
      refine op_run (v := .pointer (some ⟨g, 17, none⟩)) (w' := w') ?_ ⟨_, rfl, ?_, ?_⟩
      · simp only [execOp, Act.eval, List.map_toArray, List.map_cons, List.map_nil, d23]; first | (go_simp; done) | rfl
      · try dsimp only
        exact (slots_put (ns := 86) (hsa.size.trans rfl) (by decide))
      · exact Below.refl _ _
    | 25, ho =>
      obtain rfl := Option.some.inj ho
      try dsimp only at hd
      have d24 : a'.tmps.getD 61 undef = .pointer (some ⟨g, 17, none⟩) := hd 24 (by rfl)
      have y5 : w'.cell? ⟨g, 17, none⟩ = some (.string x5.s) := (hb.cell (p := ⟨g, 17, none⟩) hg).trans y5
      refine wpOp_of rfl rfl ?_
      refine op_run (v := .string x5.s) (w' := w') ?_ ⟨_, rfl, ?_, ?_⟩
      · simp only [execOp, Act.eval, List.map_toArray, List.map_cons, List.map_nil, d24, y5]; first | (go_simp; done) | rfl
      · try dsimp only
        exact (slots_put (ns := 86) (hsa.size.trans rfl) (by decide))
      · exact Below.refl _ _
    | 26, ho =>
      obtain rfl := Option.some.inj ho
      try dsimp only at hd
      have g4 : a'.tmps.getD 4 undef = .slice (some ⟨g, 0, none⟩) 9 cp := hsa.rest 4 (by rfl)
      refine wpOp_of rfl rfl ?_
      refine op_run (v := .slice (some ⟨g, 0, none⟩) 9 cp) (w' := w') ?_ ⟨_, rfl, ?_, ?_⟩
      · simp only [execOp, Act.eval, List.map_toArray, List.map_cons, List.map_nil, g4]; first | (go_simp; done) | rfl
      · try dsimp only
        exact (slots_put (ns := 86) (hsa.size.trans rfl) (by decide))
      · exact Below.refl _ _
    | 27, ho =>
      obtain rfl := Option.some.inj ho
      try dsimp only at hd
      have d26 : a'.tmps.getD 63 undef = .slice (some ⟨g, 0, none⟩) 9 cp := hd 26 (by rfl)
      refine wpOp_of rfl rfl ?_
      refine op_run (v := .pointer (some ⟨g, 18, none⟩)) (w' := w') ?_ ⟨_, rfl, ?_, ?_⟩
      · simp only [execOp, Act.eval, List.map_toArray, List.map_cons, List.map_nil, d26]; first | (go_simp; done) | rfl
      · try dsimp only
        exact (slots_put (ns := 86) (hsa.size.trans rfl) (by decide))
      · exact Below.refl _ _
    | 28, ho =>
      obtain rfl := Option.some.inj ho
      try dsimp only at hd
      have d27 : a'.tmps.getD 64 undef = .pointer (some ⟨g, 18, none⟩) := hd 27 (by rfl)
      refine wpOp_of rfl rfl ?_
      refine op_run (v := .pointer (some ⟨g, 19, none⟩)) (w' := w') ?_ ⟨_, rfl, ?_, ?_⟩
      · simp only [execOp, Act.eval, List.map_toArray, List.map_cons, List.map_nil, d27]; first | (go_simp; done) | rfl
      · try dsimp only
        exact (slots_put (ns := 86) (hsa.size.trans rfl) (by decide))
      · exact Below.refl _ _
    | 29, ho =>
      obtain rfl := Option.some.inj ho
      try dsimp only at hd
      have d28 : a'.tmps.getD 65 undef = .pointer (some ⟨g, 19, none⟩) := hd 28 (by rfl)
      have y6 : w'.cell? ⟨g, 19, none⟩ = some (.int .u64 x6.n) := (hb.cell (p := ⟨g, 19, none⟩) hg).trans y6
      refine wpOp_of rfl rfl ?_
      refine op_run (v := .int .u64 x6.n) (w' := w') ?_ ⟨_, rfl, ?_, ?_⟩
      · simp only [execOp, Act.eval, List.map_toArray, List.map_cons, List.map_nil, d28, y6]; first | (go_simp; done) | rfl
      · try dsimp only
        exact (slots_put (ns := 86) (hsa.size.trans rfl) (by decide))
      · exact Below.refl _ _
    | 30, ho =>
      obtain rfl := Option.some.inj ho
      try dsimp only at hd
      have d29 : a'.tmps.getD 66 undef = .int .u64 x6.n := hd 29 (by rfl)
      refine wpOp_of rfl rfl ?_
      refine op_run (v := .int .i64 (IntKind.i64.wrap x6.n)) (w' := w') ?_ ⟨_, rfl, ?_, ?_⟩
      · simp only [execOp, Act.eval, List.map_toArray, List.map_cons, List.map_nil, d29]; first | (go_simp; done) | rfl
      · try dsimp only
        exact (slots_put (ns := 86) (hsa.size.trans rfl) (by decide))
      · exact Below.refl _ _
    | 31, ho =>
      obtain rfl := Option.some.inj ho
      try dsimp only at hd
      have d30 : a'.tmps.getD 67 undef = .int .i64 (IntKind.i64.wrap x6.n) := hd 30 (by rfl)
      refine wpOp_of rfl rfl ?_
      refine op_run (v := .int .i64 (IntKind.i64.wrap (IntKind.i64.wrap x6.n - 1))) (w' := w') ?_ ⟨_, rfl, ?_, ?_⟩
      · simp only [execOp, Act.eval, List.map_toArray, List.map_cons, List.map_nil, d30]; first | (go_simp; done) | rfl
      · try dsimp only
        exact (slots_put (ns := 86) (hsa.size.trans rfl) (by decide))
      · exact Below.refl _ _
    | 32, ho =>
      obtain rfl := Option.some.inj ho
      try dsimp only at hd
      have g4 : a'.tmps.getD 4 undef = .slice (some ⟨g, 0, none⟩) 9 cp := hsa.rest 4 (by rfl)
      refine wpOp_of rfl rfl ?_
      refine op_run (v := .slice (some ⟨g, 0, none⟩) 9 cp) (w' := w') ?_ ⟨_, rfl, ?_, ?_⟩
      · simp only [execOp, Act.eval, List.map_toArray, List.map_cons, List.map_nil, g4]; first | (go_simp; done) | rfl
      · try dsimp only
        exact (slots_put (ns := 86) (hsa.size.trans rfl) (by decide))
      · exact Below.refl _ _
    | 33, ho =>
      obtain rfl := Option.some.inj ho
      try dsimp only at hd
      have d32 : a'.tmps.getD 69 undef = .slice (some ⟨g, 0, none⟩) 9 cp := hd 32 (by rfl)
      refine wpOp_of rfl rfl ?_
      refine op_run (v := .pointer (some ⟨g, 21, none⟩)) (w' := w') ?_ ⟨_, rfl, ?_, ?_⟩
      · simp only [execOp, Act.eval, List.map_toArray, List.map_cons, List.map_nil, d32]; first | (go_simp; done) | rfl
      · try dsimp only
        exact (slots_put (ns := 86) (hsa.size.trans rfl) (by decide))
      · exact Below.refl _ _
    | 34, ho =>
      obtain rfl := Option.some.inj ho
      try dsimp only at hd
      have d33 : a'.tmps.getD 70 undef = .pointer (some ⟨g, 21, none⟩) := hd 33 (by rfl)
      refine wpOp_of rfl rfl ?_
      refine op_run (v := .pointer (some ⟨g, 22, none⟩)) (w' := w') ?_ ⟨_, rfl, ?_, ?_⟩
      · simp only [execOp, Act.eval, List.map_toArray, List.map_cons, List.map_nil, d33]; first | (go_simp; done) | rfl
      · try dsimp only
        exact (slots_put (ns := 86) (hsa.size.trans rfl) (by decide))
      · exact Below.refl _ _
    | 35, ho =>
      obtain rfl := Option.some.inj ho
      try dsimp only at hd
      have d34 : a'.tmps.getD 71 undef = .pointer (some ⟨g, 22, none⟩) := hd 34 (by rfl)
      have y7 : w'.cell? ⟨g, 22, none⟩ = some (.int .u64 x7.n) := (hb.cell (p := ⟨g, 22, none⟩) hg).trans y7
      refine wpOp_of rfl rfl ?_
      refine op_run (v := .int .u64 x7.n) (w' := w') ?_ ⟨_, rfl, ?_, ?_⟩
      · simp only [execOp, Act.eval, List.map_toArray, List.map_cons, List.map_nil, d34, y7]; first | (go_simp; done) | rfl
      · try dsimp only
        exact (slots_put (ns := 86) (hsa.size.trans rfl) (by decide))
      · exact Below.refl _ _
    | 36, ho =>
      obtain rfl := Option.some.inj ho
      try dsimp only at hd
      have d35 : a'.tmps.getD 72 undef = .int .u64 x7.n := hd 35 (by rfl)
      refine wpOp_of rfl rfl ?_
      refine op_run (v := .int .i64 (IntKind.i64.wrap x7.n)) (w' := w') ?_ ⟨_, rfl, ?_, ?_⟩
      · simp only [execOp, Act.eval, List.map_toArray, List.map_cons, List.map_nil, d35]; first | (go_simp; done) | rfl
      · try dsimp only
        exact (slots_put (ns := 86) (hsa.size.trans rfl) (by decide))
      · exact Below.refl _ _
    | 37, ho =>
      obtain rfl := Option.some.inj ho
      try dsimp only at hd
      have g4 : a'.tmps.getD 4 undef = .slice (some ⟨g, 0, none⟩) 9 cp := hsa.rest 4 (by rfl)
      refine wpOp_of rfl rfl ?_
      refine op_run (v := .slice (some ⟨g, 0, none⟩) 9 cp) (w' := w') ?_ ⟨_, rfl, ?_, ?_⟩
      · simp only [execOp, Act.eval, List.map_toArray, List.map_cons, List.map_nil, g4]; first | (go_simp; done) | rfl
      · try dsimp only
        exact (slots_put (ns := 86) (hsa.size.trans rfl) (by decide))
      · exact Below.refl _ _
    | 38, ho =>
      obtain rfl := Option.some.inj ho
      try dsimp only at hd
      have d37 : a'.tmps.getD 74 undef = .slice (some ⟨g, 0, none⟩) 9 cp := hd 37 (by rfl)
      refine wpOp_of rfl rfl ?_
      refine op_run (v := .pointer (some ⟨g, 24, none⟩)) (w' := w') ?_ ⟨_, rfl, ?_, ?_⟩
      · simp only [execOp, Act.eval, List.map_toArray, List.map_cons, List.map_nil, d37]; first | (go_simp; done) | rfl
      · try dsimp only
        exact (slots_put (ns := 86) (hsa.size.trans rfl) (by decide))
      · exact Below.refl _ _
    | 39, ho =>
      obtain rfl := Option.some.inj ho
      try dsimp only at hd
      have d38 : a'.tmps.getD 75 undef = .pointer (some ⟨g, 24, none⟩) := hd 38 (by rfl)
      refine wpOp_of rfl rfl ?_
      refine op_run (v := .pointer (some ⟨g, 25, none⟩)) (w' := w') ?_ ⟨_, rfl, ?_, ?_⟩
      · simp only [execOp, Act.eval, List.map_toArray, List.map_cons, List.map_nil, d38]; first | (go_simp; done) | rfl
      · try dsimp only
        exact (slots_put (ns := 86) (hsa.size.trans rfl) (by decide))
      · exact Below.refl _ _
    | 40, ho =>
      obtain rfl := Option.some.inj ho
      try dsimp only at hd
      have d39 : a'.tmps.getD 76 undef = .pointer (some ⟨g, 25, none⟩) := hd 39 (by rfl)
      have y8 : w'.cell? ⟨g, 25, none⟩ = some (.int .u64 x8.n) := (hb.cell (p := ⟨g, 25, none⟩) hg).trans y8
      refine wpOp_of rfl rfl ?_
      refine op_run (v := .int .u64 x8.n) (w' := w') ?_ ⟨_, rfl, ?_, ?_⟩
      · simp only [execOp, Act.eval, List.map_toArray, List.map_cons, List.map_nil, d39, y8]; first | (go_simp; done) | rfl
      · try dsimp only
        exact (slots_put (ns := 86) (hsa.size.trans rfl) (by decide))
      · exact Below.refl _ _
    | 41, ho =>
      obtain rfl := Option.some.inj ho
      try dsimp only at hd
      have d40 : a'.tmps.getD 77 undef = .int .u64 x8.n := hd 40 (by rfl)
      refine wpOp_of rfl rfl ?_
      refine op_run (v := .int .i64 (IntKind.i64.wrap x8.n)) (w' := w') ?_ ⟨_, rfl, ?_, ?_⟩
      · simp only [execOp, Act.eval, List.map_toArray, List.map_cons, List.map_nil, d40]; first | (go_simp; done) | rfl
      · try dsimp only
        exact (slots_put (ns := 86) (hsa.size.trans rfl) (by decide))
      · exact Below.refl _ _
    | 42, ho =>
      obtain rfl := Option.some.inj ho
      try dsimp only at hd
      have d4 : a'.tmps.getD 41 undef = .int .i64 (IntKind.i64.wrap x0.n) := hd 4 (by rfl)
      have d8 : a'.tmps.getD 45 undef = .string x1.s := hd 8 (by rfl)
      have d12 : a'.tmps.getD 49 undef = .string x2.s := hd 12 (by rfl)
      have d17 : a'.tmps.getD 54 undef = .int .i64 (IntKind.i64.wrap x3.n) := hd 17 (by rfl)
      have d21 : a'.tmps.getD 58 undef = .string x4.s := hd 21 (by rfl)
      have d25 : a'.tmps.getD 62 undef = .string x5.s := hd 25 (by rfl)
      have d31 : a'.tmps.getD 68 undef = .int .i64 (IntKind.i64.wrap (IntKind.i64.wrap x6.n - 1)) := hd 31 (by rfl)
      have d36 : a'.tmps.getD 73 undef = .int .i64 (IntKind.i64.wrap x7.n) := hd 36 (by rfl)
      have d41 : a'.tmps.getD 78 undef = .int .i64 (IntKind.i64.wrap x8.n) := hd 41 (by rfl)
      refine wpOp_of rfl rfl ?_
      refine op_run (v := .agg #[.int .i64 (IntKind.i64.wrap x0.n), .string x1.s, .string x2.s, .int .i64 (IntKind.i64.wrap x3.n), .string x4.s, .string x5.s, .int .i64 (IntKind.i64.wrap (IntKind.i64.wrap x6.n - 1)), .int .i64 (IntKind.i64.wrap x7.n), .int .i64 (IntKind.i64.wrap x8.n)]) (w' := w') ?_ ⟨_, rfl, ?_, ?_⟩
      · simp only [execOp, Act.eval, List.map_toArray, List.map_cons, List.map_nil, d4, d8, d12, d17, d21, d25, d31, d36, d41]; first | (go_simp; done) | rfl
      · try dsimp only
        exact (slots_put (ns := 86) (hsa.size.trans rfl) (by decide))
      · exact Below.refl _ _
    | 43, ho =>
      obtain rfl := Option.some.inj ho
      try dsimp only at hd
      refine wpOp_of rfl rfl ?_
      refine op_run (v := Value.pointer (some ⟨w'.heap.size, 0, none⟩)) (w' := w'.alloc (.cells #[.int .i64 0, .string ⟨#[]⟩, .string ⟨#[]⟩, .int .i64 0, .string ⟨#[]⟩, .string ⟨#[]⟩, .int .i64 0, .int .i64 0, .int .i64 0] 23)) ?_ ⟨_, rfl, ?_, ?_⟩
      · simp only [execOp, Act.eval, List.map_toArray, List.map_cons, List.map_nil]; first | (go_simp; done) | rfl
      · try dsimp only
        exact ⟨_, (slots_put (ns := 86) (hsa.size.trans rfl) (by decide)), hb.size, heap_alloc_new _ _⟩
      · exact (Below.refl _ _).alloc (Nat.le_refl _) _
    | 44, ho =>
      obtain rfl := Option.some.inj ho
      try dsimp only at hd
      refine wpOp_of rfl rfl ?_
      refine op_run (v := undef) (w' := w') ?_ ⟨_, rfl, ?_, ?_⟩
      · rfl
      · try dsimp only
        trivial
      · exact Below.refl _ _
    | (n + 45), ho => exact absurd ho (by simp)
  case pdone =>
    intro a' w' hsa hb hd
    have d0 : a'.tmps.getD 37 undef = .slice (some ⟨g, 0, none⟩) 9 cp := hd 0 (by decide)
    have d1 : a'.tmps.getD 38 undef = .pointer (some ⟨g, 0, none⟩) := hd 1 (by decide)
    have d2 : a'.tmps.getD 39 undef = .pointer (some ⟨g, 1, none⟩) := hd 2 (by decide)
    have d3 : a'.tmps.getD 40 undef = .int .u64 x0.n := hd 3 (by decide)
    have d4 : a'.tmps.getD 41 undef = .int .i64 (IntKind.i64.wrap x0.n) := hd 4 (by decide)
    have d5 : a'.tmps.getD 42 undef = .slice (some ⟨g, 0, none⟩) 9 cp := hd 5 (by decide)
    have d6 : a'.tmps.getD 43 undef = .pointer (some ⟨g, 3, none⟩) := hd 6 (by decide)
    have d7 : a'.tmps.getD 44 undef = .pointer (some ⟨g, 5, none⟩) := hd 7 (by decide)
    have d8 : a'.tmps.getD 45 undef = .string x1.s := hd 8 (by decide)
    have d9 : a'.tmps.getD 46 undef = .slice (some ⟨g, 0, none⟩) 9 cp := hd 9 (by decide)
    have d10 : a'.tmps.getD 47 undef = .pointer (some ⟨g, 6, none⟩) := hd 10 (by decide)
    have d11 : a'.tmps.getD 48 undef = .pointer (some ⟨g, 8, none⟩) := hd 11 (by decide)
    have d12 : a'.tmps.getD 49 undef = .string x2.s := hd 12 (by decide)
    have d13 : a'.tmps.getD 50 undef = .slice (some ⟨g, 0, none⟩) 9 cp := hd 13 (by decide)
    have d14 : a'.tmps.getD 51 undef = .pointer (some ⟨g, 9, none⟩) := hd 14 (by decide)
    have d15 : a'.tmps.getD 52 undef = .pointer (some ⟨g, 10, none⟩) := hd 15 (by decide)
    have d16 : a'.tmps.getD 53 undef = .int .u64 x3.n := hd 16 (by decide)
    have d17 : a'.tmps.getD 54 undef = .int .i64 (IntKind.i64.wrap x3.n) := hd 17 (by decide)
    have d18 : a'.tmps.getD 55 undef = .slice (some ⟨g, 0, none⟩) 9 cp := hd 18 (by decide)
    have d19 : a'.tmps.getD 56 undef = .pointer (some ⟨g, 12, none⟩) := hd 19 (by decide)
    have d20 : a'.tmps.getD 57 undef = .pointer (some ⟨g, 14, none⟩) := hd 20 (by decide)
    have d21 : a'.tmps.getD 58 undef = .string x4.s := hd 21 (by decide)
    have d22 : a'.tmps.getD 59 undef = .slice (some ⟨g, 0, none⟩) 9 cp := hd 22 (by decide)
    have d23 : a'.tmps.getD 60 undef = .pointer (some ⟨g, 15, none⟩) := hd 23 (by decide)
    have d24 : a'.tmps.getD 61 undef = .pointer (some ⟨g, 17, none⟩) := hd 24 (by decide)
    have d25 : a'.tmps.getD 62 undef = .string x5.s := hd 25 (by decide)
    have d26 : a'.tmps.getD 63 undef = .slice (some ⟨g, 0, none⟩) 9 cp := hd 26 (by decide)
    have d27 : a'.tmps.getD 64 undef = .pointer (some ⟨g, 18, none⟩) := hd 27 (by decide)
    have d28 : a'.tmps.getD 65 undef = .pointer (some ⟨g, 19, none⟩) := hd 28 (by decide)
    have d29 : a'.tmps.getD 66 undef = .int .u64 x6.n := hd 29 (by decide)
    have d30 : a'.tmps.getD 67 undef = .int .i64 (IntKind.i64.wrap x6.n) := hd 30 (by decide)
    have d31 : a'.tmps.getD 68 undef = .int .i64 (IntKind.i64.wrap (IntKind.i64.wrap x6.n - 1)) := hd 31 (by decide)
    have d32 : a'.tmps.getD 69 undef = .slice (some ⟨g, 0, none⟩) 9 cp := hd 32 (by decide)
    have d33 : a'.tmps.getD 70 undef = .pointer (some ⟨g, 21, none⟩) := hd 33 (by decide)
    have d34 : a'.tmps.getD 71 undef = .pointer (some ⟨g, 22, none⟩) := hd 34 (by decide)
    have d35 : a'.tmps.getD 72 undef = .int .u64 x7.n := hd 35 (by decide)
    have d36 : a'.tmps.getD 73 undef = .int .i64 (IntKind.i64.wrap x7.n) := hd 36 (by decide)
    have d37 : a'.tmps.getD 74 undef = .slice (some ⟨g, 0, none⟩) 9 cp := hd 37 (by decide)
    have d38 : a'.tmps.getD 75 undef = .pointer (some ⟨g, 24, none⟩) := hd 38 (by decide)
    have d39 : a'.tmps.getD 76 undef = .pointer (some ⟨g, 25, none⟩) := hd 39 (by decide)
    have d40 : a'.tmps.getD 77 undef = .int .u64 x8.n := hd 40 (by decide)
    have d41 : a'.tmps.getD 78 undef = .int .i64 (IntKind.i64.wrap x8.n) := hd 41 (by decide)
    have d42 : a'.tmps.getD 79 undef = .agg #[.int .i64 (IntKind.i64.wrap x0.n), .string x1.s, .string x2.s, .int .i64 (IntKind.i64.wrap x3.n), .string x4.s, .string x5.s, .int .i64 (IntKind.i64.wrap (IntKind.i64.wrap x6.n - 1)), .int .i64 (IntKind.i64.wrap x7.n), .int .i64 (IntKind.i64.wrap x8.n)] := hd 42 (by decide)
    have d43 : ∃ q, a'.tmps.getD 6 undef = .pointer (some ⟨q, 0, none⟩) ∧ wq.heap.size ≤ q ∧ w'.heap[q]? = some (.cells #[.int .i64 0, .string ⟨#[]⟩, .string ⟨#[]⟩, .int .i64 0, .string ⟨#[]⟩, .string ⟨#[]⟩, .int .i64 0, .int .i64 0, .int .i64 0] 23 (0, 0)) := hd 43 (by decide)
    have d44 : True := hd 44 (by decide)
    obtain ⟨q, d43, hq, h3⟩ := d43
    intro K2 hK2
    have q0 := box_cell h3 0 rfl
    have z0 := box_free h3 0
    have q1 := box_cell h3 1 rfl
    have z1 := box_free h3 1
    have q2 := box_cell h3 2 rfl
    have z2 := box_free h3 2
    have q3 := box_cell h3 3 rfl
    have z3 := box_free h3 3
    have q4 := box_cell h3 4 rfl
    have z4 := box_free h3 4
    have q5 := box_cell h3 5 rfl
    have z5 := box_free h3 5
    have q6 := box_cell h3 6 rfl
    have z6 := box_free h3 6
    have q7 := box_cell h3 7 rfl
    have z7 := box_free h3 7
    have q8 := box_cell h3 8 rfl
    have z8 := box_free h3 8
    refine op_skip (w' := ((((((((w'.setCell ⟨q, 0, none⟩ (.int .i64 (IntKind.i64.wrap x0.n))).setCell ⟨q, 1, none⟩ (.string x1.s)).setCell ⟨q, 2, none⟩ (.string x2.s)).setCell ⟨q, 3, none⟩ (.int .i64 (IntKind.i64.wrap x3.n))).setCell ⟨q, 4, none⟩ (.string x4.s)).setCell ⟨q, 5, none⟩ (.string x5.s)).setCell ⟨q, 6, none⟩ (.int .i64 (IntKind.i64.wrap (IntKind.i64.wrap x6.n - 1)))).setCell ⟨q, 7, none⟩ (.int .i64 (IntKind.i64.wrap x7.n))).setCell ⟨q, 8, none⟩ (.int .i64 (IntKind.i64.wrap x8.n))) ?_ (hK2 _ _ ?_)
    · simp only [execOp, Act.eval, d43, d42]
      first | (go_simp; done) | (go_simp; rfl)
    refine HQ.out _ _ q ⟨hsa.size.trans rfl, hsa.defers.trans rfl, hsa.rest 0 (by rfl), hsa.rest 2 (by rfl), hsa.rest 3 (by rfl), hsa.rest 4 (by rfl), hsa.rest 5 (by rfl), d43, hsa.rest 7 (by rfl), hsa.rest 14 (by rfl), hsa.rest 35 (by rfl), hsa.rest 83 (by rfl)⟩ ?_ hq ?_
    · have h9 := box_set (box_set (box_set (box_set (box_set (box_set (box_set (box_set (box_set (h3) 0 (.int .i64 (IntKind.i64.wrap x0.n))) 1 (.string x1.s)) 2 (.string x2.s)) 3 (.int .i64 (IntKind.i64.wrap x3.n))) 4 (.string x4.s)) 5 (.string x5.s)) 6 (.int .i64 (IntKind.i64.wrap (IntKind.i64.wrap x6.n - 1)))) 7 (.int .i64 (IntKind.i64.wrap x7.n))) 8 (.int .i64 (IntKind.i64.wrap x8.n))
      simpa [cmR, CM.cells] using h9
    · exact (((((((((hb).setCell (p := ⟨q, 0, none⟩) hq _).setCell (p := ⟨q, 1, none⟩) hq _).setCell (p := ⟨q, 2, none⟩) hq _).setCell (p := ⟨q, 3, none⟩) hq _).setCell (p := ⟨q, 4, none⟩) hq _).setCell (p := ⟨q, 5, none⟩) hq _).setCell (p := ⟨q, 6, none⟩) hq _).setCell (p := ⟨q, 7, none⟩) hq _).setCell (p := ⟨q, 8, none⟩) hq _
set_option maxHeartbeats 8000000 in
set_option maxRecDepth 100000 in
theorem rd_r7 {K : Act → World → Prop} {c : Code} (hc : regOf (Tryd.f11.body.getD .skip) 7 = some c) (a : Act) {v : Vrd} {wq : World} {b : Nat} {x : CM} {p : Bool} (hF : Frd a v) (h6v : v.v6 = .pointer (some ⟨b, 0, none⟩)) (hB : wq.heap[b]? = some (.cells x.cells 23 (0, 0))) (hC : ∀ W, Below wq.heap.size wq W → Calls Tryd.prog 13 #[x.v] W fun e w' => e = .returned (.bool p) ∧ Below W.heap.size W w')
    (hQ : ∀ a' w', Frd a' { v with v7 := .bool p } → Below wq.heap.size wq w' → K a' w') :
    Code.wp Tryd.prog c (Exit.then K fun _ _ _ => False) a wq := by
  have HQ := hide hQ
  clear hQ
  obtain ⟨t', d'⟩ := a
  obtain ⟨v0, v2, v3, v4, v5, v6, v7, v14, v35, v83⟩ := v
  simp only at h6v HQ
  subst h6v
  obtain ⟨hs1, hd1, q0, q2, q3, q4, q5, q6, q7, q14, q35, q83⟩ := hF
  obtain ⟨u, hu⟩ := frame_rd t' hs1
  simp only at hd1 q0 q2 q3 q4 q5 q6 q7 q14 q35 q83
  subst hu hd1
  have e0 : u 0 = v0 := q0
  have e2 : u 2 = v2 := q2
  have e3 : u 3 = v3 := q3
  have e4 : u 4 = v4 := q4
  have e5 : u 5 = v5 := q5
  have e6 : u 6 = .pointer (some ⟨b, 0, none⟩) := q6
  have e7 : u 7 = v7 := q7
  have e14 : u 14 = v14 := q14
  have e35 : u 35 = v35 := q35
  have e83 : u 83 = v83 := q83
  rw [e0, e2, e3, e4, e5, e6, e7, e14, e35, e83]
  clear q0 e0 q2 e2 q3 e3 q4 e4 q5 e5 q6 e6 q7 e7 q14 e14 q35 e35 q83 e83 hs1
  simp only [Tryd.f11, Option.getD_some, regOf] at hc
  injection hc with hc
  subst hc
  generalize u 1 = u1
  generalize u 8 = u8
  generalize u 9 = u9
  generalize u 10 = u10
  generalize u 11 = u11
  generalize u 12 = u12
  generalize u 13 = u13
  generalize u 15 = u15
  generalize u 16 = u16
  generalize u 17 = u17
  generalize u 18 = u18
  generalize u 19 = u19
  generalize u 20 = u20
  generalize u 21 = u21
  generalize u 22 = u22
  generalize u 23 = u23
  generalize u 24 = u24
  generalize u 25 = u25
  generalize u 26 = u26
  generalize u 27 = u27
  generalize u 28 = u28
  generalize u 29 = u29
  generalize u 30 = u30
  generalize u 31 = u31
  generalize u 32 = u32
  generalize u 33 = u33
  generalize u 34 = u34
  generalize u 36 = u36
  generalize u 37 = u37
  generalize u 38 = u38
  generalize u 39 = u39
  generalize u 40 = u40
  generalize u 41 = u41
  generalize u 42 = u42
  generalize u 43 = u43
  generalize u 44 = u44
  generalize u 45 = u45
  generalize u 46 = u46
  generalize u 47 = u47
  generalize u 48 = u48
  generalize u 49 = u49
  generalize u 50 = u50
  generalize u 51 = u51
  generalize u 52 = u52
  generalize u 53 = u53
  generalize u 54 = u54
  generalize u 55 = u55
  generalize u 56 = u56
  generalize u 57 = u57
  generalize u 58 = u58
  generalize u 59 = u59
  generalize u 60 = u60
  generalize u 61 = u61
  generalize u 62 = u62
  generalize u 63 = u63
  generalize u 64 = u64
  generalize u 65 = u65
  generalize u 66 = u66
  generalize u 67 = u67
  generalize u 68 = u68
  generalize u 69 = u69
  generalize u 70 = u70
  generalize u 71 = u71
  generalize u 72 = u72
  generalize u 73 = u73
  generalize u 74 = u74
  generalize u 75 = u75
  generalize u 76 = u76
  generalize u 77 = u77
  generalize u 78 = u78
  generalize u 79 = u79
  generalize u 80 = u80
  generalize u 81 = u81
  generalize u 82 = u82
  generalize u 84 = u84
  generalize u 85 = u85
  clear u
  have HC := hide hC
  have c0 := box_cell hB 0 rfl
  have c1 := box_cell hB 1 rfl
  have c2 := box_cell hB 2 rfl
  have c3 := box_cell hB 3 rfl
  have c4 := box_cell hB 4 rfl
  have c5 := box_cell hB 5 rfl
  have c6 := box_cell hB 6 rfl
  have c7 := box_cell hB 7 rfl
  have c8 := box_cell hB 8 rfl
  clear hC hB
  simp only [CM.v, CM.cells] at *
  go_wp2_with (go_at_call 13; refine (HC.out _ (Below.refl _ _)).mono ?_; rintro e w1 ⟨rfl, b1⟩)
  exact HQ.out _ _ ⟨rfl, rfl, rfl, rfl, rfl, rfl, rfl, rfl, rfl, rfl, rfl, rfl⟩ b1
set_option maxHeartbeats 8000000 in
set_option maxRecDepth 100000 in
theorem rd_r8 {K : Act → World → Prop} {c : Code} (hc : regOf (Tryd.f11.body.getD .skip) 8 = some c) (a : Act) {v : Vrd} {wq : World} {p : Bool} (hF : Frd a v) (h7v : v.v7 = .bool p) (hQ : ∀ a', Frd a' { v with v83 := .bool (!p) } → K a' wq) :
    Code.wp Tryd.prog c (Exit.then K fun _ _ _ => False) a wq := by
  have HQ := hide hQ
  clear hQ
  obtain ⟨t', d'⟩ := a
  obtain ⟨v0, v2, v3, v4, v5, v6, v7, v14, v35, v83⟩ := v
  simp only at h7v HQ
  subst h7v
  obtain ⟨hs1, hd1, q0, q2, q3, q4, q5, q6, q7, q14, q35, q83⟩ := hF
  obtain ⟨u, hu⟩ := frame_rd t' hs1
  simp only at hd1 q0 q2 q3 q4 q5 q6 q7 q14 q35 q83
  subst hu hd1
  have e0 : u 0 = v0 := q0
  have e2 : u 2 = v2 := q2
  have e3 : u 3 = v3 := q3
  have e4 : u 4 = v4 := q4
  have e5 : u 5 = v5 := q5
  have e6 : u 6 = v6 := q6
  have e7 : u 7 = .bool p := q7
  have e14 : u 14 = v14 := q14
  have e35 : u 35 = v35 := q35
  have e83 : u 83 = v83 := q83
  rw [e0, e2, e3, e4, e5, e6, e7, e14, e35, e83]
  clear q0 e0 q2 e2 q3 e3 q4 e4 q5 e5 q6 e6 q7 e7 q14 e14 q35 e35 q83 e83 hs1
  simp only [Tryd.f11, Option.getD_some, regOf] at hc
  injection hc with hc
  subst hc
  generalize u 1 = u1
  generalize u 8 = u8
  generalize u 9 = u9
  generalize u 10 = u10
  generalize u 11 = u11
  generalize u 12 = u12
  generalize u 13 = u13
  generalize u 15 = u15
  generalize u 16 = u16
  generalize u 17 = u17
  generalize u 18 = u18
  generalize u 19 = u19
  generalize u 20 = u20
  generalize u 21 = u21
  generalize u 22 = u22
  generalize u 23 = u23
  generalize u 24 = u24
  generalize u 25 = u25
  generalize u 26 = u26
  generalize u 27 = u27
  generalize u 28 = u28
  generalize u 29 = u29
  generalize u 30 = u30
  generalize u 31 = u31
  generalize u 32 = u32
  generalize u 33 = u33
  generalize u 34 = u34
  generalize u 36 = u36
  generalize u 37 = u37
  generalize u 38 = u38
  generalize u 39 = u39
  generalize u 40 = u40
  generalize u 41 = u41
  generalize u 42 = u42
  generalize u 43 = u43
  generalize u 44 = u44
  generalize u 45 = u45
  generalize u 46 = u46
  generalize u 47 = u47
  generalize u 48 = u48
  generalize u 49 = u49
  generalize u 50 = u50
  generalize u 51 = u51
  generalize u 52 = u52
  generalize u 53 = u53
  generalize u 54 = u54
  generalize u 55 = u55
  generalize u 56 = u56
  generalize u 57 = u57
  generalize u 58 = u58
  generalize u 59 = u59
  generalize u 60 = u60
  generalize u 61 = u61
  generalize u 62 = u62
  generalize u 63 = u63
  generalize u 64 = u64
  generalize u 65 = u65
  generalize u 66 = u66
  generalize u 67 = u67
  generalize u 68 = u68
  generalize u 69 = u69
  generalize u 70 = u70
  generalize u 71 = u71
  generalize u 72 = u72
  generalize u 73 = u73
  generalize u 74 = u74
  generalize u 75 = u75
  generalize u 76 = u76
  generalize u 77 = u77
  generalize u 78 = u78
  generalize u 79 = u79
  generalize u 80 = u80
  generalize u 81 = u81
  generalize u 82 = u82
  generalize u 84 = u84
  generalize u 85 = u85
  clear u
  go_wp2
  exact HQ.out _ ⟨rfl, rfl, rfl, rfl, rfl, rfl, rfl, rfl, rfl, rfl, rfl, rfl⟩
set_option maxHeartbeats 8000000 in
set_option maxRecDepth 100000 in
theorem rd_r10 {K : Act → World → Prop} {c : Code} (hc : regOf (Tryd.f11.body.getD .skip) 10 = some c) (a : Act) {v : Vrd} {wq : World} {rb q B : Nat} {x : CM} (hF : Frd a v) (h2v : v.v2 = .pointer (some ⟨rb, 0, none⟩)) (h6v : v.v6 = .pointer (some ⟨q, 0, none⟩)) (hB : wq.heap[rb]? = some (.cells CM.zero.cells 23 (0, 0))) (hrb : B ≤ rb)
    (hX : wq.heap[q]? = some (.cells x.cells 23 (0, 0))) (hne : rb ≠ q) (hQ : ∀ a' w', Frd a' { v with v3 := .int .i64 0 } → w'.heap[rb]? = some (.cells x.cells 23 (0, 0)) → Below B wq w' → K a' w') :
    Code.wp Tryd.prog c (Exit.then K fun _ _ _ => False) a wq := by
  have HQ := hide hQ
  clear hQ
  obtain ⟨t', d'⟩ := a
  obtain ⟨v0, v2, v3, v4, v5, v6, v7, v14, v35, v83⟩ := v
  simp only at h2v h6v HQ
  subst h2v h6v
  obtain ⟨hs1, hd1, q0, q2, q3, q4, q5, q6, q7, q14, q35, q83⟩ := hF
  obtain ⟨u, hu⟩ := frame_rd t' hs1
  simp only at hd1 q0 q2 q3 q4 q5 q6 q7 q14 q35 q83
  subst hu hd1
  have e0 : u 0 = v0 := q0
  have e2 : u 2 = .pointer (some ⟨rb, 0, none⟩) := q2
  have e3 : u 3 = v3 := q3
  have e4 : u 4 = v4 := q4
  have e5 : u 5 = v5 := q5
  have e6 : u 6 = .pointer (some ⟨q, 0, none⟩) := q6
  have e7 : u 7 = v7 := q7
  have e14 : u 14 = v14 := q14
  have e35 : u 35 = v35 := q35
  have e83 : u 83 = v83 := q83
  rw [e0, e2, e3, e4, e5, e6, e7, e14, e35, e83]
  clear q0 e0 q2 e2 q3 e3 q4 e4 q5 e5 q6 e6 q7 e7 q14 e14 q35 e35 q83 e83 hs1
  simp only [Tryd.f11, Option.getD_some, regOf] at hc
  injection hc with hc
  subst hc
  generalize u 1 = u1
  generalize u 8 = u8
  generalize u 9 = u9
  generalize u 10 = u10
  generalize u 11 = u11
  generalize u 12 = u12
  generalize u 13 = u13
  generalize u 15 = u15
  generalize u 16 = u16
  generalize u 17 = u17
  generalize u 18 = u18
  generalize u 19 = u19
  generalize u 20 = u20
  generalize u 21 = u21
  generalize u 22 = u22
  generalize u 23 = u23
  generalize u 24 = u24
  generalize u 25 = u25
  generalize u 26 = u26
  generalize u 27 = u27
  generalize u 28 = u28
  generalize u 29 = u29
  generalize u 30 = u30
  generalize u 31 = u31
  generalize u 32 = u32
  generalize u 33 = u33
  generalize u 34 = u34
  generalize u 36 = u36
  generalize u 37 = u37
  generalize u 38 = u38
  generalize u 39 = u39
  generalize u 40 = u40
  generalize u 41 = u41
  generalize u 42 = u42
  generalize u 43 = u43
  generalize u 44 = u44
  generalize u 45 = u45
  generalize u 46 = u46
  generalize u 47 = u47
  generalize u 48 = u48
  generalize u 49 = u49
  generalize u 50 = u50
  generalize u 51 = u51
  generalize u 52 = u52
  generalize u 53 = u53
  generalize u 54 = u54
  generalize u 55 = u55
  generalize u 56 = u56
  generalize u 57 = u57
  generalize u 58 = u58
  generalize u 59 = u59
  generalize u 60 = u60
  generalize u 61 = u61
  generalize u 62 = u62
  generalize u 63 = u63
  generalize u 64 = u64
  generalize u 65 = u65
  generalize u 66 = u66
  generalize u 67 = u67
  generalize u 68 = u68
  generalize u 69 = u69
  generalize u 70 = u70
  generalize u 71 = u71
  generalize u 72 = u72
  generalize u 73 = u73
  generalize u 74 = u74
  generalize u 75 = u75
  generalize u 76 = u76
  generalize u 77 = u77
  generalize u 78 = u78
  generalize u 79 = u79
  generalize u 80 = u80
  generalize u 81 = u81
  generalize u 82 = u82
  generalize u 84 = u84
  generalize u 85 = u85
  clear u
  have H1 := hide (set9_box (c := x) hB)
  have H2 := hide (set9_below (B := B) (c := x) (Below.refl _ wq) hrb)
  simp only [CM.zero, CM.cells] at hB hX
  have c0 := box_cell hB 0 rfl
  have f0 := box_free hB 0
  have c1 := box_cell hB 1 rfl
  have f1 := box_free hB 1
  have c2 := box_cell hB 2 rfl
  have f2 := box_free hB 2
  have c3 := box_cell hB 3 rfl
  have f3 := box_free hB 3
  have c4 := box_cell hB 4 rfl
  have f4 := box_free hB 4
  have c5 := box_cell hB 5 rfl
  have f5 := box_free hB 5
  have c6 := box_cell hB 6 rfl
  have f6 := box_free hB 6
  have c7 := box_cell hB 7 rfl
  have f7 := box_free hB 7
  have c8 := box_cell hB 8 rfl
  have f8 := box_free hB 8
  have d0 := box_cell hX 0 rfl
  have d1 := box_cell hX 1 rfl
  have d2 := box_cell hX 2 rfl
  have d3 := box_cell hX 3 rfl
  have d4 := box_cell hX 4 rfl
  have d5 := box_cell hX 5 rfl
  have d6 := box_cell hX 6 rfl
  have d7 := box_cell hX 7 rfl
  have d8 := box_cell hX 8 rfl
  clear hB hrb hX
  go_wp2
  exact HQ.out _ _ ⟨rfl, rfl, rfl, rfl, rfl, rfl, rfl, rfl, rfl, rfl, rfl, rfl⟩ H1.out H2.out
theorem rd_ret {W : World} {a : Act} {v : Vrd} {rb : Nat} {c : CM} {er : Int} {R : Ending → World → Prop} (hF : Frd a v) (h2 : v.v2 = .pointer (some ⟨rb, 0, none⟩)) (h3 : v.v3 = .int .i64 er) (hR : W.heap[rb]? = some (.cells c.cells 23 (0, 0))) (h : R (.returned (.tuple #[c.v, .int .i64 er])) W) :
    bodyPost Tryd.prog Tryd.f11 R .ret a W := by
  have g2 := slot_get (hF.s2.trans h2)
  have g3 := slot_get (hF.s3.trans h3)
  have c0 := box_cell hR 0 rfl
  have c1 := box_cell hR 1 rfl
  have c2 := box_cell hR 2 rfl
  have c3 := box_cell hR 3 rfl
  have c4 := box_cell hR 4 rfl
  have c5 := box_cell hR 5 rfl
  have c6 := box_cell hR 6 rfl
  have c7 := box_cell hR 7 rfl
  have c8 := box_cell hR 8 rfl
  refine bodyPost_ret (v := .tuple #[c.v, .int .i64 er]) ?_ hF.defers h
  simp [results, Tryd.results11, go_sem, g2, g3, c0, c1, c2, c3, c4, c5, c6, c7, c8, CM.v, CM.cells]
end Go.Proofs.YthfflefnapbkiaaDoor
/-
  carillonref14's Decode (mkrdec.py)
-/
namespace Go.Proofs.YthfflefnapbkiaaDoor
open Go.RowKit

attribute [local go_sem ↓] Go.wp_at_zero Go.wp_at_succ
set_option linter.unusedSimpArgs false
set_option linter.unusedVariables false
/-- What is read is one command, whether longs wrap or not. -/
theorem cmR_same {x0 x1 x2 x3 x4 x5 x6 x7 x8 : K.It} (h : ∀ x ∈ [x0, x1, x2, x3, x4, x5, x6, x7, x8], x.ok) (hr : (cmR x0 x1 x2 x3 x4 x5 x6 x7 x8).right = true ∨ (cmOf [x0, x1, x2, x3, x4, x5, x6, x7, x8]).right = true) : cmR x0 x1 x2 x3 x4 x5 x6 x7 x8 = cmOf [x0, x1, x2, x3, x4, x5, x6, x7, x8] := by
  obtain ⟨_, _, p1, p2, _⟩ := h x0 (by simp)
  obtain ⟨_, _, p3, p4, _⟩ := h x3 (by simp)
  obtain ⟨_, _, p5, p6, _⟩ := h x6 (by simp)
  obtain ⟨_, _, p7, p8, _⟩ := h x7 (by simp)
  obtain ⟨_, _, p9, p10, _⟩ := h x8 (by simp)
  show CM.mk _ _ _ _ _ _ _ _ _ = CM.mk _ _ _ _ _ _ _ _ _
  rcases hr with hr | hr
  · obtain ⟨k1, k2, o1, o2, a1, a2, s1, s2, n1, n2, _⟩ := CM.small hr
    simp only [cmR, IntKind.wrap_i64] at k1 k2 o1 o2 a1 a2 s1 s2 n1 n2
    have q0 : IntKind.i64.wrap x0.n = x0.n := by rw [IntKind.wrap_i64]; omega
    have q3 : IntKind.i64.wrap x3.n = x3.n := by rw [IntKind.wrap_i64]; omega
    have q7 : IntKind.i64.wrap x7.n = x7.n := by rw [IntKind.wrap_i64]; omega
    have q8 : IntKind.i64.wrap x8.n = x8.n := by rw [IntKind.wrap_i64]; omega
    have q6 : IntKind.i64.wrap (IntKind.i64.wrap x6.n - 1) = x6.n - 1 := by rw [IntKind.wrap_i64, IntKind.wrap_i64]; omega
    rw [q0, q3, q6, q7, q8]
  · obtain ⟨k1, k2, o1, o2, a1, a2, s1, s2, n1, n2, _⟩ := CM.small hr
    simp only [cmOf] at k1 k2 o1 o2 a1 a2 s1 s2 n1 n2
    have q0 : IntKind.i64.wrap x0.n = x0.n := by rw [IntKind.wrap_i64]; omega
    have q3 : IntKind.i64.wrap x3.n = x3.n := by rw [IntKind.wrap_i64]; omega
    have q7 : IntKind.i64.wrap x7.n = x7.n := by rw [IntKind.wrap_i64]; omega
    have q8 : IntKind.i64.wrap x8.n = x8.n := by rw [IntKind.wrap_i64]; omega
    have q6 : IntKind.i64.wrap (IntKind.i64.wrap x6.n - 1) = x6.n - 1 := by rw [IntKind.wrap_i64, IntKind.wrap_i64]; omega
    rw [q0, q3, q6, q7, q8]
theorem cmOf_great {x0 x1 x2 x3 x4 x5 x6 x7 x8 : K.It} (h : 9007199254740991 < x3.n ∨ 9007199254740992 < x6.n ∨ 9007199254740991 < x8.n) : (cmOf [x0, x1, x2, x3, x4, x5, x6, x7, x8]).right = false := by
  cases hr : (cmOf [x0, x1, x2, x3, x4, x5, x6, x7, x8]).right with
  | false => rfl
  | true =>
    obtain ⟨k1, k2, o1, o2, a1, a2, s1, s2, n1, n2, _⟩ := CM.small hr
    simp only [cmOf] at k1 k2 o1 o2 a1 a2 s1 s2 n1 n2
    unfold CM.right fitsB seqB manyB nodeB greatB at hr
    simp only [cmOf, Bool.and_eq_true, decide_eq_true_eq] at hr
    omega
theorem rdecC_call (s : ByteArray) (h : s.size ≤ 9223372036854775807) (w : World) : Calls Tryd.prog 29 #[.string ⟨#[98, 116, 116, 108, 116, 116, 108, 98, 108]⟩, .string s] w fun e w' => ∃ v, e = .returned (.tuple #[v, .int .i64 (K.decF shapeC s.data.toList).2]) ∧ w'.ownsRow w.heap.size 54 3 v (K.decF shapeC s.data.toList).1.length (K.itemCells (K.decF shapeC s.data.toList).1) ∧ Below w.heap.size w w' :=
  K.rdecode_any ⟨#[98, 116, 116, 108, 116, 116, 108, 98, 108]⟩ s w (by decide) h _ rfl
set_option maxHeartbeats 4000000 in
set_option maxRecDepth 100000 in
theorem rdec_fault (s : ByteArray) (h : s.size ≤ 9223372036854775807) (w : World) (hd : (K.decF shapeC s.data.toList).2 ≠ 0) :
    Calls Tryd.prog 11 #[.string s] w fun e w' => e = .returned (.tuple #[CM.zero.v, .int .i64 (K.decF shapeC s.data.toList).2]) ∧ Below w.heap.size w w' := by
  have HD := rdecC_call s h
  generalize K.decF shapeC s.data.toList = R at *
  obtain ⟨l, er⟩ := R
  have hne : (er != 0) = true := by rw [bne_iff_ne]; exact hd
  simp only at HD hd
  go_enter Tryd.func11, Tryd.ntmps11
  refine wp_seq (reg_mono (rd_r0 (by kernel_rfl) _ (v := ⟨_, _, _, _, _, _, _, _, _, _⟩) ⟨rfl, rfl, rfl, rfl, rfl, rfl, rfl, rfl, rfl, rfl, rfl, rfl⟩ ?_))
  intro a1 w1 rb F1 D1 hrb B1
  refine wp_seq (reg_mono (rd_r1 (P := fun _ _ => True) (by kernel_rfl) _ F1 rfl ((HD w1).mono fun e w' ⟨v, e1, _, e2⟩ => ⟨v, e1, trivial, e2⟩) ?_))
  intro a2 w2 u F2 _ b2
  have D2 := (b2.block _ (heap_lt D1)).trans D1
  have B2 := B1.trans (b2.mono B1.size)
  refine wp_seq (wp_seq (reg_mono (rd_r2 (by kernel_rfl) _ F2 rfl hne ?_)))
  intro a3 F3
  refine wp_cond_true F3.s14 ?_
  refine wp_seq (reg_mono (rd_r3 (B := w.heap.size) (by kernel_rfl) _ F3 rfl rfl D2 hrb ?_))
  intro a4 w4 F4 D4 B4
  refine wp_ret ?_
  exact rd_ret (R := fun e w' => e = .returned (.tuple #[CM.zero.v, .int .i64 er]) ∧ Below w.heap.size w w') F4 rfl rfl D4 ⟨rfl, B2.trans B4⟩
set_option maxHeartbeats 8000000 in
set_option maxRecDepth 100000 in
theorem rdec_nine (s : ByteArray) (h : s.size ≤ 9223372036854775807) (w : World) (x0 x1 x2 x3 x4 x5 x6 x7 x8 : K.It) (hd : K.decF shapeC s.data.toList = ([x0, x1, x2, x3, x4, x5, x6, x7, x8], 0)) (cm : CM) (hx : cm = cmR x0 x1 x2 x3 x4 x5 x6 x7 x8) (hok : cm.ok) (rc : CM) (rf : Int) (bb : Bool) (hbb : bb = decide (9007199254740991 < x3.n ∨ 9007199254740992 < x6.n ∨ 9007199254740991 < x8.n)) (hgood : bb = false → cm.right = true → rc = cm ∧ rf = 0) (hbad : bb = true ∨ cm.right = false → rc = CM.zero ∧ rf = 10) :
    Calls Tryd.prog 11 #[.string s] w fun e w' => e = .returned (.tuple #[rc.v, .int .i64 rf]) ∧ Below w.heap.size w w' := by
  have HD := rdecC_call s h
  rw [hd] at HD
  have HR := rright cm hok
  go_enter Tryd.func11, Tryd.ntmps11
  refine wp_seq (reg_mono (rd_r0 (by kernel_rfl) _ (v := ⟨_, _, _, _, _, _, _, _, _, _⟩) ⟨rfl, rfl, rfl, rfl, rfl, rfl, rfl, rfl, rfl, rfl, rfl, rfl⟩ ?_))
  intro a1 w1 rb F1 D1 hrb B1
  refine wp_seq (reg_mono (rd_r1 (P := fun u w' => ∃ g cp, u = .slice (some ⟨g, 0, none⟩) 9 cp ∧ K.ItemsAt w' (some ⟨g, 0, none⟩) [x0, x1, x2, x3, x4, x5, x6, x7, x8]) (by kernel_rfl) _ F1 rfl ((HD w1).mono fun e w' ⟨v, e1, ho, e2⟩ => ⟨v, e1, (by
    obtain ⟨g, cap, e3, _, hat⟩ := own_items ho (by simp)
    exact ⟨g, cap, e3, hat⟩), e2⟩) ?_))
  rintro a2 w2 u F2 ⟨g, cp, rfl, hat⟩ b2
  have D2 := (b2.block _ (heap_lt D1)).trans D1
  have B2 := B1.trans (b2.mono B1.size)
  refine wp_seq (wp_seq (reg_mono (rd_r2 (bb := false) (by kernel_rfl) _ F2 rfl rfl ?_)))
  intro a3 F3
  refine wp_cond_false F3.s14 (wp_skip ?_)
  refine wp_seq (wp_seq (reg_mono (rd_r4 (by kernel_rfl) _ F3 rfl (it_cell hat rfl (i := 3) (x := x3) rfl).1 (it_cell hat rfl (i := 6) (x := x6) rfl).1 (it_cell hat rfl (i := 8) (x := x8) rfl).1 hbb ?_)))
  intro a4 F4
  clear hbb
  cases bb with
  | true =>
    obtain ⟨rfl, rfl⟩ := hbad (.inl rfl)
    refine wp_cond_true F4.s35 ?_
    refine wp_seq (reg_mono (rd_r5 (B := w.heap.size) (by kernel_rfl) _ F4 rfl D2 hrb ?_))
    intro a5 w5 F5 D5 B5
    refine wp_ret ?_
    exact rd_ret (R := fun e w' => e = .returned (.tuple #[CM.zero.v, .int .i64 10]) ∧ Below w.heap.size w w') F5 rfl rfl D5 ⟨rfl, B2.trans B5⟩
  | false =>
  refine wp_cond_false F4.s35 (wp_skip ?_)
  refine wp_seq (reg_mono (rd_r6 (by kernel_rfl) _ F4 rfl (it_cell hat rfl (i := 0) (x := x0) rfl).2.2 (it_cell hat rfl (i := 0) (x := x0) rfl).1 (it_cell hat rfl (i := 1) (x := x1) rfl).2.1 (it_cell hat rfl (i := 2) (x := x2) rfl).2.1 (it_cell hat rfl (i := 3) (x := x3) rfl).1 (it_cell hat rfl (i := 4) (x := x4) rfl).2.1 (it_cell hat rfl (i := 5) (x := x5) rfl).2.1 (it_cell hat rfl (i := 6) (x := x6) rfl).1 (it_cell hat rfl (i := 7) (x := x7) rfl).1 (it_cell hat rfl (i := 8) (x := x8) rfl).1 ?_))
  intro a5 w5 q F5 X5 hq b5
  rw [← hx] at X5
  have D5 := (b5.block _ (heap_lt D2)).trans D2
  have B5 := B2.trans (b5.mono B2.size)
  have hne : rb ≠ q := Nat.ne_of_lt (Nat.lt_of_lt_of_le (heap_lt D2) hq)
  refine wp_seq (reg_mono (rd_r7 (by kernel_rfl) _ F5 rfl X5 (fun W _ => HR W) ?_))
  intro a6 w6 F6 b6
  have D6 := (b6.block _ (heap_lt D5)).trans D5
  have X6 := (b6.block _ (heap_lt X5)).trans X5
  have B6 := B5.trans (b6.mono B5.size)
  refine wp_seq (wp_seq (reg_mono (rd_r8 (by kernel_rfl) _ F6 rfl ?_)))
  intro a7 F7
  generalize cm.right = rr at *
  cases rr with
  | false =>
    obtain ⟨rfl, rfl⟩ := hbad (.inr rfl)
    refine wp_cond_true F7.s83 ?_
    refine wp_seq (reg_mono (rd_r9 (B := w.heap.size) (by kernel_rfl) _ F7 rfl D6 hrb ?_))
    intro a8 w8 F8 D8 B8
    refine wp_ret ?_
    exact rd_ret (R := fun e w' => e = .returned (.tuple #[CM.zero.v, .int .i64 10]) ∧ Below w.heap.size w w') F8 rfl rfl D8 ⟨rfl, B6.trans B8⟩
  | true =>
    obtain ⟨e1, rfl⟩ := hgood rfl rfl
    rw [e1]
    refine wp_cond_false F7.s83 (wp_skip ?_)
    refine wp_seq (reg_mono (rd_r10 (B := w.heap.size) (by kernel_rfl) _ F7 rfl rfl D6 hrb X6 hne ?_))
    intro a8 w8 F8 D8 B8
    refine wp_ret ?_
    exact rd_ret F8 rfl rfl D8 ⟨rfl, B6.trans B8⟩
theorem rdec (s : ByteArray) (h : s.size ≤ 9223372036854775807) (w : World) :
    Calls Tryd.prog 11 #[.string s] w fun e w' => e = .returned (.tuple #[(decC s.data.toList).1.v, .int .i64 (decC s.data.toList).2]) ∧ Below w.heap.size w w' := by
  by_cases h1 : (K.decF shapeC s.data.toList).2 = 0
  · obtain ⟨x0, x1, x2, x3, x4, x5, x6, x7, x8, h9⟩ := dec_nine _ h1
    have hok := fun x hx => ((dec_itemsC h1).2 x hx).1
    rw [h9] at hok
    have e9 : K.decF shapeC s.data.toList = ([x0, x1, x2, x3, x4, x5, x6, x7, x8], 0) := Prod.ext h9 h1
    have eD : decC s.data.toList = if (cmOf [x0, x1, x2, x3, x4, x5, x6, x7, x8]).right then (cmOf [x0, x1, x2, x3, x4, x5, x6, x7, x8], 0) else (CM.zero, 10) := by
      unfold decC
      rw [e9, if_neg (fun e => e rfl)]
    refine rdec_nine s h w x0 x1 x2 x3 x4 x5 x6 x7 x8 e9 (cmR x0 x1 x2 x3 x4 x5 x6 x7 x8) rfl ⟨(hok x1 (by simp)).2.2.2.2, (hok x2 (by simp)).2.2.2.2, (hok x4 (by simp)).2.2.2.2, (hok x5 (by simp)).2.2.2.2⟩ _ _ _ rfl (fun _ hr => ?_) (fun hr => ?_)
    · rw [eD]
      have e := cmR_same hok (.inl hr)
      rw [e] at hr
      rw [if_pos hr, e]
      exact ⟨rfl, rfl⟩
    · rw [eD]
      have hn : ¬ (cmOf [x0, x1, x2, x3, x4, x5, x6, x7, x8]).right = true := fun h2 => by
        rcases hr with hg | hr
        · rw [cmOf_great (of_decide_eq_true hg)] at h2
          cases h2
        · rw [cmR_same hok (.inr h2), h2] at hr
          cases hr
      rw [if_neg hn]
      exact ⟨rfl, rfl⟩
  · have eD : decC s.data.toList = (CM.zero, (K.decF shapeC s.data.toList).2) := by unfold decC; rw [if_pos h1]
    rw [eD]
    exact rdec_fault s h w h1
end Go.Proofs.YthfflefnapbkiaaDoor
