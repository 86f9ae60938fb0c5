/-
  ViewTells: its regions (mklt.py).
-/
import Derived.Test.YtbkglpbkbfopjaaZVL
import Derived.BigQuiet
namespace Go.Proofs.Ytbkglpbkbfopjaa
open Go.RowKit

attribute [local go_sem ↓] Go.wp_at_zero Go.wp_at_succ
set_option linter.unusedSimpArgs false
set_option linter.unusedVariables false
def firstOf (x : VW) : MB := if x.right then x.mem.headD ⟨0, 0⟩ else ⟨0, 0⟩
theorem head_at (L : List MB) (h : 0 < L.length) : L.headD ⟨0, 0⟩ = L[0] := by
  cases L with
  | nil => cases h
  | cons e L => rfl
abbrev FirstSays : Prop := ∀ (x : VW) (ao : Option Addr) (cp : Nat) (w : World), MemsAt w ao x.mem → x.mem.length ≤ 4611686018427387903 → Calls Try.prog 8 #[x.v ao cp] w fun e w' => e = .returned (.tuple #[(firstOf x).v, .int .i64 (if x.right then 0 else 1)]) ∧ Below w.heap.size w w'
set_option maxRecDepth 100000 in
theorem frame_lt (t : Array Value) (h : t.size = 84) : ∃ u : Nat → Value, t = List.toArray (u 0 :: u 1 :: u 2 :: u 3 :: u 4 :: u 5 :: u 6 :: u 7 :: u 8 :: u 9 :: u 10 :: u 11 :: u 12 :: u 13 :: u 14 :: u 15 :: u 16 :: u 17 :: u 18 :: u 19 :: u 20 :: u 21 :: u 22 :: u 23 :: u 24 :: u 25 :: u 26 :: u 27 :: u 28 :: u 29 :: u 30 :: u 31 :: u 32 :: u 33 :: u 34 :: u 35 :: u 36 :: u 37 :: u 38 :: u 39 :: u 40 :: u 41 :: u 42 :: u 43 :: u 44 :: u 45 :: u 46 :: u 47 :: u 48 :: u 49 :: u 50 :: u 51 :: u 52 :: u 53 :: u 54 :: u 55 :: u 56 :: u 57 :: u 58 :: u 59 :: u 60 :: u 61 :: u 62 :: u 63 :: u 64 :: u 65 :: u 66 :: u 67 :: u 68 :: u 69 :: u 70 :: u 71 :: u 72 :: u 73 :: u 74 :: u 75 :: u 76 :: u 77 :: u 78 :: u 79 :: u 80 :: u 81 :: u 82 :: u 83 :: []) := by
  refine ⟨fun i => t.getD i undef, ?_⟩
  have e : (List.toArray ((fun i => t.getD i undef) 0 :: (fun i => t.getD i undef) 1 :: (fun i => t.getD i undef) 2 :: (fun i => t.getD i undef) 3 :: (fun i => t.getD i undef) 4 :: (fun i => t.getD i undef) 5 :: (fun i => t.getD i undef) 6 :: (fun i => t.getD i undef) 7 :: (fun i => t.getD i undef) 8 :: (fun i => t.getD i undef) 9 :: (fun i => t.getD i undef) 10 :: (fun i => t.getD i undef) 11 :: (fun i => t.getD i undef) 12 :: (fun i => t.getD i undef) 13 :: (fun i => t.getD i undef) 14 :: (fun i => t.getD i undef) 15 :: (fun i => t.getD i undef) 16 :: (fun i => t.getD i undef) 17 :: (fun i => t.getD i undef) 18 :: (fun i => t.getD i undef) 19 :: (fun i => t.getD i undef) 20 :: (fun i => t.getD i undef) 21 :: (fun i => t.getD i undef) 22 :: (fun i => t.getD i undef) 23 :: (fun i => t.getD i undef) 24 :: (fun i => t.getD i undef) 25 :: (fun i => t.getD i undef) 26 :: (fun i => t.getD i undef) 27 :: (fun i => t.getD i undef) 28 :: (fun i => t.getD i undef) 29 :: (fun i => t.getD i undef) 30 :: (fun i => t.getD i undef) 31 :: (fun i => t.getD i undef) 32 :: (fun i => t.getD i undef) 33 :: (fun i => t.getD i undef) 34 :: (fun i => t.getD i undef) 35 :: (fun i => t.getD i undef) 36 :: (fun i => t.getD i undef) 37 :: (fun i => t.getD i undef) 38 :: (fun i => t.getD i undef) 39 :: (fun i => t.getD i undef) 40 :: (fun i => t.getD i undef) 41 :: (fun i => t.getD i undef) 42 :: (fun i => t.getD i undef) 43 :: (fun i => t.getD i undef) 44 :: (fun i => t.getD i undef) 45 :: (fun i => t.getD i undef) 46 :: (fun i => t.getD i undef) 47 :: (fun i => t.getD i undef) 48 :: (fun i => t.getD i undef) 49 :: (fun i => t.getD i undef) 50 :: (fun i => t.getD i undef) 51 :: (fun i => t.getD i undef) 52 :: (fun i => t.getD i undef) 53 :: (fun i => t.getD i undef) 54 :: (fun i => t.getD i undef) 55 :: (fun i => t.getD i undef) 56 :: (fun i => t.getD i undef) 57 :: (fun i => t.getD i undef) 58 :: (fun i => t.getD i undef) 59 :: (fun i => t.getD i undef) 60 :: (fun i => t.getD i undef) 61 :: (fun i => t.getD i undef) 62 :: (fun i => t.getD i undef) 63 :: (fun i => t.getD i undef) 64 :: (fun i => t.getD i undef) 65 :: (fun i => t.getD i undef) 66 :: (fun i => t.getD i undef) 67 :: (fun i => t.getD i undef) 68 :: (fun i => t.getD i undef) 69 :: (fun i => t.getD i undef) 70 :: (fun i => t.getD i undef) 71 :: (fun i => t.getD i undef) 72 :: (fun i => t.getD i undef) 73 :: (fun i => t.getD i undef) 74 :: (fun i => t.getD i undef) 75 :: (fun i => t.getD i undef) 76 :: (fun i => t.getD i undef) 77 :: (fun i => t.getD i undef) 78 :: (fun i => t.getD i undef) 79 :: (fun i => t.getD i undef) 80 :: (fun i => t.getD i undef) 81 :: (fun i => t.getD i undef) 82 :: (fun i => t.getD i undef) 83 :: []) : Array Value) = ((List.range 84).map fun i => t.getD i undef).toArray := rfl
  refine Eq.trans ?_ e.symm
  apply Array.ext
  · simp [h]
  · intro k h1 h2
    simp [Array.getD, h1]
/-- The slots that matter. -/
structure Vlt where
  v3 : Value
  v4 : Value
  v5 : Value
  v6 : Value
  v7 : Value
  v8 : Value
  v9 : Value
  v10 : Value
structure Flt (a : Act) (v : Vlt) : Prop where
  size : a.tmps.size = 84
  defers : a.defers = []
  s3 : a.tmps.getD 3 undef = v.v3
  s4 : a.tmps.getD 4 undef = v.v4
  s5 : a.tmps.getD 5 undef = v.v5
  s6 : a.tmps.getD 6 undef = v.v6
  s7 : a.tmps.getD 7 undef = v.v7
  s8 : a.tmps.getD 8 undef = v.v8
  s9 : a.tmps.getD 9 undef = v.v9
  s10 : a.tmps.getD 10 undef = v.v10
set_option maxHeartbeats 8000000 in
set_option maxRecDepth 100000 in
theorem lt_r1 {K : Act → World → Prop} {c : Code} (hc : regOf (Try.f3.body.getD .skip) 1 = some c) (a : Act) {v : Vlt} {wq : World} {r : Bool} (hF : Flt a v) (hE : Calls Try.prog 7 #[] wq fun e w' => e = .returned (.bool r) ∧ Below wq.heap.size wq w')
    (hQ : ∀ a' w', Flt a' { v with v7 := .bool r } → Below wq.heap.size wq w' → K a' w') :
    Code.wp Try.prog c (Exit.then K fun _ _ _ => False) a wq := by
  have HQ := hide hQ
  clear hQ
  obtain ⟨t', d'⟩ := a
  obtain ⟨v3, v4, v5, v6, v7, v8, v9, v10⟩ := v
  obtain ⟨hs1, hd1, q3, q4, q5, q6, q7, q8, q9, q10⟩ := hF
  obtain ⟨u, hu⟩ := frame_lt t' hs1
  simp only at hd1 q3 q4 q5 q6 q7 q8 q9 q10
  subst hu hd1
  have e3 : u 3 = v3 := q3
  have e4 : u 4 = v4 := q4
  have e5 : u 5 = v5 := q5
  have e6 : u 6 = v6 := q6
  have e7 : u 7 = v7 := q7
  have e8 : u 8 = v8 := q8
  have e9 : u 9 = v9 := q9
  have e10 : u 10 = v10 := q10
  rw [e3, e4, e5, e6, e7, e8, e9, e10]
  clear q3 e3 q4 e4 q5 e5 q6 e6 q7 e7 q8 e8 q9 e9 q10 e10 hs1
  simp only [Try.f3, Option.getD_some, regOf] at hc
  injection hc with hc
  subst hc
  generalize u 0 = u0
  generalize u 1 = u1
  generalize u 2 = u2
  generalize u 11 = u11
  generalize u 12 = u12
  generalize u 13 = u13
  generalize u 14 = u14
  generalize u 15 = u15
  generalize u 16 = u16
  generalize u 17 = u17
  generalize u 18 = u18
  generalize u 19 = u19
  generalize u 20 = u20
  generalize u 21 = u21
  generalize u 22 = u22
  generalize u 23 = u23
  generalize u 24 = u24
  generalize u 25 = u25
  generalize u 26 = u26
  generalize u 27 = u27
  generalize u 28 = u28
  generalize u 29 = u29
  generalize u 30 = u30
  generalize u 31 = u31
  generalize u 32 = u32
  generalize u 33 = u33
  generalize u 34 = u34
  generalize u 35 = u35
  generalize u 36 = u36
  generalize u 37 = u37
  generalize u 38 = u38
  generalize u 39 = u39
  generalize u 40 = u40
  generalize u 41 = u41
  generalize u 42 = u42
  generalize u 43 = u43
  generalize u 44 = u44
  generalize u 45 = u45
  generalize u 46 = u46
  generalize u 47 = u47
  generalize u 48 = u48
  generalize u 49 = u49
  generalize u 50 = u50
  generalize u 51 = u51
  generalize u 52 = u52
  generalize u 53 = u53
  generalize u 54 = u54
  generalize u 55 = u55
  generalize u 56 = u56
  generalize u 57 = u57
  generalize u 58 = u58
  generalize u 59 = u59
  generalize u 60 = u60
  generalize u 61 = u61
  generalize u 62 = u62
  generalize u 63 = u63
  generalize u 64 = u64
  generalize u 65 = u65
  generalize u 66 = u66
  generalize u 67 = u67
  generalize u 68 = u68
  generalize u 69 = u69
  generalize u 70 = u70
  generalize u 71 = u71
  generalize u 72 = u72
  generalize u 73 = u73
  generalize u 74 = u74
  generalize u 75 = u75
  generalize u 76 = u76
  generalize u 77 = u77
  generalize u 78 = u78
  generalize u 79 = u79
  generalize u 80 = u80
  generalize u 81 = u81
  generalize u 82 = u82
  generalize u 83 = u83
  clear u
  have HE := hide hE
  clear hE
  go_wp2_with fail
  refine HE.out.mono ?_
  rintro e w1 ⟨rfl, b1⟩
  have B1 := hide b1
  clear b1 HE
  go_wp2
  exact HQ.out _ _ ⟨rfl, rfl, rfl, rfl, rfl, rfl, rfl, rfl, rfl, rfl⟩ B1.out
set_option maxHeartbeats 8000000 in
set_option maxRecDepth 100000 in
theorem lt_r2 {K : Act → World → Prop} {c : Code} (hc : regOf (Try.f3.body.getD .skip) 2 = some c) (a : Act) {v : Vlt} {wq : World} {d k cp : Nat} {num mn ml z : Int} {ao : Option Addr} (hF : Flt a v) (h3v : v.v3 = .pointer (some ⟨d, 0, none⟩)) (hD : wq.heap[d]? = some (.cells #[.int .i64 num, .slice ao k cp] tView (0, 0))) (hE : Calls Try.prog 8 #[.agg #[.int .i64 num, .slice ao k cp]] wq fun e w' => e = .returned (.tuple #[.agg #[.int .i64 mn, .int .i64 ml], .int .i64 z]) ∧ Below wq.heap.size wq w')
    (hQ : ∀ a' w1, Flt a' { v with v8 := .pointer (some ⟨w1.heap.size, 0, none⟩), v9 := .int .i64 z } → Below wq.heap.size wq w1 → K a' (w1.alloc (.cells #[.int .i64 mn, .int .i64 ml] tMember))) :
    Code.wp Try.prog c (Exit.then K fun _ _ _ => False) a wq := by
  have HQ := hide hQ
  clear hQ
  obtain ⟨t', d'⟩ := a
  obtain ⟨v3, v4, v5, v6, v7, v8, v9, v10⟩ := v
  simp only at h3v HQ
  subst h3v
  obtain ⟨hs1, hd1, q3, q4, q5, q6, q7, q8, q9, q10⟩ := hF
  obtain ⟨u, hu⟩ := frame_lt t' hs1
  simp only at hd1 q3 q4 q5 q6 q7 q8 q9 q10
  subst hu hd1
  have e3 : u 3 = .pointer (some ⟨d, 0, none⟩) := q3
  have e4 : u 4 = v4 := q4
  have e5 : u 5 = v5 := q5
  have e6 : u 6 = v6 := q6
  have e7 : u 7 = v7 := q7
  have e8 : u 8 = v8 := q8
  have e9 : u 9 = v9 := q9
  have e10 : u 10 = v10 := q10
  rw [e3, e4, e5, e6, e7, e8, e9, e10]
  clear q3 e3 q4 e4 q5 e5 q6 e6 q7 e7 q8 e8 q9 e9 q10 e10 hs1
  simp only [Try.f3, Option.getD_some, regOf] at hc
  injection hc with hc
  subst hc
  generalize u 0 = u0
  generalize u 1 = u1
  generalize u 2 = u2
  generalize u 11 = u11
  generalize u 12 = u12
  generalize u 13 = u13
  generalize u 14 = u14
  generalize u 15 = u15
  generalize u 16 = u16
  generalize u 17 = u17
  generalize u 18 = u18
  generalize u 19 = u19
  generalize u 20 = u20
  generalize u 21 = u21
  generalize u 22 = u22
  generalize u 23 = u23
  generalize u 24 = u24
  generalize u 25 = u25
  generalize u 26 = u26
  generalize u 27 = u27
  generalize u 28 = u28
  generalize u 29 = u29
  generalize u 30 = u30
  generalize u 31 = u31
  generalize u 32 = u32
  generalize u 33 = u33
  generalize u 34 = u34
  generalize u 35 = u35
  generalize u 36 = u36
  generalize u 37 = u37
  generalize u 38 = u38
  generalize u 39 = u39
  generalize u 40 = u40
  generalize u 41 = u41
  generalize u 42 = u42
  generalize u 43 = u43
  generalize u 44 = u44
  generalize u 45 = u45
  generalize u 46 = u46
  generalize u 47 = u47
  generalize u 48 = u48
  generalize u 49 = u49
  generalize u 50 = u50
  generalize u 51 = u51
  generalize u 52 = u52
  generalize u 53 = u53
  generalize u 54 = u54
  generalize u 55 = u55
  generalize u 56 = u56
  generalize u 57 = u57
  generalize u 58 = u58
  generalize u 59 = u59
  generalize u 60 = u60
  generalize u 61 = u61
  generalize u 62 = u62
  generalize u 63 = u63
  generalize u 64 = u64
  generalize u 65 = u65
  generalize u 66 = u66
  generalize u 67 = u67
  generalize u 68 = u68
  generalize u 69 = u69
  generalize u 70 = u70
  generalize u 71 = u71
  generalize u 72 = u72
  generalize u 73 = u73
  generalize u 74 = u74
  generalize u 75 = u75
  generalize u 76 = u76
  generalize u 77 = u77
  generalize u 78 = u78
  generalize u 79 = u79
  generalize u 80 = u80
  generalize u 81 = u81
  generalize u 82 = u82
  generalize u 83 = u83
  clear u
  have HE := hide hE
  have c0 := box_cell hD 0 rfl
  have c1 := box_cell hD 1 rfl
  clear hE hD
  go_wp2_with fail
  refine HE.out.mono ?_
  rintro e w1 ⟨rfl, b1⟩
  have B1 := hide b1
  clear b1 HE c0 c1
  go_wp2
  exact HQ.out _ _ ⟨rfl, rfl, rfl, rfl, rfl, rfl, rfl, rfl, rfl, rfl⟩ B1.out
set_option maxHeartbeats 8000000 in
set_option maxRecDepth 100000 in
theorem lt_r3 {K : Act → World → Prop} {c : Code} (hc : regOf (Try.f3.body.getD .skip) 3 = some c) (a : Act) {v : Vlt} {wq : World} {d k cp : Nat} {num : Int} {ao : Option Addr} {r : Bool} (hF : Flt a v) (h3v : v.v3 = .pointer (some ⟨d, 0, none⟩)) (hD : wq.heap[d]? = some (.cells #[.int .i64 num, .slice ao k cp] tView (0, 0))) (hE : Calls Try.prog 9 #[.agg #[.int .i64 num, .slice ao k cp]] wq fun e w' => e = .returned (.bool r) ∧ Below wq.heap.size wq w')
    (hQ : ∀ a' w', Flt a' { v with v10 := .bool r } → Below wq.heap.size wq w' → K a' w') :
    Code.wp Try.prog c (Exit.then K fun _ _ _ => False) a wq := by
  have HQ := hide hQ
  clear hQ
  obtain ⟨t', d'⟩ := a
  obtain ⟨v3, v4, v5, v6, v7, v8, v9, v10⟩ := v
  simp only at h3v HQ
  subst h3v
  obtain ⟨hs1, hd1, q3, q4, q5, q6, q7, q8, q9, q10⟩ := hF
  obtain ⟨u, hu⟩ := frame_lt t' hs1
  simp only at hd1 q3 q4 q5 q6 q7 q8 q9 q10
  subst hu hd1
  have e3 : u 3 = .pointer (some ⟨d, 0, none⟩) := q3
  have e4 : u 4 = v4 := q4
  have e5 : u 5 = v5 := q5
  have e6 : u 6 = v6 := q6
  have e7 : u 7 = v7 := q7
  have e8 : u 8 = v8 := q8
  have e9 : u 9 = v9 := q9
  have e10 : u 10 = v10 := q10
  rw [e3, e4, e5, e6, e7, e8, e9, e10]
  clear q3 e3 q4 e4 q5 e5 q6 e6 q7 e7 q8 e8 q9 e9 q10 e10 hs1
  simp only [Try.f3, Option.getD_some, regOf] at hc
  injection hc with hc
  subst hc
  generalize u 0 = u0
  generalize u 1 = u1
  generalize u 2 = u2
  generalize u 11 = u11
  generalize u 12 = u12
  generalize u 13 = u13
  generalize u 14 = u14
  generalize u 15 = u15
  generalize u 16 = u16
  generalize u 17 = u17
  generalize u 18 = u18
  generalize u 19 = u19
  generalize u 20 = u20
  generalize u 21 = u21
  generalize u 22 = u22
  generalize u 23 = u23
  generalize u 24 = u24
  generalize u 25 = u25
  generalize u 26 = u26
  generalize u 27 = u27
  generalize u 28 = u28
  generalize u 29 = u29
  generalize u 30 = u30
  generalize u 31 = u31
  generalize u 32 = u32
  generalize u 33 = u33
  generalize u 34 = u34
  generalize u 35 = u35
  generalize u 36 = u36
  generalize u 37 = u37
  generalize u 38 = u38
  generalize u 39 = u39
  generalize u 40 = u40
  generalize u 41 = u41
  generalize u 42 = u42
  generalize u 43 = u43
  generalize u 44 = u44
  generalize u 45 = u45
  generalize u 46 = u46
  generalize u 47 = u47
  generalize u 48 = u48
  generalize u 49 = u49
  generalize u 50 = u50
  generalize u 51 = u51
  generalize u 52 = u52
  generalize u 53 = u53
  generalize u 54 = u54
  generalize u 55 = u55
  generalize u 56 = u56
  generalize u 57 = u57
  generalize u 58 = u58
  generalize u 59 = u59
  generalize u 60 = u60
  generalize u 61 = u61
  generalize u 62 = u62
  generalize u 63 = u63
  generalize u 64 = u64
  generalize u 65 = u65
  generalize u 66 = u66
  generalize u 67 = u67
  generalize u 68 = u68
  generalize u 69 = u69
  generalize u 70 = u70
  generalize u 71 = u71
  generalize u 72 = u72
  generalize u 73 = u73
  generalize u 74 = u74
  generalize u 75 = u75
  generalize u 76 = u76
  generalize u 77 = u77
  generalize u 78 = u78
  generalize u 79 = u79
  generalize u 80 = u80
  generalize u 81 = u81
  generalize u 82 = u82
  generalize u 83 = u83
  clear u
  have HE := hide hE
  have c0 := box_cell hD 0 rfl
  have c1 := box_cell hD 1 rfl
  clear hE hD
  go_wp2_with fail
  refine HE.out.mono ?_
  rintro e w1 ⟨rfl, b1⟩
  have B1 := hide b1
  clear b1 HE c0 c1
  go_wp2
  exact HQ.out _ _ ⟨rfl, rfl, rfl, rfl, rfl, rfl, rfl, rfl, rfl, rfl⟩ B1.out
set_option maxHeartbeats 8000000 in
set_option maxRecDepth 100000 in
theorem lt_r4 {K : Act → World → Prop} {c : Code} (hc : regOf (Try.f3.body.getD .skip) 4 = some c) (a : Act) {v : Vlt} {wq : World} {d p k cp b off : Nat} {num mn ml : Int} (hF : Flt a v) (h3v : v.v3 = .pointer (some ⟨d, 0, none⟩)) (h8v : v.v8 = .pointer (some ⟨p, 0, none⟩)) (h9v : v.v9 = .int .i64 0) (h10v : v.v10 = .bool true) (hD : wq.heap[d]? = some (.cells #[.int .i64 num, .slice (some ⟨b, off, none⟩) k cp] tView (0, 0))) (hP : wq.heap[p]? = some (.cells #[.int .i64 mn, .int .i64 ml] tMember (0, 0))) (hk : 0 < k) (y0 : wq.cell? ⟨b, off, none⟩ = some (.int .i64 mn)) (y1 : wq.cell? ⟨b, off + 1, none⟩ = some (.int .i64 ml))
    (hQ : ∀ a' w', Flt a' v → a'.tmps.getD 44 undef = .bool false → Below wq.heap.size wq w' → K a' w') :
    Code.wp Try.prog c (Exit.then K fun _ _ _ => False) a wq := by
  have HQ := hide hQ
  clear hQ
  obtain ⟨t', d'⟩ := a
  obtain ⟨v3, v4, v5, v6, v7, v8, v9, v10⟩ := v
  simp only at h3v h8v h9v h10v HQ
  subst h3v h8v h9v h10v
  obtain ⟨hs1, hd1, q3, q4, q5, q6, q7, q8, q9, q10⟩ := hF
  obtain ⟨u, hu⟩ := frame_lt t' hs1
  simp only at hd1 q3 q4 q5 q6 q7 q8 q9 q10
  subst hu hd1
  have e3 : u 3 = .pointer (some ⟨d, 0, none⟩) := q3
  have e4 : u 4 = v4 := q4
  have e5 : u 5 = v5 := q5
  have e6 : u 6 = v6 := q6
  have e7 : u 7 = v7 := q7
  have e8 : u 8 = .pointer (some ⟨p, 0, none⟩) := q8
  have e9 : u 9 = .int .i64 0 := q9
  have e10 : u 10 = .bool true := q10
  rw [e3, e4, e5, e6, e7, e8, e9, e10]
  clear q3 e3 q4 e4 q5 e5 q6 e6 q7 e7 q8 e8 q9 e9 q10 e10 hs1
  simp only [Try.f3, Option.getD_some, regOf] at hc
  injection hc with hc
  subst hc
  generalize u 0 = u0
  generalize u 1 = u1
  generalize u 2 = u2
  generalize u 11 = u11
  generalize u 12 = u12
  generalize u 13 = u13
  generalize u 14 = u14
  generalize u 15 = u15
  generalize u 16 = u16
  generalize u 17 = u17
  generalize u 18 = u18
  generalize u 19 = u19
  generalize u 20 = u20
  generalize u 21 = u21
  generalize u 22 = u22
  generalize u 23 = u23
  generalize u 24 = u24
  generalize u 25 = u25
  generalize u 26 = u26
  generalize u 27 = u27
  generalize u 28 = u28
  generalize u 29 = u29
  generalize u 30 = u30
  generalize u 31 = u31
  generalize u 32 = u32
  generalize u 33 = u33
  generalize u 34 = u34
  generalize u 35 = u35
  generalize u 36 = u36
  generalize u 37 = u37
  generalize u 38 = u38
  generalize u 39 = u39
  generalize u 40 = u40
  generalize u 41 = u41
  generalize u 42 = u42
  generalize u 43 = u43
  generalize u 44 = u44
  generalize u 45 = u45
  generalize u 46 = u46
  generalize u 47 = u47
  generalize u 48 = u48
  generalize u 49 = u49
  generalize u 50 = u50
  generalize u 51 = u51
  generalize u 52 = u52
  generalize u 53 = u53
  generalize u 54 = u54
  generalize u 55 = u55
  generalize u 56 = u56
  generalize u 57 = u57
  generalize u 58 = u58
  generalize u 59 = u59
  generalize u 60 = u60
  generalize u 61 = u61
  generalize u 62 = u62
  generalize u 63 = u63
  generalize u 64 = u64
  generalize u 65 = u65
  generalize u 66 = u66
  generalize u 67 = u67
  generalize u 68 = u68
  generalize u 69 = u69
  generalize u 70 = u70
  generalize u 71 = u71
  generalize u 72 = u72
  generalize u 73 = u73
  generalize u 74 = u74
  generalize u 75 = u75
  generalize u 76 = u76
  generalize u 77 = u77
  generalize u 78 = u78
  generalize u 79 = u79
  generalize u 80 = u80
  generalize u 81 = u81
  generalize u 82 = u82
  generalize u 83 = u83
  clear u
  have c1 := box_cell hD 1 rfl
  have d0 := box_cell hP 0 rfl
  have d1 := box_cell hP 1 rfl
  clear hD hP
  have hk1 : (0 : Int) < (k : Int) := by omega
  go_quiet (fail)
  go_wp2
  exact HQ.out _ _ ⟨rfl, rfl, rfl, rfl, rfl, rfl, rfl, rfl, rfl, rfl⟩ (by simp) (below_drewN (Below.refl _ _) _)
set_option maxHeartbeats 8000000 in
set_option maxRecDepth 100000 in
theorem lt_r4n {K : Act → World → Prop} {c : Code} (hc : regOf (Try.f3.body.getD .skip) 4 = some c) (a : Act) {v : Vlt} {wq : World} {p : Nat} (hF : Flt a v) (h8v : v.v8 = .pointer (some ⟨p, 0, none⟩)) (h9v : v.v9 = .int .i64 1) (h10v : v.v10 = .bool false) (hP : wq.heap[p]? = some (.cells #[.int .i64 0, .int .i64 0] tMember (0, 0)))
    (hQ : ∀ a' w', Flt a' v → a'.tmps.getD 44 undef = .bool false → Below wq.heap.size wq w' → K a' w') :
    Code.wp Try.prog c (Exit.then K fun _ _ _ => False) a wq := by
  have HQ := hide hQ
  clear hQ
  obtain ⟨t', d'⟩ := a
  obtain ⟨v3, v4, v5, v6, v7, v8, v9, v10⟩ := v
  simp only at h8v h9v h10v HQ
  subst h8v h9v h10v
  obtain ⟨hs1, hd1, q3, q4, q5, q6, q7, q8, q9, q10⟩ := hF
  obtain ⟨u, hu⟩ := frame_lt t' hs1
  simp only at hd1 q3 q4 q5 q6 q7 q8 q9 q10
  subst hu hd1
  have e3 : u 3 = v3 := q3
  have e4 : u 4 = v4 := q4
  have e5 : u 5 = v5 := q5
  have e6 : u 6 = v6 := q6
  have e7 : u 7 = v7 := q7
  have e8 : u 8 = .pointer (some ⟨p, 0, none⟩) := q8
  have e9 : u 9 = .int .i64 1 := q9
  have e10 : u 10 = .bool false := q10
  rw [e3, e4, e5, e6, e7, e8, e9, e10]
  clear q3 e3 q4 e4 q5 e5 q6 e6 q7 e7 q8 e8 q9 e9 q10 e10 hs1
  simp only [Try.f3, Option.getD_some, regOf] at hc
  injection hc with hc
  subst hc
  generalize u 0 = u0
  generalize u 1 = u1
  generalize u 2 = u2
  generalize u 11 = u11
  generalize u 12 = u12
  generalize u 13 = u13
  generalize u 14 = u14
  generalize u 15 = u15
  generalize u 16 = u16
  generalize u 17 = u17
  generalize u 18 = u18
  generalize u 19 = u19
  generalize u 20 = u20
  generalize u 21 = u21
  generalize u 22 = u22
  generalize u 23 = u23
  generalize u 24 = u24
  generalize u 25 = u25
  generalize u 26 = u26
  generalize u 27 = u27
  generalize u 28 = u28
  generalize u 29 = u29
  generalize u 30 = u30
  generalize u 31 = u31
  generalize u 32 = u32
  generalize u 33 = u33
  generalize u 34 = u34
  generalize u 35 = u35
  generalize u 36 = u36
  generalize u 37 = u37
  generalize u 38 = u38
  generalize u 39 = u39
  generalize u 40 = u40
  generalize u 41 = u41
  generalize u 42 = u42
  generalize u 43 = u43
  generalize u 44 = u44
  generalize u 45 = u45
  generalize u 46 = u46
  generalize u 47 = u47
  generalize u 48 = u48
  generalize u 49 = u49
  generalize u 50 = u50
  generalize u 51 = u51
  generalize u 52 = u52
  generalize u 53 = u53
  generalize u 54 = u54
  generalize u 55 = u55
  generalize u 56 = u56
  generalize u 57 = u57
  generalize u 58 = u58
  generalize u 59 = u59
  generalize u 60 = u60
  generalize u 61 = u61
  generalize u 62 = u62
  generalize u 63 = u63
  generalize u 64 = u64
  generalize u 65 = u65
  generalize u 66 = u66
  generalize u 67 = u67
  generalize u 68 = u68
  generalize u 69 = u69
  generalize u 70 = u70
  generalize u 71 = u71
  generalize u 72 = u72
  generalize u 73 = u73
  generalize u 74 = u74
  generalize u 75 = u75
  generalize u 76 = u76
  generalize u 77 = u77
  generalize u 78 = u78
  generalize u 79 = u79
  generalize u 80 = u80
  generalize u 81 = u81
  generalize u 82 = u82
  generalize u 83 = u83
  clear u
  have d0 := box_cell hP 0 rfl
  have d1 := box_cell hP 1 rfl
  clear hP
  go_quiet (fail)
  go_wp2
  exact HQ.out _ _ ⟨rfl, rfl, rfl, rfl, rfl, rfl, rfl, rfl, rfl, rfl⟩ (by simp) (below_drewN (Below.refl _ _) _)
end Go.Proofs.Ytbkglpbkbfopjaa
