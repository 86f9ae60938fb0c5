/-
  ViewBytes: its regions (mklb.py).
-/
import Derived.Test.YtjnbfopipmglgaaZVL
import Derived.Test.YtjnbfopipmglgaaZHH
import Derived.Test.YtjnbfopipmglgaaZHG
namespace Go.Proofs.Ytjnbfopipmglgaa
open Go.RowKit

attribute [local go_sem ↓] Go.wp_at_zero Go.wp_at_succ
set_option linter.unusedSimpArgs false
set_option linter.unusedVariables false
abbrev EncodeSays : Prop := ∀ (x : VW) (ao : Option Addr) (cp : Nat) (w : World), MemsAt w ao x.mem → x.mem.length ≤ 4611686018427387903 → Calls Try.prog 6 #[x.v ao cp] w fun e w' => e = .returned (.tuple #[.string ⟨(if x.right then codeV x else []).toArray⟩, .int .i64 (if x.right then 0 else 1)]) ∧ Below w.heap.size w w'
abbrev DecodeSays : Prop := ∀ (t : ByteArray) (w : World), t.size ≤ 9223372036854775807 → Calls Try.prog 8 #[.string t] w fun e w' => NextGave w w' e (decV t.data.toList)
theorem itemB_len (x : IT) (h : K.faultF x = 0) : (K.itemB x).length ≤ 100008 := by
  have hw : K.widthN x.k ≤ 8 := by unfold K.widthN; split <;> (try split) <;> omega
  have hs : x.s.size ≤ 100000 := by rcases K.fault_shape x h with ⟨_, e, _⟩ | ⟨_, _, e⟩ <;> omega
  unfold K.itemB
  rw [List.length_append, Lib.beBytes_length, show x.s.data.toList.length = x.s.size by simp]
  omega
theorem itemsB_len (l : List IT) (h : ∀ x ∈ l, K.faultF x = 0) : (l.flatMap K.itemB).length ≤ 100008 * l.length := by
  induction l with
  | nil => simp
  | cons a l ih =>
    have h1 := itemB_len a (h a (by simp))
    have h2 := ih fun x hx => h x (by simp [hx])
    rw [List.flatMap_cons, List.length_append, List.length_cons]
    omega
theorem codeV_len {v : VW} (h : v.right) : (codeV v).length ≤ 2000000 := by
  have h1 := itemsB_len (itemsV v) fun x hx => (itemsV_fault h x hx).1
  have h2 := itemsV_len v
  have h3 := h.2.2.2.1
  unfold codeV
  omega
theorem decV_len (s : List UInt8) : (decV s).1.mem.length ≤ 7 := by
  by_cases h : (decV s).2 = 0
  · exact (decV_back h).1.2.2.2.1
  · rw [decV_none h]
    simp
set_option maxRecDepth 100000 in
theorem frame_lb (t : Array Value) (h : t.size = 66) : ∃ u : Nat → Value, t = List.toArray (u 0 :: u 1 :: u 2 :: u 3 :: u 4 :: u 5 :: u 6 :: u 7 :: u 8 :: u 9 :: u 10 :: u 11 :: u 12 :: u 13 :: u 14 :: u 15 :: u 16 :: u 17 :: u 18 :: u 19 :: u 20 :: u 21 :: u 22 :: u 23 :: u 24 :: u 25 :: u 26 :: u 27 :: u 28 :: u 29 :: u 30 :: u 31 :: u 32 :: u 33 :: u 34 :: u 35 :: u 36 :: u 37 :: u 38 :: u 39 :: u 40 :: u 41 :: u 42 :: u 43 :: u 44 :: u 45 :: u 46 :: u 47 :: u 48 :: u 49 :: u 50 :: u 51 :: u 52 :: u 53 :: u 54 :: u 55 :: u 56 :: u 57 :: u 58 :: u 59 :: u 60 :: u 61 :: u 62 :: u 63 :: u 64 :: u 65 :: []) := by
  refine ⟨fun i => t.getD i undef, ?_⟩
  have e : (List.toArray ((fun i => t.getD i undef) 0 :: (fun i => t.getD i undef) 1 :: (fun i => t.getD i undef) 2 :: (fun i => t.getD i undef) 3 :: (fun i => t.getD i undef) 4 :: (fun i => t.getD i undef) 5 :: (fun i => t.getD i undef) 6 :: (fun i => t.getD i undef) 7 :: (fun i => t.getD i undef) 8 :: (fun i => t.getD i undef) 9 :: (fun i => t.getD i undef) 10 :: (fun i => t.getD i undef) 11 :: (fun i => t.getD i undef) 12 :: (fun i => t.getD i undef) 13 :: (fun i => t.getD i undef) 14 :: (fun i => t.getD i undef) 15 :: (fun i => t.getD i undef) 16 :: (fun i => t.getD i undef) 17 :: (fun i => t.getD i undef) 18 :: (fun i => t.getD i undef) 19 :: (fun i => t.getD i undef) 20 :: (fun i => t.getD i undef) 21 :: (fun i => t.getD i undef) 22 :: (fun i => t.getD i undef) 23 :: (fun i => t.getD i undef) 24 :: (fun i => t.getD i undef) 25 :: (fun i => t.getD i undef) 26 :: (fun i => t.getD i undef) 27 :: (fun i => t.getD i undef) 28 :: (fun i => t.getD i undef) 29 :: (fun i => t.getD i undef) 30 :: (fun i => t.getD i undef) 31 :: (fun i => t.getD i undef) 32 :: (fun i => t.getD i undef) 33 :: (fun i => t.getD i undef) 34 :: (fun i => t.getD i undef) 35 :: (fun i => t.getD i undef) 36 :: (fun i => t.getD i undef) 37 :: (fun i => t.getD i undef) 38 :: (fun i => t.getD i undef) 39 :: (fun i => t.getD i undef) 40 :: (fun i => t.getD i undef) 41 :: (fun i => t.getD i undef) 42 :: (fun i => t.getD i undef) 43 :: (fun i => t.getD i undef) 44 :: (fun i => t.getD i undef) 45 :: (fun i => t.getD i undef) 46 :: (fun i => t.getD i undef) 47 :: (fun i => t.getD i undef) 48 :: (fun i => t.getD i undef) 49 :: (fun i => t.getD i undef) 50 :: (fun i => t.getD i undef) 51 :: (fun i => t.getD i undef) 52 :: (fun i => t.getD i undef) 53 :: (fun i => t.getD i undef) 54 :: (fun i => t.getD i undef) 55 :: (fun i => t.getD i undef) 56 :: (fun i => t.getD i undef) 57 :: (fun i => t.getD i undef) 58 :: (fun i => t.getD i undef) 59 :: (fun i => t.getD i undef) 60 :: (fun i => t.getD i undef) 61 :: (fun i => t.getD i undef) 62 :: (fun i => t.getD i undef) 63 :: (fun i => t.getD i undef) 64 :: (fun i => t.getD i undef) 65 :: []) : Array Value) = ((List.range 66).map fun i => t.getD i undef).toArray := rfl
  refine Eq.trans ?_ e.symm
  apply Array.ext
  · simp [h]
  · intro k h1 h2
    simp [Array.getD, h1]
/-- The slots that matter. -/
structure Vlb where
  v1 : Value
  v2 : Value
  v4 : Value
  v5 : Value
  v6 : Value
  v7 : Value
  v8 : Value
  v9 : Value
  v10 : Value
  v11 : Value
  v12 : Value
  v13 : Value
  v14 : Value
structure Flb (a : Act) (v : Vlb) : Prop where
  size : a.tmps.size = 66
  defers : a.defers = []
  s1 : a.tmps.getD 1 undef = v.v1
  s2 : a.tmps.getD 2 undef = v.v2
  s4 : a.tmps.getD 4 undef = v.v4
  s5 : a.tmps.getD 5 undef = v.v5
  s6 : a.tmps.getD 6 undef = v.v6
  s7 : a.tmps.getD 7 undef = v.v7
  s8 : a.tmps.getD 8 undef = v.v8
  s9 : a.tmps.getD 9 undef = v.v9
  s10 : a.tmps.getD 10 undef = v.v10
  s11 : a.tmps.getD 11 undef = v.v11
  s12 : a.tmps.getD 12 undef = v.v12
  s13 : a.tmps.getD 13 undef = v.v13
  s14 : a.tmps.getD 14 undef = v.v14
set_option maxHeartbeats 8000000 in
set_option maxRecDepth 100000 in
theorem lb_r1 {K : Act → World → Prop} {c : Code} (hc : regOf (Try.f3.body.getD .skip) 1 = some c) (a : Act) {v : Vlb} {wq : World} {r : Bool} (hF : Flb a v) (hE : Calls Try.prog 5 #[] wq fun e w' => e = .returned (.bool r) ∧ Below wq.heap.size wq w')
    (hQ : ∀ a' w', Flb a' { v with v5 := .bool r } → Below wq.heap.size wq w' → K a' w') :
    Code.wp Try.prog c (Exit.then K fun _ _ _ => False) a wq := by
  have HQ := hide hQ
  clear hQ
  obtain ⟨t', d'⟩ := a
  obtain ⟨v1, v2, v4, v5, v6, v7, v8, v9, v10, v11, v12, v13, v14⟩ := v
  obtain ⟨hs1, hd1, q1, q2, q4, q5, q6, q7, q8, q9, q10, q11, q12, q13, q14⟩ := hF
  obtain ⟨u, hu⟩ := frame_lb t' hs1
  simp only at hd1 q1 q2 q4 q5 q6 q7 q8 q9 q10 q11 q12 q13 q14
  subst hu hd1
  have e1 : u 1 = v1 := q1
  have e2 : u 2 = v2 := q2
  have e4 : u 4 = v4 := q4
  have e5 : u 5 = v5 := q5
  have e6 : u 6 = v6 := q6
  have e7 : u 7 = v7 := q7
  have e8 : u 8 = v8 := q8
  have e9 : u 9 = v9 := q9
  have e10 : u 10 = v10 := q10
  have e11 : u 11 = v11 := q11
  have e12 : u 12 = v12 := q12
  have e13 : u 13 = v13 := q13
  have e14 : u 14 = v14 := q14
  rw [e1, e2, e4, e5, e6, e7, e8, e9, e10, e11, e12, e13, e14]
  clear q1 e1 q2 e2 q4 e4 q5 e5 q6 e6 q7 e7 q8 e8 q9 e9 q10 e10 q11 e11 q12 e12 q13 e13 q14 e14 hs1
  simp only [Try.f3, Option.getD_some, regOf] at hc
  injection hc with hc
  subst hc
  generalize u 0 = u0
  generalize u 3 = u3
  generalize u 15 = u15
  generalize u 16 = u16
  generalize u 17 = u17
  generalize u 18 = u18
  generalize u 19 = u19
  generalize u 20 = u20
  generalize u 21 = u21
  generalize u 22 = u22
  generalize u 23 = u23
  generalize u 24 = u24
  generalize u 25 = u25
  generalize u 26 = u26
  generalize u 27 = u27
  generalize u 28 = u28
  generalize u 29 = u29
  generalize u 30 = u30
  generalize u 31 = u31
  generalize u 32 = u32
  generalize u 33 = u33
  generalize u 34 = u34
  generalize u 35 = u35
  generalize u 36 = u36
  generalize u 37 = u37
  generalize u 38 = u38
  generalize u 39 = u39
  generalize u 40 = u40
  generalize u 41 = u41
  generalize u 42 = u42
  generalize u 43 = u43
  generalize u 44 = u44
  generalize u 45 = u45
  generalize u 46 = u46
  generalize u 47 = u47
  generalize u 48 = u48
  generalize u 49 = u49
  generalize u 50 = u50
  generalize u 51 = u51
  generalize u 52 = u52
  generalize u 53 = u53
  generalize u 54 = u54
  generalize u 55 = u55
  generalize u 56 = u56
  generalize u 57 = u57
  generalize u 58 = u58
  generalize u 59 = u59
  generalize u 60 = u60
  generalize u 61 = u61
  generalize u 62 = u62
  generalize u 63 = u63
  generalize u 64 = u64
  generalize u 65 = u65
  clear u
  have HE := hide hE
  clear hE
  go_wp2_with fail
  refine HE.out.mono ?_
  rintro e w1 ⟨rfl, b1⟩
  have B1 := hide b1
  clear b1 HE
  go_wp2
  exact HQ.out _ _ ⟨rfl, rfl, rfl, rfl, rfl, rfl, rfl, rfl, rfl, rfl, rfl, rfl, rfl, rfl, rfl⟩ B1.out
set_option maxHeartbeats 8000000 in
set_option maxRecDepth 100000 in
theorem lb_r2 {K : Act → World → Prop} {c : Code} (hc : regOf (Try.f3.body.getD .skip) 2 = some c) (a : Act) {v : Vlb} {wq : World} {d k cp : Nat} {num : Int} {ao : Option Addr} {cd : ByteArray} {z : Int} (hF : Flb a v) (h2v : v.v2 = .pointer (some ⟨d, 0, none⟩)) (hD : wq.heap[d]? = some (.cells #[.int .i64 num, .slice ao k cp] tView (0, 0))) (hE : Calls Try.prog 6 #[.agg #[.int .i64 num, .slice ao k cp]] wq fun e w' => e = .returned (.tuple #[.string cd, .int .i64 z]) ∧ Below wq.heap.size wq w')
    (hQ : ∀ a' w', Flb a' { v with v6 := .string cd, v7 := .int .i64 z } → Below wq.heap.size wq w' → K a' w') :
    Code.wp Try.prog c (Exit.then K fun _ _ _ => False) a wq := by
  have HQ := hide hQ
  clear hQ
  obtain ⟨t', d'⟩ := a
  obtain ⟨v1, v2, v4, v5, v6, v7, v8, v9, v10, v11, v12, v13, v14⟩ := v
  simp only at h2v HQ
  subst h2v
  obtain ⟨hs1, hd1, q1, q2, q4, q5, q6, q7, q8, q9, q10, q11, q12, q13, q14⟩ := hF
  obtain ⟨u, hu⟩ := frame_lb t' hs1
  simp only at hd1 q1 q2 q4 q5 q6 q7 q8 q9 q10 q11 q12 q13 q14
  subst hu hd1
  have e1 : u 1 = v1 := q1
  have e2 : u 2 = .pointer (some ⟨d, 0, none⟩) := q2
  have e4 : u 4 = v4 := q4
  have e5 : u 5 = v5 := q5
  have e6 : u 6 = v6 := q6
  have e7 : u 7 = v7 := q7
  have e8 : u 8 = v8 := q8
  have e9 : u 9 = v9 := q9
  have e10 : u 10 = v10 := q10
  have e11 : u 11 = v11 := q11
  have e12 : u 12 = v12 := q12
  have e13 : u 13 = v13 := q13
  have e14 : u 14 = v14 := q14
  rw [e1, e2, e4, e5, e6, e7, e8, e9, e10, e11, e12, e13, e14]
  clear q1 e1 q2 e2 q4 e4 q5 e5 q6 e6 q7 e7 q8 e8 q9 e9 q10 e10 q11 e11 q12 e12 q13 e13 q14 e14 hs1
  simp only [Try.f3, Option.getD_some, regOf] at hc
  injection hc with hc
  subst hc
  generalize u 0 = u0
  generalize u 3 = u3
  generalize u 15 = u15
  generalize u 16 = u16
  generalize u 17 = u17
  generalize u 18 = u18
  generalize u 19 = u19
  generalize u 20 = u20
  generalize u 21 = u21
  generalize u 22 = u22
  generalize u 23 = u23
  generalize u 24 = u24
  generalize u 25 = u25
  generalize u 26 = u26
  generalize u 27 = u27
  generalize u 28 = u28
  generalize u 29 = u29
  generalize u 30 = u30
  generalize u 31 = u31
  generalize u 32 = u32
  generalize u 33 = u33
  generalize u 34 = u34
  generalize u 35 = u35
  generalize u 36 = u36
  generalize u 37 = u37
  generalize u 38 = u38
  generalize u 39 = u39
  generalize u 40 = u40
  generalize u 41 = u41
  generalize u 42 = u42
  generalize u 43 = u43
  generalize u 44 = u44
  generalize u 45 = u45
  generalize u 46 = u46
  generalize u 47 = u47
  generalize u 48 = u48
  generalize u 49 = u49
  generalize u 50 = u50
  generalize u 51 = u51
  generalize u 52 = u52
  generalize u 53 = u53
  generalize u 54 = u54
  generalize u 55 = u55
  generalize u 56 = u56
  generalize u 57 = u57
  generalize u 58 = u58
  generalize u 59 = u59
  generalize u 60 = u60
  generalize u 61 = u61
  generalize u 62 = u62
  generalize u 63 = u63
  generalize u 64 = u64
  generalize u 65 = u65
  clear u
  have HE := hide hE
  have c0 := box_cell hD 0 rfl
  have c1 := box_cell hD 1 rfl
  clear hE hD
  go_wp2_with fail
  refine HE.out.mono ?_
  rintro e w1 ⟨rfl, b1⟩
  have B1 := hide b1
  clear b1 HE c0 c1
  go_wp2
  exact HQ.out _ _ ⟨rfl, rfl, rfl, rfl, rfl, rfl, rfl, rfl, rfl, rfl, rfl, rfl, rfl, rfl, rfl⟩ B1.out
set_option maxHeartbeats 8000000 in
set_option maxRecDepth 100000 in
theorem lb_r3 {K : Act → World → Prop} {c : Code} (hc : regOf (Try.f3.body.getD .skip) 3 = some c) (a : Act) {v : Vlb} {wq : World} {d k cp : Nat} {num : Int} {ao : Option Addr} {cd : ByteArray} {r : Bool} (hF : Flb a v) (h2v : v.v2 = .pointer (some ⟨d, 0, none⟩)) (hD : wq.heap[d]? = some (.cells #[.int .i64 num, .slice ao k cp] tView (0, 0))) (hE : Calls Try.prog 7 #[.agg #[.int .i64 num, .slice ao k cp]] wq fun e w' => e = .returned (.tuple #[.string cd, .bool r]) ∧ Below wq.heap.size wq w')
    (hQ : ∀ a' w', Flb a' { v with v8 := .string cd, v9 := .bool r } → Below wq.heap.size wq w' → K a' w') :
    Code.wp Try.prog c (Exit.then K fun _ _ _ => False) a wq := by
  have HQ := hide hQ
  clear hQ
  obtain ⟨t', d'⟩ := a
  obtain ⟨v1, v2, v4, v5, v6, v7, v8, v9, v10, v11, v12, v13, v14⟩ := v
  simp only at h2v HQ
  subst h2v
  obtain ⟨hs1, hd1, q1, q2, q4, q5, q6, q7, q8, q9, q10, q11, q12, q13, q14⟩ := hF
  obtain ⟨u, hu⟩ := frame_lb t' hs1
  simp only at hd1 q1 q2 q4 q5 q6 q7 q8 q9 q10 q11 q12 q13 q14
  subst hu hd1
  have e1 : u 1 = v1 := q1
  have e2 : u 2 = .pointer (some ⟨d, 0, none⟩) := q2
  have e4 : u 4 = v4 := q4
  have e5 : u 5 = v5 := q5
  have e6 : u 6 = v6 := q6
  have e7 : u 7 = v7 := q7
  have e8 : u 8 = v8 := q8
  have e9 : u 9 = v9 := q9
  have e10 : u 10 = v10 := q10
  have e11 : u 11 = v11 := q11
  have e12 : u 12 = v12 := q12
  have e13 : u 13 = v13 := q13
  have e14 : u 14 = v14 := q14
  rw [e1, e2, e4, e5, e6, e7, e8, e9, e10, e11, e12, e13, e14]
  clear q1 e1 q2 e2 q4 e4 q5 e5 q6 e6 q7 e7 q8 e8 q9 e9 q10 e10 q11 e11 q12 e12 q13 e13 q14 e14 hs1
  simp only [Try.f3, Option.getD_some, regOf] at hc
  injection hc with hc
  subst hc
  generalize u 0 = u0
  generalize u 3 = u3
  generalize u 15 = u15
  generalize u 16 = u16
  generalize u 17 = u17
  generalize u 18 = u18
  generalize u 19 = u19
  generalize u 20 = u20
  generalize u 21 = u21
  generalize u 22 = u22
  generalize u 23 = u23
  generalize u 24 = u24
  generalize u 25 = u25
  generalize u 26 = u26
  generalize u 27 = u27
  generalize u 28 = u28
  generalize u 29 = u29
  generalize u 30 = u30
  generalize u 31 = u31
  generalize u 32 = u32
  generalize u 33 = u33
  generalize u 34 = u34
  generalize u 35 = u35
  generalize u 36 = u36
  generalize u 37 = u37
  generalize u 38 = u38
  generalize u 39 = u39
  generalize u 40 = u40
  generalize u 41 = u41
  generalize u 42 = u42
  generalize u 43 = u43
  generalize u 44 = u44
  generalize u 45 = u45
  generalize u 46 = u46
  generalize u 47 = u47
  generalize u 48 = u48
  generalize u 49 = u49
  generalize u 50 = u50
  generalize u 51 = u51
  generalize u 52 = u52
  generalize u 53 = u53
  generalize u 54 = u54
  generalize u 55 = u55
  generalize u 56 = u56
  generalize u 57 = u57
  generalize u 58 = u58
  generalize u 59 = u59
  generalize u 60 = u60
  generalize u 61 = u61
  generalize u 62 = u62
  generalize u 63 = u63
  generalize u 64 = u64
  generalize u 65 = u65
  clear u
  have HE := hide hE
  have c0 := box_cell hD 0 rfl
  have c1 := box_cell hD 1 rfl
  clear hE hD
  go_wp2_with fail
  refine HE.out.mono ?_
  rintro e w1 ⟨rfl, b1⟩
  have B1 := hide b1
  clear b1 HE c0 c1
  go_wp2
  exact HQ.out _ _ ⟨rfl, rfl, rfl, rfl, rfl, rfl, rfl, rfl, rfl, rfl, rfl, rfl, rfl, rfl, rfl⟩ B1.out
set_option maxHeartbeats 8000000 in
set_option maxRecDepth 100000 in
theorem lb_r4 {K : Act → World → Prop} {c : Code} (hc : regOf (Try.f3.body.getD .skip) 4 = some c) (a : Act) {v : Vlb} {wq : World} {t : ByteArray} {r : VW × Int} (hF : Flb a v) (h1v : v.v1 = .string t) (hE : Calls Try.prog 8 #[.string t] wq fun e w' => NextGave wq w' e r)
    (hQ : ∀ a' w1 ro rc, Flb a' { v with v10 := .pointer (some ⟨w1.heap.size, 0, none⟩), v11 := .int .i64 r.2 } → w1.ownsRow wq.heap.size tMember 2 (.slice ro r.1.mem.length rc) r.1.mem.length (mbCells r.1.mem) → Below wq.heap.size wq w1 → K a' (w1.alloc (.cells #[.int .i64 r.1.num, .slice ro r.1.mem.length rc] tView))) :
    Code.wp Try.prog c (Exit.then K fun _ _ _ => False) a wq := by
  have HQ := hide hQ
  clear hQ
  obtain ⟨t', d'⟩ := a
  obtain ⟨v1, v2, v4, v5, v6, v7, v8, v9, v10, v11, v12, v13, v14⟩ := v
  simp only at h1v HQ
  subst h1v
  obtain ⟨hs1, hd1, q1, q2, q4, q5, q6, q7, q8, q9, q10, q11, q12, q13, q14⟩ := hF
  obtain ⟨u, hu⟩ := frame_lb t' hs1
  simp only at hd1 q1 q2 q4 q5 q6 q7 q8 q9 q10 q11 q12 q13 q14
  subst hu hd1
  have e1 : u 1 = .string t := q1
  have e2 : u 2 = v2 := q2
  have e4 : u 4 = v4 := q4
  have e5 : u 5 = v5 := q5
  have e6 : u 6 = v6 := q6
  have e7 : u 7 = v7 := q7
  have e8 : u 8 = v8 := q8
  have e9 : u 9 = v9 := q9
  have e10 : u 10 = v10 := q10
  have e11 : u 11 = v11 := q11
  have e12 : u 12 = v12 := q12
  have e13 : u 13 = v13 := q13
  have e14 : u 14 = v14 := q14
  rw [e1, e2, e4, e5, e6, e7, e8, e9, e10, e11, e12, e13, e14]
  clear q1 e1 q2 e2 q4 e4 q5 e5 q6 e6 q7 e7 q8 e8 q9 e9 q10 e10 q11 e11 q12 e12 q13 e13 q14 e14 hs1
  simp only [Try.f3, Option.getD_some, regOf] at hc
  injection hc with hc
  subst hc
  generalize u 0 = u0
  generalize u 3 = u3
  generalize u 15 = u15
  generalize u 16 = u16
  generalize u 17 = u17
  generalize u 18 = u18
  generalize u 19 = u19
  generalize u 20 = u20
  generalize u 21 = u21
  generalize u 22 = u22
  generalize u 23 = u23
  generalize u 24 = u24
  generalize u 25 = u25
  generalize u 26 = u26
  generalize u 27 = u27
  generalize u 28 = u28
  generalize u 29 = u29
  generalize u 30 = u30
  generalize u 31 = u31
  generalize u 32 = u32
  generalize u 33 = u33
  generalize u 34 = u34
  generalize u 35 = u35
  generalize u 36 = u36
  generalize u 37 = u37
  generalize u 38 = u38
  generalize u 39 = u39
  generalize u 40 = u40
  generalize u 41 = u41
  generalize u 42 = u42
  generalize u 43 = u43
  generalize u 44 = u44
  generalize u 45 = u45
  generalize u 46 = u46
  generalize u 47 = u47
  generalize u 48 = u48
  generalize u 49 = u49
  generalize u 50 = u50
  generalize u 51 = u51
  generalize u 52 = u52
  generalize u 53 = u53
  generalize u 54 = u54
  generalize u 55 = u55
  generalize u 56 = u56
  generalize u 57 = u57
  generalize u 58 = u58
  generalize u 59 = u59
  generalize u 60 = u60
  generalize u 61 = u61
  generalize u 62 = u62
  generalize u 63 = u63
  generalize u 64 = u64
  generalize u 65 = u65
  clear u
  have HE := hide hE
  clear hE
  go_wp2_with fail
  refine HE.out.mono ?_
  rintro e w1 ⟨⟨ro, rc, rfl, r1⟩, b1⟩
  have B1 := hide b1
  have R1 := hide r1
  clear b1 r1 HE
  have HQ2 := hide (HQ.out · w1 ro rc · R1.out B1.out)
  clear HQ
  simp only [VW.v]
  generalize r.1.mem.length = n at *
  generalize r.1.num = num2 at *
  generalize r.2 = z at *
  go_wp2
  exact HQ2.out _ ⟨rfl, rfl, rfl, rfl, rfl, rfl, rfl, rfl, rfl, rfl, rfl, rfl, rfl, rfl, rfl⟩
set_option maxHeartbeats 8000000 in
set_option maxRecDepth 100000 in
theorem lb_r5 {K : Act → World → Prop} {c : Code} (hc : regOf (Try.f3.body.getD .skip) 5 = some c) (a : Act) {v : Vlb} {wq : World} {t : ByteArray} {r : VW × Int} (hF : Flb a v) (h1v : v.v1 = .string t) (hE : Calls Try.prog 9 #[.string t] wq fun e w' => NextGave wq w' e r)
    (hQ : ∀ a' w1 ro rc, Flb a' { v with v12 := .pointer (some ⟨w1.heap.size, 0, none⟩), v13 := .int .i64 r.2 } → w1.ownsRow wq.heap.size tMember 2 (.slice ro r.1.mem.length rc) r.1.mem.length (mbCells r.1.mem) → Below wq.heap.size wq w1 → K a' (w1.alloc (.cells #[.int .i64 r.1.num, .slice ro r.1.mem.length rc] tView))) :
    Code.wp Try.prog c (Exit.then K fun _ _ _ => False) a wq := by
  have HQ := hide hQ
  clear hQ
  obtain ⟨t', d'⟩ := a
  obtain ⟨v1, v2, v4, v5, v6, v7, v8, v9, v10, v11, v12, v13, v14⟩ := v
  simp only at h1v HQ
  subst h1v
  obtain ⟨hs1, hd1, q1, q2, q4, q5, q6, q7, q8, q9, q10, q11, q12, q13, q14⟩ := hF
  obtain ⟨u, hu⟩ := frame_lb t' hs1
  simp only at hd1 q1 q2 q4 q5 q6 q7 q8 q9 q10 q11 q12 q13 q14
  subst hu hd1
  have e1 : u 1 = .string t := q1
  have e2 : u 2 = v2 := q2
  have e4 : u 4 = v4 := q4
  have e5 : u 5 = v5 := q5
  have e6 : u 6 = v6 := q6
  have e7 : u 7 = v7 := q7
  have e8 : u 8 = v8 := q8
  have e9 : u 9 = v9 := q9
  have e10 : u 10 = v10 := q10
  have e11 : u 11 = v11 := q11
  have e12 : u 12 = v12 := q12
  have e13 : u 13 = v13 := q13
  have e14 : u 14 = v14 := q14
  rw [e1, e2, e4, e5, e6, e7, e8, e9, e10, e11, e12, e13, e14]
  clear q1 e1 q2 e2 q4 e4 q5 e5 q6 e6 q7 e7 q8 e8 q9 e9 q10 e10 q11 e11 q12 e12 q13 e13 q14 e14 hs1
  simp only [Try.f3, Option.getD_some, regOf] at hc
  injection hc with hc
  subst hc
  generalize u 0 = u0
  generalize u 3 = u3
  generalize u 15 = u15
  generalize u 16 = u16
  generalize u 17 = u17
  generalize u 18 = u18
  generalize u 19 = u19
  generalize u 20 = u20
  generalize u 21 = u21
  generalize u 22 = u22
  generalize u 23 = u23
  generalize u 24 = u24
  generalize u 25 = u25
  generalize u 26 = u26
  generalize u 27 = u27
  generalize u 28 = u28
  generalize u 29 = u29
  generalize u 30 = u30
  generalize u 31 = u31
  generalize u 32 = u32
  generalize u 33 = u33
  generalize u 34 = u34
  generalize u 35 = u35
  generalize u 36 = u36
  generalize u 37 = u37
  generalize u 38 = u38
  generalize u 39 = u39
  generalize u 40 = u40
  generalize u 41 = u41
  generalize u 42 = u42
  generalize u 43 = u43
  generalize u 44 = u44
  generalize u 45 = u45
  generalize u 46 = u46
  generalize u 47 = u47
  generalize u 48 = u48
  generalize u 49 = u49
  generalize u 50 = u50
  generalize u 51 = u51
  generalize u 52 = u52
  generalize u 53 = u53
  generalize u 54 = u54
  generalize u 55 = u55
  generalize u 56 = u56
  generalize u 57 = u57
  generalize u 58 = u58
  generalize u 59 = u59
  generalize u 60 = u60
  generalize u 61 = u61
  generalize u 62 = u62
  generalize u 63 = u63
  generalize u 64 = u64
  generalize u 65 = u65
  clear u
  have HE := hide hE
  clear hE
  go_wp2_with fail
  refine HE.out.mono ?_
  rintro e w1 ⟨⟨ro, rc, rfl, r1⟩, b1⟩
  have B1 := hide b1
  have R1 := hide r1
  clear b1 r1 HE
  have HQ2 := hide (HQ.out · w1 ro rc · R1.out B1.out)
  clear HQ
  simp only [VW.v]
  generalize r.1.mem.length = n at *
  generalize r.1.num = num2 at *
  generalize r.2 = z at *
  go_wp2
  exact HQ2.out _ ⟨rfl, rfl, rfl, rfl, rfl, rfl, rfl, rfl, rfl, rfl, rfl, rfl, rfl, rfl, rfl⟩
set_option maxHeartbeats 8000000 in
set_option maxRecDepth 100000 in
theorem lb_r6 {K : Act → World → Prop} {c : Code} (hc : regOf (Try.f3.body.getD .skip) 6 = some c) (a : Act) {v : Vlb} {wq : World} {p q cp cq : Nat} {ao bo : Option Addr} {x : VW} (hF : Flb a v) (h10v : v.v10 = .pointer (some ⟨p, 0, none⟩)) (h12v : v.v12 = .pointer (some ⟨q, 0, none⟩)) (hP : wq.heap[p]? = some (.cells #[.int .i64 x.num, .slice ao x.mem.length cp] tView (0, 0))) (hR : wq.heap[q]? = some (.cells #[.int .i64 x.num, .slice bo x.mem.length cq] tView (0, 0))) (hM : MemsAt wq ao x.mem) (hN : MemsAt wq bo x.mem) (hl : x.mem.length ≤ 4611686018427387904)
    (hQ : ∀ a' w', Flb a' { v with v14 := .bool true } → Below wq.heap.size wq w' → K a' w') :
    Code.wp Try.prog c (Exit.then K fun _ _ _ => False) a wq := by
  have HQ := hide hQ
  clear hQ
  obtain ⟨t', d'⟩ := a
  obtain ⟨v1, v2, v4, v5, v6, v7, v8, v9, v10, v11, v12, v13, v14⟩ := v
  simp only at h10v h12v HQ
  subst h10v h12v
  obtain ⟨hs1, hd1, q1, q2, q4, q5, q6, q7, q8, q9, q10, q11, q12, q13, q14⟩ := hF
  obtain ⟨u, hu⟩ := frame_lb t' hs1
  simp only at hd1 q1 q2 q4 q5 q6 q7 q8 q9 q10 q11 q12 q13 q14
  subst hu hd1
  have e1 : u 1 = v1 := q1
  have e2 : u 2 = v2 := q2
  have e4 : u 4 = v4 := q4
  have e5 : u 5 = v5 := q5
  have e6 : u 6 = v6 := q6
  have e7 : u 7 = v7 := q7
  have e8 : u 8 = v8 := q8
  have e9 : u 9 = v9 := q9
  have e10 : u 10 = .pointer (some ⟨p, 0, none⟩) := q10
  have e11 : u 11 = v11 := q11
  have e12 : u 12 = .pointer (some ⟨q, 0, none⟩) := q12
  have e13 : u 13 = v13 := q13
  have e14 : u 14 = v14 := q14
  rw [e1, e2, e4, e5, e6, e7, e8, e9, e10, e11, e12, e13, e14]
  clear q1 e1 q2 e2 q4 e4 q5 e5 q6 e6 q7 e7 q8 e8 q9 e9 q10 e10 q11 e11 q12 e12 q13 e13 q14 e14 hs1
  simp only [Try.f3, Option.getD_some, regOf] at hc
  injection hc with hc
  subst hc
  generalize u 0 = u0
  generalize u 3 = u3
  generalize u 15 = u15
  generalize u 16 = u16
  generalize u 17 = u17
  generalize u 18 = u18
  generalize u 19 = u19
  generalize u 20 = u20
  generalize u 21 = u21
  generalize u 22 = u22
  generalize u 23 = u23
  generalize u 24 = u24
  generalize u 25 = u25
  generalize u 26 = u26
  generalize u 27 = u27
  generalize u 28 = u28
  generalize u 29 = u29
  generalize u 30 = u30
  generalize u 31 = u31
  generalize u 32 = u32
  generalize u 33 = u33
  generalize u 34 = u34
  generalize u 35 = u35
  generalize u 36 = u36
  generalize u 37 = u37
  generalize u 38 = u38
  generalize u 39 = u39
  generalize u 40 = u40
  generalize u 41 = u41
  generalize u 42 = u42
  generalize u 43 = u43
  generalize u 44 = u44
  generalize u 45 = u45
  generalize u 46 = u46
  generalize u 47 = u47
  generalize u 48 = u48
  generalize u 49 = u49
  generalize u 50 = u50
  generalize u 51 = u51
  generalize u 52 = u52
  generalize u 53 = u53
  generalize u 54 = u54
  generalize u 55 = u55
  generalize u 56 = u56
  generalize u 57 = u57
  generalize u 58 = u58
  generalize u 59 = u59
  generalize u 60 = u60
  generalize u 61 = u61
  generalize u 62 = u62
  generalize u 63 = u63
  generalize u 64 = u64
  generalize u 65 = u65
  clear u
  have c0 := box_cell hP 0 rfl
  have c1 := box_cell hP 1 rfl
  have d0 := box_cell hR 0 rfl
  have d1 := box_cell hR 1 rfl
  have HE := hide (views_any x ao bo cp cq wq hM hN hl)
  clear hP hR hM hN hl
  simp only [VW.v] at HE
  generalize x.mem.length = n at *
  generalize x.num = k at *
  go_wp2_with fail
  refine HE.out.mono ?_
  rintro e w1 ⟨rfl, b1⟩
  have B1 := hide b1
  clear b1 HE
  go_wp2
  exact HQ.out _ _ ⟨rfl, rfl, rfl, rfl, rfl, rfl, rfl, rfl, rfl, rfl, rfl, rfl, rfl, rfl, rfl⟩ B1.out
set_option maxHeartbeats 8000000 in
set_option maxRecDepth 100000 in
theorem lb_r7 {K : Act → World → Prop} {c : Code} (hc : regOf (Try.f3.body.getD .skip) 7 = some c) (a : Act) {v : Vlb} {wq : World} {cd : ByteArray} {y : Int} (hF : Flb a v) (h5v : v.v5 = .bool true) (h6v : v.v6 = .string cd) (h7v : v.v7 = .int .i64 0) (h8v : v.v8 = .string cd) (h9v : v.v9 = .bool true) (h11v : v.v11 = .int .i64 y) (h13v : v.v13 = .int .i64 y) (h14v : v.v14 = .bool true) 
    (hQ : ∀ a', Flb a' { v with v4 := .bool true } → K a' wq) :
    Code.wp Try.prog c (Exit.then K fun _ _ _ => False) a wq := by
  have HQ := hide hQ
  clear hQ
  obtain ⟨t', d'⟩ := a
  obtain ⟨v1, v2, v4, v5, v6, v7, v8, v9, v10, v11, v12, v13, v14⟩ := v
  simp only at h5v h6v h7v h8v h9v h11v h13v h14v HQ
  subst h5v h6v h7v h8v h9v h11v h13v h14v
  obtain ⟨hs1, hd1, q1, q2, q4, q5, q6, q7, q8, q9, q10, q11, q12, q13, q14⟩ := hF
  obtain ⟨u, hu⟩ := frame_lb t' hs1
  simp only at hd1 q1 q2 q4 q5 q6 q7 q8 q9 q10 q11 q12 q13 q14
  subst hu hd1
  have e1 : u 1 = v1 := q1
  have e2 : u 2 = v2 := q2
  have e4 : u 4 = v4 := q4
  have e5 : u 5 = .bool true := q5
  have e6 : u 6 = .string cd := q6
  have e7 : u 7 = .int .i64 0 := q7
  have e8 : u 8 = .string cd := q8
  have e9 : u 9 = .bool true := q9
  have e10 : u 10 = v10 := q10
  have e11 : u 11 = .int .i64 y := q11
  have e12 : u 12 = v12 := q12
  have e13 : u 13 = .int .i64 y := q13
  have e14 : u 14 = .bool true := q14
  rw [e1, e2, e4, e5, e6, e7, e8, e9, e10, e11, e12, e13, e14]
  clear q1 e1 q2 e2 q4 e4 q5 e5 q6 e6 q7 e7 q8 e8 q9 e9 q10 e10 q11 e11 q12 e12 q13 e13 q14 e14 hs1
  simp only [Try.f3, Option.getD_some, regOf] at hc
  injection hc with hc
  subst hc
  generalize u 0 = u0
  generalize u 3 = u3
  generalize u 15 = u15
  generalize u 16 = u16
  generalize u 17 = u17
  generalize u 18 = u18
  generalize u 19 = u19
  generalize u 20 = u20
  generalize u 21 = u21
  generalize u 22 = u22
  generalize u 23 = u23
  generalize u 24 = u24
  generalize u 25 = u25
  generalize u 26 = u26
  generalize u 27 = u27
  generalize u 28 = u28
  generalize u 29 = u29
  generalize u 30 = u30
  generalize u 31 = u31
  generalize u 32 = u32
  generalize u 33 = u33
  generalize u 34 = u34
  generalize u 35 = u35
  generalize u 36 = u36
  generalize u 37 = u37
  generalize u 38 = u38
  generalize u 39 = u39
  generalize u 40 = u40
  generalize u 41 = u41
  generalize u 42 = u42
  generalize u 43 = u43
  generalize u 44 = u44
  generalize u 45 = u45
  generalize u 46 = u46
  generalize u 47 = u47
  generalize u 48 = u48
  generalize u 49 = u49
  generalize u 50 = u50
  generalize u 51 = u51
  generalize u 52 = u52
  generalize u 53 = u53
  generalize u 54 = u54
  generalize u 55 = u55
  generalize u 56 = u56
  generalize u 57 = u57
  generalize u 58 = u58
  generalize u 59 = u59
  generalize u 60 = u60
  generalize u 61 = u61
  generalize u 62 = u62
  generalize u 63 = u63
  generalize u 64 = u64
  generalize u 65 = u65
  clear u
  go_wp2
  exact HQ.out _ ⟨rfl, rfl, rfl, rfl, (by simp), rfl, rfl, rfl, rfl, rfl, rfl, rfl, rfl, rfl, rfl⟩
set_option maxHeartbeats 8000000 in
set_option maxRecDepth 100000 in
theorem lb_r7n {K : Act → World → Prop} {c : Code} (hc : regOf (Try.f3.body.getD .skip) 7 = some c) (a : Act) {v : Vlb} {wq : World} {cd : ByteArray} {y : Int} (hF : Flb a v) (h5v : v.v5 = .bool true) (h6v : v.v6 = .string cd) (h7v : v.v7 = .int .i64 1) (h8v : v.v8 = .string cd) (h9v : v.v9 = .bool false) (h11v : v.v11 = .int .i64 y) (h13v : v.v13 = .int .i64 y) (h14v : v.v14 = .bool true) 
    (hQ : ∀ a', Flb a' { v with v4 := .bool true } → K a' wq) :
    Code.wp Try.prog c (Exit.then K fun _ _ _ => False) a wq := by
  have HQ := hide hQ
  clear hQ
  obtain ⟨t', d'⟩ := a
  obtain ⟨v1, v2, v4, v5, v6, v7, v8, v9, v10, v11, v12, v13, v14⟩ := v
  simp only at h5v h6v h7v h8v h9v h11v h13v h14v HQ
  subst h5v h6v h7v h8v h9v h11v h13v h14v
  obtain ⟨hs1, hd1, q1, q2, q4, q5, q6, q7, q8, q9, q10, q11, q12, q13, q14⟩ := hF
  obtain ⟨u, hu⟩ := frame_lb t' hs1
  simp only at hd1 q1 q2 q4 q5 q6 q7 q8 q9 q10 q11 q12 q13 q14
  subst hu hd1
  have e1 : u 1 = v1 := q1
  have e2 : u 2 = v2 := q2
  have e4 : u 4 = v4 := q4
  have e5 : u 5 = .bool true := q5
  have e6 : u 6 = .string cd := q6
  have e7 : u 7 = .int .i64 1 := q7
  have e8 : u 8 = .string cd := q8
  have e9 : u 9 = .bool false := q9
  have e10 : u 10 = v10 := q10
  have e11 : u 11 = .int .i64 y := q11
  have e12 : u 12 = v12 := q12
  have e13 : u 13 = .int .i64 y := q13
  have e14 : u 14 = .bool true := q14
  rw [e1, e2, e4, e5, e6, e7, e8, e9, e10, e11, e12, e13, e14]
  clear q1 e1 q2 e2 q4 e4 q5 e5 q6 e6 q7 e7 q8 e8 q9 e9 q10 e10 q11 e11 q12 e12 q13 e13 q14 e14 hs1
  simp only [Try.f3, Option.getD_some, regOf] at hc
  injection hc with hc
  subst hc
  generalize u 0 = u0
  generalize u 3 = u3
  generalize u 15 = u15
  generalize u 16 = u16
  generalize u 17 = u17
  generalize u 18 = u18
  generalize u 19 = u19
  generalize u 20 = u20
  generalize u 21 = u21
  generalize u 22 = u22
  generalize u 23 = u23
  generalize u 24 = u24
  generalize u 25 = u25
  generalize u 26 = u26
  generalize u 27 = u27
  generalize u 28 = u28
  generalize u 29 = u29
  generalize u 30 = u30
  generalize u 31 = u31
  generalize u 32 = u32
  generalize u 33 = u33
  generalize u 34 = u34
  generalize u 35 = u35
  generalize u 36 = u36
  generalize u 37 = u37
  generalize u 38 = u38
  generalize u 39 = u39
  generalize u 40 = u40
  generalize u 41 = u41
  generalize u 42 = u42
  generalize u 43 = u43
  generalize u 44 = u44
  generalize u 45 = u45
  generalize u 46 = u46
  generalize u 47 = u47
  generalize u 48 = u48
  generalize u 49 = u49
  generalize u 50 = u50
  generalize u 51 = u51
  generalize u 52 = u52
  generalize u 53 = u53
  generalize u 54 = u54
  generalize u 55 = u55
  generalize u 56 = u56
  generalize u 57 = u57
  generalize u 58 = u58
  generalize u 59 = u59
  generalize u 60 = u60
  generalize u 61 = u61
  generalize u 62 = u62
  generalize u 63 = u63
  generalize u 64 = u64
  generalize u 65 = u65
  clear u
  go_wp2
  exact HQ.out _ ⟨rfl, rfl, rfl, rfl, (by simp), rfl, rfl, rfl, rfl, rfl, rfl, rfl, rfl, rfl, rfl⟩
end Go.Proofs.Ytjnbfopipmglgaa
