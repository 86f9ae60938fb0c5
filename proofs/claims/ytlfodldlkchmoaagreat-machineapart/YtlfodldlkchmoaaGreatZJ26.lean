/-
  MachineApart's regions (mkj26.py).
-/
import Derived.Test.YtlfodldlkchmoaaGreatZJ25
import Derived.Test.YtlfodldlkchmoaaGreatZYC5
import Derived.Test.YtlfodldlkchmoaaGreatZJP
import Derived.Laws.StructEq
namespace Go.Proofs.YtlfodldlkchmoaaGreat.Y
open Go.RowKit
set_option maxHeartbeats 8000000
set_option maxRecDepth 100000
attribute [local go_sem ↓] Go.wp_at_zero Go.wp_at_succ
set_option linter.unusedSimpArgs false
set_option linter.unusedVariables false
open Go.Maps
theorem frame_ap (t : Array Value) (h : t.size = 103) : ∃ u : Nat → Value, t = List.toArray (u 0 :: u 1 :: u 2 :: u 3 :: u 4 :: u 5 :: u 6 :: u 7 :: u 8 :: u 9 :: u 10 :: u 11 :: u 12 :: u 13 :: u 14 :: u 15 :: u 16 :: u 17 :: u 18 :: u 19 :: u 20 :: u 21 :: u 22 :: u 23 :: u 24 :: u 25 :: u 26 :: u 27 :: u 28 :: u 29 :: u 30 :: u 31 :: u 32 :: u 33 :: u 34 :: u 35 :: u 36 :: u 37 :: u 38 :: u 39 :: u 40 :: u 41 :: u 42 :: u 43 :: u 44 :: u 45 :: u 46 :: u 47 :: u 48 :: u 49 :: u 50 :: u 51 :: u 52 :: u 53 :: u 54 :: u 55 :: u 56 :: u 57 :: u 58 :: u 59 :: u 60 :: u 61 :: u 62 :: u 63 :: u 64 :: u 65 :: u 66 :: u 67 :: u 68 :: u 69 :: u 70 :: u 71 :: u 72 :: u 73 :: u 74 :: u 75 :: u 76 :: u 77 :: u 78 :: u 79 :: u 80 :: u 81 :: u 82 :: u 83 :: u 84 :: u 85 :: u 86 :: u 87 :: u 88 :: u 89 :: u 90 :: u 91 :: u 92 :: u 93 :: u 94 :: u 95 :: u 96 :: u 97 :: u 98 :: u 99 :: u 100 :: u 101 :: u 102 :: []) := by
  refine ⟨fun i => t.getD i undef, ?_⟩
  refine Eq.trans (b := ((List.range 103).map fun i => t.getD i undef).toArray) ?_ rfl
  apply Array.ext
  · simp [h]
  · intro k h1 h2
    simp [Array.getD, h1]
structure Vap where
  v0 : Value
  v1 : Value
  v4 : Value
  v5 : Value
  v6 : Value
  v7 : Value
  v8 : Value
  v9 : Value
  v10 : Value
  v11 : Value
  v12 : Value
  v13 : Value
  v14 : Value
  v15 : Value
structure Fap (a : Act) (v : Vap) : Prop where
  size : a.tmps.size = 103
  defers : a.defers = []
  s0 : a.tmps.getD 0 undef = v.v0
  s1 : a.tmps.getD 1 undef = v.v1
  s4 : a.tmps.getD 4 undef = v.v4
  s5 : a.tmps.getD 5 undef = v.v5
  s6 : a.tmps.getD 6 undef = v.v6
  s7 : a.tmps.getD 7 undef = v.v7
  s8 : a.tmps.getD 8 undef = v.v8
  s9 : a.tmps.getD 9 undef = v.v9
  s10 : a.tmps.getD 10 undef = v.v10
  s11 : a.tmps.getD 11 undef = v.v11
  s12 : a.tmps.getD 12 undef = v.v12
  s13 : a.tmps.getD 13 undef = v.v13
  s14 : a.tmps.getD 14 undef = v.v14
  s15 : a.tmps.getD 15 undef = v.v15
theorem frx_ap {a : Act} {v0 v1 v4 v5 v6 v7 v8 v9 v10 v11 v12 v13 v14 v15 : Value} (h : Fap a ⟨v0, v1, v4, v5, v6, v7, v8, v9, v10, v11, v12, v13, v14, v15⟩) : ∃ u : Nat → Value, a = ⟨List.toArray (v0 :: v1 :: u 2 :: u 3 :: v4 :: v5 :: v6 :: v7 :: v8 :: v9 :: v10 :: v11 :: v12 :: v13 :: v14 :: v15 :: u 16 :: u 17 :: u 18 :: u 19 :: u 20 :: u 21 :: u 22 :: u 23 :: u 24 :: u 25 :: u 26 :: u 27 :: u 28 :: u 29 :: u 30 :: u 31 :: u 32 :: u 33 :: u 34 :: u 35 :: u 36 :: u 37 :: u 38 :: u 39 :: u 40 :: u 41 :: u 42 :: u 43 :: u 44 :: u 45 :: u 46 :: u 47 :: u 48 :: u 49 :: u 50 :: u 51 :: u 52 :: u 53 :: u 54 :: u 55 :: u 56 :: u 57 :: u 58 :: u 59 :: u 60 :: u 61 :: u 62 :: u 63 :: u 64 :: u 65 :: u 66 :: u 67 :: u 68 :: u 69 :: u 70 :: u 71 :: u 72 :: u 73 :: u 74 :: u 75 :: u 76 :: u 77 :: u 78 :: u 79 :: u 80 :: u 81 :: u 82 :: u 83 :: u 84 :: u 85 :: u 86 :: u 87 :: u 88 :: u 89 :: u 90 :: u 91 :: u 92 :: u 93 :: u 94 :: u 95 :: u 96 :: u 97 :: u 98 :: u 99 :: u 100 :: u 101 :: u 102 :: []), []⟩ := by
  obtain ⟨t', d'⟩ := a
  obtain ⟨hs, hd, q0, q1, q4, q5, q6, q7, q8, q9, q10, q11, q12, q13, q14, q15⟩ := h
  obtain ⟨u, hu⟩ := frame_ap t' hs
  simp only at hd q0 q1 q4 q5 q6 q7 q8 q9 q10 q11 q12 q13 q14 q15
  subst hu hd
  have e0 : u 0 = v0 := q0
  have e1 : u 1 = v1 := q1
  have e4 : u 4 = v4 := q4
  have e5 : u 5 = v5 := q5
  have e6 : u 6 = v6 := q6
  have e7 : u 7 = v7 := q7
  have e8 : u 8 = v8 := q8
  have e9 : u 9 = v9 := q9
  have e10 : u 10 = v10 := q10
  have e11 : u 11 = v11 := q11
  have e12 : u 12 = v12 := q12
  have e13 : u 13 = v13 := q13
  have e14 : u 14 = v14 := q14
  have e15 : u 15 = v15 := q15
  refine ⟨u, ?_⟩
  rw [e0, e1, e4, e5, e6, e7, e8, e9, e10, e11, e12, e13, e14, e15]
theorem ap_r0 {K : Act → World → Prop} {c : Code} (hc : regOf (Tryz.f6.body.getD .skip) 0 = some c) (a : Act) {v : Vap} {wq : World}  (hF : Fap a v) (hQ : ∀ a', Fap a' { v with v4 := .bool false } → K a' wq) :
    Code.wp Tryz.prog c (Exit.then K fun _ _ _ => False) a wq := by
  have HQ := hide hQ
  clear hQ
  obtain ⟨v0, v1, v4, v5, v6, v7, v8, v9, v10, v11, v12, v13, v14, v15⟩ := v
  obtain ⟨u, rfl⟩ := frx_ap hF
  clear hF
  simp only [Tryz.f6, Option.getD_some, regOf] at hc
  injection hc with hc
  subst hc
  go_wp2
  exact HQ.out _ ⟨rfl, rfl, rfl, rfl, rfl, rfl, rfl, rfl, rfl, rfl, rfl, rfl, rfl, rfl, rfl, rfl⟩
theorem ap_r1 {K : Act → World → Prop} {c : Code} (hc : regOf (Tryz.f6.body.getD .skip) 1 = some c) (a : Act) {v : Vap} {wq : World}  (hF : Fap a v) (hE : Calls Tryz.prog 8 #[] wq fun e w' => e = .returned (.bool true) ∧ Below wq.heap.size wq w')
    (hQ : ∀ a' w1, Fap a' { v with v5 := .bool true } → Below wq.heap.size wq w1 → K a' w1) :
    Code.wp Tryz.prog c (Exit.then K fun _ _ _ => False) a wq := by
  have HQ := hide hQ
  clear hQ
  obtain ⟨v0, v1, v4, v5, v6, v7, v8, v9, v10, v11, v12, v13, v14, v15⟩ := v
  obtain ⟨u, rfl⟩ := frx_ap hF
  clear hF
  simp only [Tryz.f6, Option.getD_some, regOf] at hc
  injection hc with hc
  subst hc
  have HE := hide hE
  clear hE
  go_wp2_with (go_at_call 8; refine HE.out.mono ?_; rintro e w1 ⟨rfl, b1⟩; have B1 := hide b1; clear b1)
  exact HQ.out _ _ ⟨rfl, rfl, rfl, rfl, rfl, rfl, rfl, rfl, rfl, rfl, rfl, rfl, rfl, rfl, rfl, rfl⟩ B1.out
theorem ap_r2 {K : Act → World → Prop} {c : Code} (hc : regOf (Tryz.f6.body.getD .skip) 2 = some c) (a : Act) {v : Vap} {wq : World} {ec : Int} {R : Option Addr → World → Prop} (hF : Fap a v) (hE : Calls Tryz.prog 9 #[.int .i64 3] wq fun e w' => ∃ po, e = .returned (.tuple #[.pointer po, .int .i64 ec]) ∧ R po w')
    (hQ : ∀ a' w1 po, Fap a' { v with v6 := .pointer po, v7 := .int .i64 ec } → R po w1 → K a' w1) :
    Code.wp Tryz.prog c (Exit.then K fun _ _ _ => False) a wq := by
  have HQ := hide hQ
  clear hQ
  obtain ⟨v0, v1, v4, v5, v6, v7, v8, v9, v10, v11, v12, v13, v14, v15⟩ := v
  obtain ⟨u, rfl⟩ := frx_ap hF
  clear hF
  simp only [Tryz.f6, Option.getD_some, regOf] at hc
  injection hc with hc
  subst hc
  have HE := hide hE
  clear hE
  go_wp2_with (go_at_call 9; refine HE.out.mono ?_; rintro e w1 ⟨po, rfl, r1⟩; have R1 := hide r1; clear r1)
  exact HQ.out _ _ _ ⟨rfl, rfl, rfl, rfl, rfl, rfl, rfl, rfl, rfl, rfl, rfl, rfl, rfl, rfl, rfl, rfl⟩ R1.out
theorem ap_r3 {K : Act → World → Prop} {c : Code} (hc : regOf (Tryz.f6.body.getD .skip) 3 = some c) (a : Act) {v : Vap} {wq : World} {ec : Int} {R : Option Addr → World → Prop} (hF : Fap a v) (hE : Calls Tryz.prog 9 #[.int .i64 3] wq fun e w' => ∃ po, e = .returned (.tuple #[.pointer po, .int .i64 ec]) ∧ R po w')
    (hQ : ∀ a' w1 po, Fap a' { v with v8 := .pointer po, v9 := .int .i64 ec } → R po w1 → K a' w1) :
    Code.wp Tryz.prog c (Exit.then K fun _ _ _ => False) a wq := by
  have HQ := hide hQ
  clear hQ
  obtain ⟨v0, v1, v4, v5, v6, v7, v8, v9, v10, v11, v12, v13, v14, v15⟩ := v
  obtain ⟨u, rfl⟩ := frx_ap hF
  clear hF
  simp only [Tryz.f6, Option.getD_some, regOf] at hc
  injection hc with hc
  subst hc
  have HE := hide hE
  clear hE
  go_wp2_with (go_at_call 9; refine HE.out.mono ?_; rintro e w1 ⟨po, rfl, r1⟩; have R1 := hide r1; clear r1)
  exact HQ.out _ _ _ ⟨rfl, rfl, rfl, rfl, rfl, rfl, rfl, rfl, rfl, rfl, rfl, rfl, rfl, rfl, rfl, rfl⟩ R1.out
theorem ap_r4 {K : Act → World → Prop} {c : Code} (hc : regOf (Tryz.f6.body.getD .skip) 4 = some c) (a : Act) {v : Vap} {wq : World} {ma mb : Nat} (hF : Fap a v) (h6v : v.v6 = .pointer (some ⟨ma, 0, none⟩)) (h8v : v.v8 = .pointer (some ⟨mb, 0, none⟩)) (hQ : ∀ a', Fap a' v → a'.tmps.getD 30 undef = .bool false → K a' wq) :
    Code.wp Tryz.prog c (Exit.then K fun _ _ _ => False) a wq := by
  have HQ := hide hQ
  clear hQ
  obtain ⟨v0, v1, v4, v5, v6, v7, v8, v9, v10, v11, v12, v13, v14, v15⟩ := v
  simp only at h6v h8v HQ
  subst h6v h8v
  obtain ⟨u, rfl⟩ := frx_ap hF
  clear hF
  simp only [Tryz.f6, Option.getD_some, regOf] at hc
  injection hc with hc
  subst hc
  go_wp2
  exact HQ.out _ ⟨rfl, rfl, rfl, rfl, rfl, rfl, rfl, rfl, rfl, rfl, rfl, rfl, rfl, rfl, rfl, rfl⟩ (by first | rfl | (simp; done))
theorem ap_r6 {K : Act → World → Prop} {c : Code} (hc : regOf (Tryz.f6.body.getD .skip) 6 = some c) (a : Act) {v : Vap} {wq : World}  (hF : Fap a v) (hQ : ∀ a', Fap a' { v with v10 := .int .i64 ((0 : Nat) : Int) } → K a' wq) :
    Code.wp Tryz.prog c (Exit.then K fun _ _ _ => False) a wq := by
  have HQ := hide hQ
  clear hQ
  obtain ⟨v0, v1, v4, v5, v6, v7, v8, v9, v10, v11, v12, v13, v14, v15⟩ := v
  obtain ⟨u, rfl⟩ := frx_ap hF
  clear hF
  simp only [Tryz.f6, Option.getD_some, regOf] at hc
  injection hc with hc
  subst hc
  go_wp2
  exact HQ.out _ ⟨rfl, rfl, rfl, rfl, rfl, rfl, rfl, rfl, rfl, rfl, rfl, rfl, rfl, rfl, rfl, rfl⟩
theorem ap_r7n {K : Act → World → Prop} {c : Code} (hc : regOf (Tryz.f6.body.getD .skip) 7 = some c) (a : Act) {v : Vap} {wq : World} {ao : Option Addr} {n cp k : Nat} (hF : Fap a v) (h0v : v.v0 = .slice ao n cp) (h10v : v.v10 = .int .i64 (k : Int)) (hk : ¬ (k : Int) < (n : Int)) (hQ : ∀ a', Fap a' v → a'.tmps.getD 38 undef = .bool false → K a' wq) :
    Code.wp Tryz.prog c (Exit.then K fun _ _ _ => False) a wq := by
  have HQ := hide hQ
  clear hQ
  obtain ⟨v0, v1, v4, v5, v6, v7, v8, v9, v10, v11, v12, v13, v14, v15⟩ := v
  simp only at h0v h10v HQ
  subst h0v h10v
  obtain ⟨u, rfl⟩ := frx_ap hF
  clear hF
  simp only [Tryz.f6, Option.getD_some, regOf] at hc
  injection hc with hc
  subst hc
  have hd : decide ((k : Int) < (n : Int)) = false := decide_eq_false hk
  go_wp2
  exact HQ.out _ ⟨rfl, rfl, rfl, rfl, rfl, rfl, rfl, rfl, rfl, rfl, rfl, rfl, rfl, rfl, rfl, rfl⟩ (by first | rfl | (simp; done))
theorem ap_r7y {K : Act → World → Prop} {c : Code} (hc : regOf (Tryz.f6.body.getD .skip) 7 = some c) (a : Act) {v : Vap} {wq : World} {ao : Option Addr} {n cp k : Nat} (hF : Fap a v) (h0v : v.v0 = .slice ao n cp) (h10v : v.v10 = .int .i64 (k : Int)) (hk : (k : Int) < (n : Int)) (hQ : ∀ a', Fap a' v → a'.tmps.getD 38 undef = .bool (decide ((k : Int) < 60)) → K a' wq) :
    Code.wp Tryz.prog c (Exit.then K fun _ _ _ => False) a wq := by
  have HQ := hide hQ
  clear hQ
  obtain ⟨v0, v1, v4, v5, v6, v7, v8, v9, v10, v11, v12, v13, v14, v15⟩ := v
  simp only at h0v h10v HQ
  subst h0v h10v
  obtain ⟨u, rfl⟩ := frx_ap hF
  clear hF
  simp only [Tryz.f6, Option.getD_some, regOf] at hc
  injection hc with hc
  subst hc
  have hd : decide ((k : Int) < (n : Int)) = true := decide_eq_true hk
  go_wp2
  exact HQ.out _ ⟨rfl, rfl, rfl, rfl, rfl, rfl, rfl, rfl, rfl, rfl, rfl, rfl, rfl, rfl, rfl, rfl⟩ (by first | rfl | (simp; done))
theorem ap_r9 {K : Act → World → Prop} {c : Code} (hc : regOf (Tryz.f6.body.getD .skip) 9 = some c) (a : Act) {v : Vap} {wq : World} {db df n cp k : Nat} {cm : CM} (hF : Fap a v) (h0v : v.v0 = .slice (some ⟨db, df, none⟩) n cp) (h10v : v.v10 = .int .i64 (k : Int)) (hk : k < n) (hD : CMAt wq db (df + k * 9) cm)
    (hQ : ∀ a', Fap a' { v with v11 := .pointer (some ⟨wq.heap.size, 0, none⟩) } → K a' (wq.alloc (.cells #[.int .i64 cm.kind, .string cm.topic, .string cm.name, .int .i64 cm.seq, .string cm.key, .string cm.val, .int .i64 cm.n, .int .i64 cm.node, .int .i64 cm.ask] 31))) :
    Code.wp Tryz.prog c (Exit.then K fun _ _ _ => False) a wq := by
  have HQ := hide hQ
  clear hQ
  obtain ⟨v0, v1, v4, v5, v6, v7, v8, v9, v10, v11, v12, v13, v14, v15⟩ := v
  simp only at h0v h10v HQ
  subst h0v h10v
  obtain ⟨u, rfl⟩ := frx_ap hF
  clear hF
  simp only [Tryz.f6, Option.getD_some, regOf] at hc
  injection hc with hc
  subst hc
  obtain ⟨c0, c1, c2, c3, c4, c5, c6, c7, c8⟩ := hD
  have i0 : (0 : Int) ≤ (k : Int) := by omega
  have i1 : (k : Int) < (n : Int) := by omega
  go_wp2
  exact HQ.out _ ⟨rfl, rfl, rfl, rfl, rfl, rfl, rfl, rfl, rfl, rfl, rfl, rfl, rfl, rfl, rfl, rfl⟩
theorem ap_r10a {K : Act → World → Prop} {c : Code} (hc : regOf (Tryz.f6.body.getD .skip) 10 = some c) (a : Act) {v : Vap} {wq : World} {cb : Nat} {cm : CM} (hF : Fap a v) (h11v : v.v11 = .pointer (some ⟨cb, 0, none⟩)) (hC : wq.heap[cb]? = some (.cells #[.int .i64 cm.kind, .string cm.topic, .string cm.name, .int .i64 cm.seq, .string cm.key, .string cm.val, .int .i64 cm.n, .int .i64 cm.node, .int .i64 cm.ask] 31 (0, 0))) (h0 : cm.kind = 10) (hQ : ∀ a', Fap a' v → a'.tmps.getD 52 undef = .bool true → K a' wq) :
    Code.wp Tryz.prog c (Exit.then K fun _ _ _ => False) a wq := by
  have HQ := hide hQ
  clear hQ
  obtain ⟨v0, v1, v4, v5, v6, v7, v8, v9, v10, v11, v12, v13, v14, v15⟩ := v
  simp only at h11v HQ
  subst h11v
  obtain ⟨u, rfl⟩ := frx_ap hF
  clear hF
  simp only [Tryz.f6, Option.getD_some, regOf] at hc
  injection hc with hc
  subst hc
  have z0 := box_cell hC 0 rfl
  clear hC
  have hd : (cm.kind == 10) = true := beq_iff_eq.2 h0
  go_wp2
  exact HQ.out _ ⟨rfl, rfl, rfl, rfl, rfl, rfl, rfl, rfl, rfl, rfl, rfl, rfl, rfl, rfl, rfl, rfl⟩ (by first | rfl | (simp; done))
theorem ap_r10b {K : Act → World → Prop} {c : Code} (hc : regOf (Tryz.f6.body.getD .skip) 10 = some c) (a : Act) {v : Vap} {wq : World} {cb : Nat} {cm : CM} (hF : Fap a v) (h11v : v.v11 = .pointer (some ⟨cb, 0, none⟩)) (hC : wq.heap[cb]? = some (.cells #[.int .i64 cm.kind, .string cm.topic, .string cm.name, .int .i64 cm.seq, .string cm.key, .string cm.val, .int .i64 cm.n, .int .i64 cm.node, .int .i64 cm.ask] 31 (0, 0))) (h0 : cm.kind = 11) (hQ : ∀ a', Fap a' v → a'.tmps.getD 52 undef = .bool true → K a' wq) :
    Code.wp Tryz.prog c (Exit.then K fun _ _ _ => False) a wq := by
  have HQ := hide hQ
  clear hQ
  obtain ⟨v0, v1, v4, v5, v6, v7, v8, v9, v10, v11, v12, v13, v14, v15⟩ := v
  simp only at h11v HQ
  subst h11v
  obtain ⟨u, rfl⟩ := frx_ap hF
  clear hF
  simp only [Tryz.f6, Option.getD_some, regOf] at hc
  injection hc with hc
  subst hc
  have z0 := box_cell hC 0 rfl
  clear hC
  have hd : (cm.kind == 10) = false := beq_eq_false_iff_ne.2 (by omega)
  have he : (cm.kind == 11) = true := beq_iff_eq.2 h0
  go_wp2
  exact HQ.out _ ⟨rfl, rfl, rfl, rfl, rfl, rfl, rfl, rfl, rfl, rfl, rfl, rfl, rfl, rfl, rfl, rfl⟩ (by first | rfl | (simp; done))
theorem ap_r10c {K : Act → World → Prop} {c : Code} (hc : regOf (Tryz.f6.body.getD .skip) 10 = some c) (a : Act) {v : Vap} {wq : World} {cb : Nat} {cm : CM} (hF : Fap a v) (h11v : v.v11 = .pointer (some ⟨cb, 0, none⟩)) (hC : wq.heap[cb]? = some (.cells #[.int .i64 cm.kind, .string cm.topic, .string cm.name, .int .i64 cm.seq, .string cm.key, .string cm.val, .int .i64 cm.n, .int .i64 cm.node, .int .i64 cm.ask] 31 (0, 0))) (h0 : cm.kind ≠ 10 ∧ cm.kind ≠ 11) (hQ : ∀ a', Fap a' v → a'.tmps.getD 52 undef = .bool false → K a' wq) :
    Code.wp Tryz.prog c (Exit.then K fun _ _ _ => False) a wq := by
  have HQ := hide hQ
  clear hQ
  obtain ⟨v0, v1, v4, v5, v6, v7, v8, v9, v10, v11, v12, v13, v14, v15⟩ := v
  simp only at h11v HQ
  subst h11v
  obtain ⟨u, rfl⟩ := frx_ap hF
  clear hF
  simp only [Tryz.f6, Option.getD_some, regOf] at hc
  injection hc with hc
  subst hc
  have z0 := box_cell hC 0 rfl
  clear hC
  have hd : (cm.kind == 10) = false := beq_eq_false_iff_ne.2 h0.1
  have he : (cm.kind == 11) = false := beq_eq_false_iff_ne.2 h0.2
  go_wp2
  exact HQ.out _ ⟨rfl, rfl, rfl, rfl, rfl, rfl, rfl, rfl, rfl, rfl, rfl, rfl, rfl, rfl, rfl, rfl⟩ (by first | rfl | (simp; done))
theorem ap_r11n {K : Act → World → Prop} {c : Code} (hc : regOf (Tryz.f6.body.getD .skip) 11 = some c) (a : Act) {v : Vap} {wq : World} {bo : Option Addr} {n cp k : Nat} (hF : Fap a v) (h1v : v.v1 = .slice bo n cp) (h10v : v.v10 = .int .i64 (k : Int)) (hk : ¬ (k : Int) < (n : Int)) (hQ : ∀ a', Fap a' { v with v12 := .bool false } → K a' wq) :
    Code.wp Tryz.prog c (Exit.then K fun _ _ _ => False) a wq := by
  have HQ := hide hQ
  clear hQ
  obtain ⟨v0, v1, v4, v5, v6, v7, v8, v9, v10, v11, v12, v13, v14, v15⟩ := v
  simp only at h1v h10v HQ
  subst h1v h10v
  obtain ⟨u, rfl⟩ := frx_ap hF
  clear hF
  simp only [Tryz.f6, Option.getD_some, regOf] at hc
  injection hc with hc
  subst hc
  have hd : decide ((k : Int) < (n : Int)) = false := decide_eq_false hk
  go_wp2
  exact HQ.out _ ⟨rfl, rfl, rfl, rfl, rfl, rfl, rfl, rfl, rfl, rfl, rfl, rfl, rfl, rfl, rfl, rfl⟩
theorem ap_r11y {K : Act → World → Prop} {c : Code} (hc : regOf (Tryz.f6.body.getD .skip) 11 = some c) (a : Act) {v : Vap} {wq : World} {bb bf n cp k : Nat} {far : Bool} (hF : Fap a v) (h1v : v.v1 = .slice (some ⟨bb, bf, none⟩) n cp) (h10v : v.v10 = .int .i64 (k : Int)) (hk : k < n) (hB : wq.cell? ⟨bb, bf + k, none⟩ = some (.bool far)) (hQ : ∀ a', Fap a' { v with v12 := .bool far } → K a' wq) :
    Code.wp Tryz.prog c (Exit.then K fun _ _ _ => False) a wq := by
  have HQ := hide hQ
  clear hQ
  obtain ⟨v0, v1, v4, v5, v6, v7, v8, v9, v10, v11, v12, v13, v14, v15⟩ := v
  simp only at h1v h10v HQ
  subst h1v h10v
  obtain ⟨u, rfl⟩ := frx_ap hF
  clear hF
  simp only [Tryz.f6, Option.getD_some, regOf] at hc
  injection hc with hc
  subst hc
  have hd : decide ((k : Int) < (n : Int)) = true := decide_eq_true (by omega)
  have i0 : (0 : Int) ≤ (k : Int) := by omega
  have i1 : (k : Int) < (n : Int) := by omega
  go_wp2
  exact HQ.out _ ⟨rfl, rfl, rfl, rfl, rfl, rfl, rfl, rfl, rfl, rfl, rfl, rfl, rfl, rfl, rfl, rfl⟩
theorem ap_r12e {K : Act → World → Prop} {c : Code} (hc : regOf (Tryz.f6.body.getD .skip) 12 = some c) (a : Act) {v : Vap} {wq : World} {cb : Nat} {cm : CM} (hF : Fap a v) (h11v : v.v11 = .pointer (some ⟨cb, 0, none⟩)) (hC : wq.heap[cb]? = some (.cells #[.int .i64 cm.kind, .string cm.topic, .string cm.name, .int .i64 cm.seq, .string cm.key, .string cm.val, .int .i64 cm.n, .int .i64 cm.node, .int .i64 cm.ask] 31 (0, 0))) (hb : cm.topic.toList = []) (hQ : ∀ a', Fap a' v → a'.tmps.getD 65 undef = .bool false → K a' wq) :
    Code.wp Tryz.prog c (Exit.then K fun _ _ _ => False) a wq := by
  have HQ := hide hQ
  clear hQ
  obtain ⟨v0, v1, v4, v5, v6, v7, v8, v9, v10, v11, v12, v13, v14, v15⟩ := v
  simp only at h11v HQ
  subst h11v
  obtain ⟨u, rfl⟩ := frx_ap hF
  clear hF
  simp only [Tryz.f6, Option.getD_some, regOf] at hc
  injection hc with hc
  subst hc
  have z1 := box_cell hC 1 rfl
  clear hC
  go_wp2
  exact HQ.out _ ⟨rfl, rfl, rfl, rfl, rfl, rfl, rfl, rfl, rfl, rfl, rfl, rfl, rfl, rfl, rfl, rfl⟩ (by first | rfl | (simp; done) | (simp [hb]; done))
theorem ap_r12n {K : Act → World → Prop} {c : Code} (hc : regOf (Tryz.f6.body.getD .skip) 12 = some c) (a : Act) {v : Vap} {wq : World} {cb : Nat} {cm : CM} (hF : Fap a v) (h11v : v.v11 = .pointer (some ⟨cb, 0, none⟩)) (hC : wq.heap[cb]? = some (.cells #[.int .i64 cm.kind, .string cm.topic, .string cm.name, .int .i64 cm.seq, .string cm.key, .string cm.val, .int .i64 cm.n, .int .i64 cm.node, .int .i64 cm.ask] 31 (0, 0))) (hb : ¬ cm.topic.toList = []) (hQ : ∀ a', Fap a' v → a'.tmps.getD 65 undef = .bool true → K a' wq) :
    Code.wp Tryz.prog c (Exit.then K fun _ _ _ => False) a wq := by
  have HQ := hide hQ
  clear hQ
  obtain ⟨v0, v1, v4, v5, v6, v7, v8, v9, v10, v11, v12, v13, v14, v15⟩ := v
  simp only at h11v HQ
  subst h11v
  obtain ⟨u, rfl⟩ := frx_ap hF
  clear hF
  simp only [Tryz.f6, Option.getD_some, regOf] at hc
  injection hc with hc
  subst hc
  have z1 := box_cell hC 1 rfl
  clear hC
  go_wp2
  exact HQ.out _ ⟨rfl, rfl, rfl, rfl, rfl, rfl, rfl, rfl, rfl, rfl, rfl, rfl, rfl, rfl, rfl, rfl⟩ (by first | rfl | (simp; done) | (simp [hb]; done))
theorem ap_r13 {K : Act → World → Prop} {c : Code} (hc : regOf (Tryz.f6.body.getD .skip) 13 = some c) (a : Act) {v : Vap} {wq : World} {cb : Nat} {cm : CM} (hF : Fap a v) (h11v : v.v11 = .pointer (some ⟨cb, 0, none⟩)) (hC : wq.heap[cb]? = some (.cells #[.int .i64 cm.kind, .string cm.topic, .string cm.name, .int .i64 cm.seq, .string cm.key, .string cm.val, .int .i64 cm.n, .int .i64 cm.node, .int .i64 cm.ask] 31 (0, 0)))
    (hQ : ∀ a', Fap a' v → K a' (wq.setCell ⟨cb, 1, none⟩ (.string ⟨#[97]⟩))) :
    Code.wp Tryz.prog c (Exit.then K fun _ _ _ => False) a wq := by
  have HQ := hide hQ
  clear hQ
  obtain ⟨v0, v1, v4, v5, v6, v7, v8, v9, v10, v11, v12, v13, v14, v15⟩ := v
  simp only at h11v HQ
  subst h11v
  obtain ⟨u, rfl⟩ := frx_ap hF
  clear hF
  simp only [Tryz.f6, Option.getD_some, regOf] at hc
  injection hc with hc
  subst hc
  have z := box_cell hC 1 rfl
  have f0 := box_free hC 1
  clear hC
  go_wp2
  exact HQ.out _ ⟨rfl, rfl, rfl, rfl, rfl, rfl, rfl, rfl, rfl, rfl, rfl, rfl, rfl, rfl, rfl, rfl⟩
theorem ap_r15 {K : Act → World → Prop} {c : Code} (hc : regOf (Tryz.f6.body.getD .skip) 15 = some c) (a : Act) {v : Vap} {wq : World} {cb : Nat} {cm : CM} (hF : Fap a v) (h11v : v.v11 = .pointer (some ⟨cb, 0, none⟩)) (hC : wq.heap[cb]? = some (.cells #[.int .i64 cm.kind, .string cm.topic, .string cm.name, .int .i64 cm.seq, .string cm.key, .string cm.val, .int .i64 cm.n, .int .i64 cm.node, .int .i64 cm.ask] 31 (0, 0)))
    (hQ : ∀ a', Fap a' v → K a' (wq.setCell ⟨cb, 2, none⟩ (.string ⟨#[115]⟩))) :
    Code.wp Tryz.prog c (Exit.then K fun _ _ _ => False) a wq := by
  have HQ := hide hQ
  clear hQ
  obtain ⟨v0, v1, v4, v5, v6, v7, v8, v9, v10, v11, v12, v13, v14, v15⟩ := v
  simp only at h11v HQ
  subst h11v
  obtain ⟨u, rfl⟩ := frx_ap hF
  clear hF
  simp only [Tryz.f6, Option.getD_some, regOf] at hc
  injection hc with hc
  subst hc
  have z := box_cell hC 2 rfl
  have f0 := box_free hC 2
  clear hC
  go_wp2
  exact HQ.out _ ⟨rfl, rfl, rfl, rfl, rfl, rfl, rfl, rfl, rfl, rfl, rfl, rfl, rfl, rfl, rfl, rfl⟩
theorem ap_r17 {K : Act → World → Prop} {c : Code} (hc : regOf (Tryz.f6.body.getD .skip) 17 = some c) (a : Act) {v : Vap} {wq : World} {cb : Nat} {cm : CM} (hF : Fap a v) (h11v : v.v11 = .pointer (some ⟨cb, 0, none⟩)) (hC : wq.heap[cb]? = some (.cells #[.int .i64 cm.kind, .string cm.topic, .string cm.name, .int .i64 cm.seq, .string cm.key, .string cm.val, .int .i64 cm.n, .int .i64 cm.node, .int .i64 cm.ask] 31 (0, 0)))
    (hQ : ∀ a', Fap a' v → K a' (wq.setCell ⟨cb, 1, none⟩ (.string ⟨#[98]⟩))) :
    Code.wp Tryz.prog c (Exit.then K fun _ _ _ => False) a wq := by
  have HQ := hide hQ
  clear hQ
  obtain ⟨v0, v1, v4, v5, v6, v7, v8, v9, v10, v11, v12, v13, v14, v15⟩ := v
  simp only at h11v HQ
  subst h11v
  obtain ⟨u, rfl⟩ := frx_ap hF
  clear hF
  simp only [Tryz.f6, Option.getD_some, regOf] at hc
  injection hc with hc
  subst hc
  have z := box_cell hC 1 rfl
  have f0 := box_free hC 1
  clear hC
  go_wp2
  exact HQ.out _ ⟨rfl, rfl, rfl, rfl, rfl, rfl, rfl, rfl, rfl, rfl, rfl, rfl, rfl, rfl, rfl, rfl⟩
theorem ap_r19 {K : Act → World → Prop} {c : Code} (hc : regOf (Tryz.f6.body.getD .skip) 19 = some c) (a : Act) {v : Vap} {wq : World} {cb : Nat} {cm : CM} (hF : Fap a v) (h11v : v.v11 = .pointer (some ⟨cb, 0, none⟩)) (hC : wq.heap[cb]? = some (.cells #[.int .i64 cm.kind, .string cm.topic, .string cm.name, .int .i64 cm.seq, .string cm.key, .string cm.val, .int .i64 cm.n, .int .i64 cm.node, .int .i64 cm.ask] 31 (0, 0)))
    (hQ : ∀ a', Fap a' v → K a' (wq.setCell ⟨cb, 2, none⟩ (.string ⟨#[116]⟩))) :
    Code.wp Tryz.prog c (Exit.then K fun _ _ _ => False) a wq := by
  have HQ := hide hQ
  clear hQ
  obtain ⟨v0, v1, v4, v5, v6, v7, v8, v9, v10, v11, v12, v13, v14, v15⟩ := v
  simp only at h11v HQ
  subst h11v
  obtain ⟨u, rfl⟩ := frx_ap hF
  clear hF
  simp only [Tryz.f6, Option.getD_some, regOf] at hc
  injection hc with hc
  subst hc
  have z := box_cell hC 2 rfl
  have f0 := box_free hC 2
  clear hC
  go_wp2
  exact HQ.out _ ⟨rfl, rfl, rfl, rfl, rfl, rfl, rfl, rfl, rfl, rfl, rfl, rfl, rfl, rfl, rfl, rfl⟩
theorem ap_r14e {K : Act → World → Prop} {c : Code} (hc : regOf (Tryz.f6.body.getD .skip) 14 = some c) (a : Act) {v : Vap} {wq : World} {cb : Nat} {cm : CM} (hF : Fap a v) (h11v : v.v11 = .pointer (some ⟨cb, 0, none⟩)) (hC : wq.heap[cb]? = some (.cells #[.int .i64 cm.kind, .string cm.topic, .string cm.name, .int .i64 cm.seq, .string cm.key, .string cm.val, .int .i64 cm.n, .int .i64 cm.node, .int .i64 cm.ask] 31 (0, 0))) (hb : cm.name.toList = []) (hQ : ∀ a', Fap a' v → a'.tmps.getD 74 undef = .bool false → K a' wq) :
    Code.wp Tryz.prog c (Exit.then K fun _ _ _ => False) a wq := by
  have HQ := hide hQ
  clear hQ
  obtain ⟨v0, v1, v4, v5, v6, v7, v8, v9, v10, v11, v12, v13, v14, v15⟩ := v
  simp only at h11v HQ
  subst h11v
  obtain ⟨u, rfl⟩ := frx_ap hF
  clear hF
  simp only [Tryz.f6, Option.getD_some, regOf] at hc
  injection hc with hc
  subst hc
  have z2 := box_cell hC 2 rfl
  clear hC
  go_wp2
  exact HQ.out _ ⟨rfl, rfl, rfl, rfl, rfl, rfl, rfl, rfl, rfl, rfl, rfl, rfl, rfl, rfl, rfl, rfl⟩ (by first | rfl | (simp; done) | (simp [hb]; done))
theorem ap_r14p {K : Act → World → Prop} {c : Code} (hc : regOf (Tryz.f6.body.getD .skip) 14 = some c) (a : Act) {v : Vap} {wq : World} {cb : Nat} {cm : CM} (hF : Fap a v) (h11v : v.v11 = .pointer (some ⟨cb, 0, none⟩)) (hC : wq.heap[cb]? = some (.cells #[.int .i64 cm.kind, .string cm.topic, .string cm.name, .int .i64 cm.seq, .string cm.key, .string cm.val, .int .i64 cm.n, .int .i64 cm.node, .int .i64 cm.ask] 31 (0, 0))) (hb : ¬ cm.name.toList = []) (h0 : cm.kind = 2) (hQ : ∀ a', Fap a' v → a'.tmps.getD 74 undef = .bool false → K a' wq) :
    Code.wp Tryz.prog c (Exit.then K fun _ _ _ => False) a wq := by
  have HQ := hide hQ
  clear hQ
  obtain ⟨v0, v1, v4, v5, v6, v7, v8, v9, v10, v11, v12, v13, v14, v15⟩ := v
  simp only at h11v HQ
  subst h11v
  obtain ⟨u, rfl⟩ := frx_ap hF
  clear hF
  simp only [Tryz.f6, Option.getD_some, regOf] at hc
  injection hc with hc
  subst hc
  have z0 := box_cell hC 0 rfl
  have z2 := box_cell hC 2 rfl
  clear hC
  have hd : (cm.kind == 2) = true := beq_iff_eq.2 h0
  go_wp2
  exact HQ.out _ ⟨rfl, rfl, rfl, rfl, rfl, rfl, rfl, rfl, rfl, rfl, rfl, rfl, rfl, rfl, rfl, rfl⟩ (by first | rfl | (simp; done) | (simp [hb]; done) | (simp [hb, h0]; done))
theorem ap_r14n {K : Act → World → Prop} {c : Code} (hc : regOf (Tryz.f6.body.getD .skip) 14 = some c) (a : Act) {v : Vap} {wq : World} {cb : Nat} {cm : CM} (hF : Fap a v) (h11v : v.v11 = .pointer (some ⟨cb, 0, none⟩)) (hC : wq.heap[cb]? = some (.cells #[.int .i64 cm.kind, .string cm.topic, .string cm.name, .int .i64 cm.seq, .string cm.key, .string cm.val, .int .i64 cm.n, .int .i64 cm.node, .int .i64 cm.ask] 31 (0, 0))) (hb : ¬ cm.name.toList = []) (h0 : cm.kind ≠ 2) (hQ : ∀ a', Fap a' v → a'.tmps.getD 74 undef = .bool true → K a' wq) :
    Code.wp Tryz.prog c (Exit.then K fun _ _ _ => False) a wq := by
  have HQ := hide hQ
  clear hQ
  obtain ⟨v0, v1, v4, v5, v6, v7, v8, v9, v10, v11, v12, v13, v14, v15⟩ := v
  simp only at h11v HQ
  subst h11v
  obtain ⟨u, rfl⟩ := frx_ap hF
  clear hF
  simp only [Tryz.f6, Option.getD_some, regOf] at hc
  injection hc with hc
  subst hc
  have z0 := box_cell hC 0 rfl
  have z2 := box_cell hC 2 rfl
  clear hC
  have hd : (cm.kind == 2) = false := beq_eq_false_iff_ne.2 h0
  go_wp2
  exact HQ.out _ ⟨rfl, rfl, rfl, rfl, rfl, rfl, rfl, rfl, rfl, rfl, rfl, rfl, rfl, rfl, rfl, rfl⟩ (by first | rfl | (simp; done) | (simp [hb]; done) | (simp [hb, h0]; done))
theorem ap_r16f {K : Act → World → Prop} {c : Code} (hc : regOf (Tryz.f6.body.getD .skip) 16 = some c) (a : Act) {v : Vap} {wq : World} {cb : Nat} {cm : CM} (hF : Fap a v) (h12v : v.v12 = .bool false) (h11v : v.v11 = .pointer (some ⟨cb, 0, none⟩)) (hC : wq.heap[cb]? = some (.cells #[.int .i64 cm.kind, .string cm.topic, .string cm.name, .int .i64 cm.seq, .string cm.key, .string cm.val, .int .i64 cm.n, .int .i64 cm.node, .int .i64 cm.ask] 31 (0, 0))) (hQ : ∀ a', Fap a' v → a'.tmps.getD 81 undef = .bool false → K a' wq) :
    Code.wp Tryz.prog c (Exit.then K fun _ _ _ => False) a wq := by
  have HQ := hide hQ
  clear hQ
  obtain ⟨v0, v1, v4, v5, v6, v7, v8, v9, v10, v11, v12, v13, v14, v15⟩ := v
  simp only at h12v h11v HQ
  subst h12v h11v
  obtain ⟨u, rfl⟩ := frx_ap hF
  clear hF
  simp only [Tryz.f6, Option.getD_some, regOf] at hc
  injection hc with hc
  subst hc
  have z1 := box_cell hC 1 rfl
  clear hC
  go_wp2
  exact HQ.out _ ⟨rfl, rfl, rfl, rfl, rfl, rfl, rfl, rfl, rfl, rfl, rfl, rfl, rfl, rfl, rfl, rfl⟩ (by first | rfl | (simp; done))
theorem ap_r16e {K : Act → World → Prop} {c : Code} (hc : regOf (Tryz.f6.body.getD .skip) 16 = some c) (a : Act) {v : Vap} {wq : World} {cb : Nat} {cm : CM} (hF : Fap a v) (h12v : v.v12 = .bool true) (h11v : v.v11 = .pointer (some ⟨cb, 0, none⟩)) (hC : wq.heap[cb]? = some (.cells #[.int .i64 cm.kind, .string cm.topic, .string cm.name, .int .i64 cm.seq, .string cm.key, .string cm.val, .int .i64 cm.n, .int .i64 cm.node, .int .i64 cm.ask] 31 (0, 0))) (hb : cm.topic.toList = []) (hQ : ∀ a', Fap a' v → a'.tmps.getD 81 undef = .bool false → K a' wq) :
    Code.wp Tryz.prog c (Exit.then K fun _ _ _ => False) a wq := by
  have HQ := hide hQ
  clear hQ
  obtain ⟨v0, v1, v4, v5, v6, v7, v8, v9, v10, v11, v12, v13, v14, v15⟩ := v
  simp only at h12v h11v HQ
  subst h12v h11v
  obtain ⟨u, rfl⟩ := frx_ap hF
  clear hF
  simp only [Tryz.f6, Option.getD_some, regOf] at hc
  injection hc with hc
  subst hc
  have z1 := box_cell hC 1 rfl
  clear hC
  go_wp2
  exact HQ.out _ ⟨rfl, rfl, rfl, rfl, rfl, rfl, rfl, rfl, rfl, rfl, rfl, rfl, rfl, rfl, rfl, rfl⟩ (by first | rfl | (simp; done) | (simp [hb]; done))
theorem ap_r16n {K : Act → World → Prop} {c : Code} (hc : regOf (Tryz.f6.body.getD .skip) 16 = some c) (a : Act) {v : Vap} {wq : World} {cb : Nat} {cm : CM} (hF : Fap a v) (h12v : v.v12 = .bool true) (h11v : v.v11 = .pointer (some ⟨cb, 0, none⟩)) (hC : wq.heap[cb]? = some (.cells #[.int .i64 cm.kind, .string cm.topic, .string cm.name, .int .i64 cm.seq, .string cm.key, .string cm.val, .int .i64 cm.n, .int .i64 cm.node, .int .i64 cm.ask] 31 (0, 0))) (hb : ¬ cm.topic.toList = []) (hQ : ∀ a', Fap a' v → a'.tmps.getD 81 undef = .bool true → K a' wq) :
    Code.wp Tryz.prog c (Exit.then K fun _ _ _ => False) a wq := by
  have HQ := hide hQ
  clear hQ
  obtain ⟨v0, v1, v4, v5, v6, v7, v8, v9, v10, v11, v12, v13, v14, v15⟩ := v
  simp only at h12v h11v HQ
  subst h12v h11v
  obtain ⟨u, rfl⟩ := frx_ap hF
  clear hF
  simp only [Tryz.f6, Option.getD_some, regOf] at hc
  injection hc with hc
  subst hc
  have z1 := box_cell hC 1 rfl
  clear hC
  go_wp2
  exact HQ.out _ ⟨rfl, rfl, rfl, rfl, rfl, rfl, rfl, rfl, rfl, rfl, rfl, rfl, rfl, rfl, rfl, rfl⟩ (by first | rfl | (simp; done) | (simp [hb]; done))
theorem ap_r18f {K : Act → World → Prop} {c : Code} (hc : regOf (Tryz.f6.body.getD .skip) 18 = some c) (a : Act) {v : Vap} {wq : World} {cb : Nat} {cm : CM} (hF : Fap a v) (h12v : v.v12 = .bool false) (h11v : v.v11 = .pointer (some ⟨cb, 0, none⟩)) (hC : wq.heap[cb]? = some (.cells #[.int .i64 cm.kind, .string cm.topic, .string cm.name, .int .i64 cm.seq, .string cm.key, .string cm.val, .int .i64 cm.n, .int .i64 cm.node, .int .i64 cm.ask] 31 (0, 0))) (hQ : ∀ a', Fap a' v → a'.tmps.getD 88 undef = .bool false → K a' wq) :
    Code.wp Tryz.prog c (Exit.then K fun _ _ _ => False) a wq := by
  have HQ := hide hQ
  clear hQ
  obtain ⟨v0, v1, v4, v5, v6, v7, v8, v9, v10, v11, v12, v13, v14, v15⟩ := v
  simp only at h12v h11v HQ
  subst h12v h11v
  obtain ⟨u, rfl⟩ := frx_ap hF
  clear hF
  simp only [Tryz.f6, Option.getD_some, regOf] at hc
  injection hc with hc
  subst hc
  have z2 := box_cell hC 2 rfl
  clear hC
  go_wp2
  exact HQ.out _ ⟨rfl, rfl, rfl, rfl, rfl, rfl, rfl, rfl, rfl, rfl, rfl, rfl, rfl, rfl, rfl, rfl⟩ (by first | rfl | (simp; done))
theorem ap_r18e {K : Act → World → Prop} {c : Code} (hc : regOf (Tryz.f6.body.getD .skip) 18 = some c) (a : Act) {v : Vap} {wq : World} {cb : Nat} {cm : CM} (hF : Fap a v) (h12v : v.v12 = .bool true) (h11v : v.v11 = .pointer (some ⟨cb, 0, none⟩)) (hC : wq.heap[cb]? = some (.cells #[.int .i64 cm.kind, .string cm.topic, .string cm.name, .int .i64 cm.seq, .string cm.key, .string cm.val, .int .i64 cm.n, .int .i64 cm.node, .int .i64 cm.ask] 31 (0, 0))) (hb : cm.name.toList = [115]) (hQ : ∀ a', Fap a' v → a'.tmps.getD 88 undef = .bool true → K a' wq) :
    Code.wp Tryz.prog c (Exit.then K fun _ _ _ => False) a wq := by
  have HQ := hide hQ
  clear hQ
  obtain ⟨v0, v1, v4, v5, v6, v7, v8, v9, v10, v11, v12, v13, v14, v15⟩ := v
  simp only at h12v h11v HQ
  subst h12v h11v
  obtain ⟨u, rfl⟩ := frx_ap hF
  clear hF
  simp only [Tryz.f6, Option.getD_some, regOf] at hc
  injection hc with hc
  subst hc
  have z2 := box_cell hC 2 rfl
  clear hC
  go_wp2
  exact HQ.out _ ⟨rfl, rfl, rfl, rfl, rfl, rfl, rfl, rfl, rfl, rfl, rfl, rfl, rfl, rfl, rfl, rfl⟩ (by first | rfl | (simp; done) | (simp [hb]; done))
theorem ap_r18n {K : Act → World → Prop} {c : Code} (hc : regOf (Tryz.f6.body.getD .skip) 18 = some c) (a : Act) {v : Vap} {wq : World} {cb : Nat} {cm : CM} (hF : Fap a v) (h12v : v.v12 = .bool true) (h11v : v.v11 = .pointer (some ⟨cb, 0, none⟩)) (hC : wq.heap[cb]? = some (.cells #[.int .i64 cm.kind, .string cm.topic, .string cm.name, .int .i64 cm.seq, .string cm.key, .string cm.val, .int .i64 cm.n, .int .i64 cm.node, .int .i64 cm.ask] 31 (0, 0))) (hb : ¬ cm.name.toList = [115]) (hQ : ∀ a', Fap a' v → a'.tmps.getD 88 undef = .bool false → K a' wq) :
    Code.wp Tryz.prog c (Exit.then K fun _ _ _ => False) a wq := by
  have HQ := hide hQ
  clear hQ
  obtain ⟨v0, v1, v4, v5, v6, v7, v8, v9, v10, v11, v12, v13, v14, v15⟩ := v
  simp only at h12v h11v HQ
  subst h12v h11v
  obtain ⟨u, rfl⟩ := frx_ap hF
  clear hF
  simp only [Tryz.f6, Option.getD_some, regOf] at hc
  injection hc with hc
  subst hc
  have z2 := box_cell hC 2 rfl
  clear hC
  go_wp2
  exact HQ.out _ ⟨rfl, rfl, rfl, rfl, rfl, rfl, rfl, rfl, rfl, rfl, rfl, rfl, rfl, rfl, rfl, rfl⟩ (by first | rfl | (simp; done) | (simp [hb]; done))
theorem ap_r20 {K : Act → World → Prop} {c : Code} (hc : regOf (Tryz.f6.body.getD .skip) 20 = some c) (a : Act) {v : Vap} {wq : World} {cb mb ln : Nat} {cm : CM} {x y : Int} {R : Option Addr → Nat → World → Prop} (hF : Fap a v) (h6v : v.v6 = .pointer (some ⟨mb, 0, none⟩)) (h11v : v.v11 = .pointer (some ⟨cb, 0, none⟩)) (hC : wq.heap[cb]? = some (.cells #[.int .i64 cm.kind, .string cm.topic, .string cm.name, .int .i64 cm.seq, .string cm.key, .string cm.val, .int .i64 cm.n, .int .i64 cm.node, .int .i64 cm.ask] 31 (0, 0))) (hE : Calls Tryz.prog 19 #[.pointer (some ⟨mb, 0, none⟩), .agg #[.int .i64 cm.kind, .string cm.topic, .string cm.name, .int .i64 cm.seq, .string cm.key, .string cm.val, .int .i64 cm.n, .int .i64 cm.node, .int .i64 cm.ask]] wq fun e w' => ∃ aq cq, e = .returned (.agg #[.int .i64 x, .int .i64 y, .slice aq ln cq]) ∧ R aq cq w')
    (hQ : ∀ a' w1 aq cq, Fap a' { v with v13 := .pointer (some ⟨w1.heap.size, 0, none⟩) } → R aq cq w1 → K a' (w1.alloc (.cells #[.int .i64 x, .int .i64 y, .slice aq ln cq] 37))) :
    Code.wp Tryz.prog c (Exit.then K fun _ _ _ => False) a wq := by
  have HQ := hide hQ
  clear hQ
  obtain ⟨v0, v1, v4, v5, v6, v7, v8, v9, v10, v11, v12, v13, v14, v15⟩ := v
  simp only at h6v h11v HQ
  subst h6v h11v
  obtain ⟨u, rfl⟩ := frx_ap hF
  clear hF
  simp only [Tryz.f6, Option.getD_some, regOf] at hc
  injection hc with hc
  subst hc
  have HE := hide hE
  clear hE
  have z0 := box_cell hC 0 rfl
  have z1 := box_cell hC 1 rfl
  have z2 := box_cell hC 2 rfl
  have z3 := box_cell hC 3 rfl
  have z4 := box_cell hC 4 rfl
  have z5 := box_cell hC 5 rfl
  have z6 := box_cell hC 6 rfl
  have z7 := box_cell hC 7 rfl
  have z8 := box_cell hC 8 rfl
  clear hC
  go_wp2_with (go_at_call 19; refine HE.out.mono ?_; rintro e w1 ⟨aq, cq, rfl, r1⟩; have R1 := hide r1; clear r1)
  exact HQ.out _ _ _ _ ⟨rfl, rfl, rfl, rfl, rfl, rfl, rfl, rfl, rfl, rfl, rfl, rfl, rfl, rfl, rfl, rfl⟩ R1.out
theorem ap_r22 {K : Act → World → Prop} {c : Code} (hc : regOf (Tryz.f6.body.getD .skip) 22 = some c) (a : Act) {v : Vap} {wq : World} {cb mb ln : Nat} {cm : CM} {x y : Int} {R : Option Addr → Nat → World → Prop} (hF : Fap a v) (h8v : v.v8 = .pointer (some ⟨mb, 0, none⟩)) (h11v : v.v11 = .pointer (some ⟨cb, 0, none⟩)) (hC : wq.heap[cb]? = some (.cells #[.int .i64 cm.kind, .string cm.topic, .string cm.name, .int .i64 cm.seq, .string cm.key, .string cm.val, .int .i64 cm.n, .int .i64 cm.node, .int .i64 cm.ask] 31 (0, 0))) (hE : Calls Tryz.prog 19 #[.pointer (some ⟨mb, 0, none⟩), .agg #[.int .i64 cm.kind, .string cm.topic, .string cm.name, .int .i64 cm.seq, .string cm.key, .string cm.val, .int .i64 cm.n, .int .i64 cm.node, .int .i64 cm.ask]] wq fun e w' => ∃ aq cq, e = .returned (.agg #[.int .i64 x, .int .i64 y, .slice aq ln cq]) ∧ R aq cq w')
    (hQ : ∀ a' w1 aq cq, Fap a' { v with v14 := .pointer (some ⟨w1.heap.size, 0, none⟩) } → R aq cq w1 → K a' (w1.alloc (.cells #[.int .i64 x, .int .i64 y, .slice aq ln cq] 37))) :
    Code.wp Tryz.prog c (Exit.then K fun _ _ _ => False) a wq := by
  have HQ := hide hQ
  clear hQ
  obtain ⟨v0, v1, v4, v5, v6, v7, v8, v9, v10, v11, v12, v13, v14, v15⟩ := v
  simp only at h8v h11v HQ
  subst h8v h11v
  obtain ⟨u, rfl⟩ := frx_ap hF
  clear hF
  simp only [Tryz.f6, Option.getD_some, regOf] at hc
  injection hc with hc
  subst hc
  have HE := hide hE
  clear hE
  have z0 := box_cell hC 0 rfl
  have z1 := box_cell hC 1 rfl
  have z2 := box_cell hC 2 rfl
  have z3 := box_cell hC 3 rfl
  have z4 := box_cell hC 4 rfl
  have z5 := box_cell hC 5 rfl
  have z6 := box_cell hC 6 rfl
  have z7 := box_cell hC 7 rfl
  have z8 := box_cell hC 8 rfl
  clear hC
  go_wp2_with (go_at_call 19; refine HE.out.mono ?_; rintro e w1 ⟨aq, cq, rfl, r1⟩; have R1 := hide r1; clear r1)
  exact HQ.out _ _ _ _ ⟨rfl, rfl, rfl, rfl, rfl, rfl, rfl, rfl, rfl, rfl, rfl, rfl, rfl, rfl, rfl, rfl⟩ R1.out
theorem ap_r21 {K : Act → World → Prop} {c : Code} (hc : regOf (Tryz.f6.body.getD .skip) 21 = some c) (a : Act) {v : Vap} {wq : World} {far : Bool} (hF : Fap a v) (h12v : v.v12 = .bool far) (hQ : ∀ a', Fap a' v → a'.tmps.getD 93 undef = .bool far → K a' wq) :
    Code.wp Tryz.prog c (Exit.then K fun _ _ _ => False) a wq := by
  have HQ := hide hQ
  clear hQ
  obtain ⟨v0, v1, v4, v5, v6, v7, v8, v9, v10, v11, v12, v13, v14, v15⟩ := v
  simp only at h12v HQ
  subst h12v
  obtain ⟨u, rfl⟩ := frx_ap hF
  clear hF
  simp only [Tryz.f6, Option.getD_some, regOf] at hc
  injection hc with hc
  subst hc
  go_wp2
  exact HQ.out _ ⟨rfl, rfl, rfl, rfl, rfl, rfl, rfl, rfl, rfl, rfl, rfl, rfl, rfl, rfl, rfl, rfl⟩ (by first | rfl | (simp; done))
theorem ap_r23 {K : Act → World → Prop} {c : Code} (hc : regOf (Tryz.f6.body.getD .skip) 23 = some c) (a : Act) {v : Vap} {wq : World} {b1 b2 ln pc qc : Nat} {po qo : Option Addr} {x y : Int} (hF : Fap a v) (h13v : v.v13 = .pointer (some ⟨b1, 0, none⟩)) (h14v : v.v14 = .pointer (some ⟨b2, 0, none⟩)) (hp : wq.heap[b1]? = some (.cells #[.int .i64 x, .int .i64 y, .slice po ln pc] 37 (0, 0))) (hq : wq.heap[b2]? = some (.cells #[.int .i64 x, .int .i64 y, .slice qo ln qc] 37 (0, 0))) (hE : Calls Tryz.prog 14 #[.agg #[.int .i64 x, .int .i64 y, .slice po ln pc], .agg #[.int .i64 x, .int .i64 y, .slice qo ln qc]] wq fun e w' => e = .returned (.bool true) ∧ Below wq.heap.size wq w')
    (hQ : ∀ a' w1, Fap a' { v with v15 := .bool true } → Below wq.heap.size wq w1 → K a' w1) :
    Code.wp Tryz.prog c (Exit.then K fun _ _ _ => False) a wq := by
  have HQ := hide hQ
  clear hQ
  obtain ⟨v0, v1, v4, v5, v6, v7, v8, v9, v10, v11, v12, v13, v14, v15⟩ := v
  simp only at h13v h14v HQ
  subst h13v h14v
  obtain ⟨u, rfl⟩ := frx_ap hF
  clear hF
  simp only [Tryz.f6, Option.getD_some, regOf] at hc
  injection hc with hc
  subst hc
  have HE := hide hE
  clear hE
  have u0 := box_cell hp 0 rfl
  have t0 := box_cell hq 0 rfl
  have u1 := box_cell hp 1 rfl
  have t1 := box_cell hq 1 rfl
  have u2 := box_cell hp 2 rfl
  have t2 := box_cell hq 2 rfl
  clear hp hq
  go_wp2_with (go_at_call 14; refine HE.out.mono ?_; rintro e w1 ⟨rfl, b1⟩; have B1 := hide b1; clear b1)
  exact HQ.out _ _ ⟨rfl, rfl, rfl, rfl, rfl, rfl, rfl, rfl, rfl, rfl, rfl, rfl, rfl, rfl, rfl, rfl⟩ B1.out
theorem ap_r24 {K : Act → World → Prop} {c : Code} (hc : regOf (Tryz.f6.body.getD .skip) 24 = some c) (a : Act) {v : Vap} {wq : World}  (hF : Fap a v) (h15v : v.v15 = .bool true) (hQ : ∀ a', Fap a' v → a'.tmps.getD 101 undef = .bool false → K a' wq) :
    Code.wp Tryz.prog c (Exit.then K fun _ _ _ => False) a wq := by
  have HQ := hide hQ
  clear hQ
  obtain ⟨v0, v1, v4, v5, v6, v7, v8, v9, v10, v11, v12, v13, v14, v15⟩ := v
  simp only at h15v HQ
  subst h15v
  obtain ⟨u, rfl⟩ := frx_ap hF
  clear hF
  simp only [Tryz.f6, Option.getD_some, regOf] at hc
  injection hc with hc
  subst hc
  go_wp2
  exact HQ.out _ ⟨rfl, rfl, rfl, rfl, rfl, rfl, rfl, rfl, rfl, rfl, rfl, rfl, rfl, rfl, rfl, rfl⟩ (by first | rfl | (simp; done))
theorem ap_r8 {K : Act → World → Prop} {c : Code} (hc : regOf (Tryz.f6.body.getD .skip) 8 = some c) (a : Act) {v : Vap} {wq : World} {i : Nat} (hF : Fap a v) (h10v : v.v10 = .int .i64 (i : Int)) (hi : i ≤ 1000000)
    (hQ : ∀ a', Fap a' { v with v10 := .int .i64 ((i + 1 : Nat) : Int) } → K a' wq) :
    Code.wp Tryz.prog c (Exit.then K fun _ _ _ => False) a wq := by
  have HQ := hide hQ
  clear hQ
  obtain ⟨v0, v1, v4, v5, v6, v7, v8, v9, v10, v11, v12, v13, v14, v15⟩ := v
  simp only at h10v HQ
  subst h10v
  obtain ⟨u, rfl⟩ := frx_ap hF
  clear hF
  simp only [Tryz.f6, Option.getD_some, regOf] at hc
  injection hc with hc
  subst hc
  go_wp2
  exact HQ.out _ ⟨rfl, rfl, rfl, rfl, rfl, rfl, rfl, rfl, rfl, rfl, (by first | rfl | (simp; done) | (go_num; done)), rfl, rfl, rfl, rfl, rfl⟩
theorem ap_r26 {K : Act → World → Prop} {c : Code} (hc : regOf (Tryz.f6.body.getD .skip) 26 = some c) (a : Act) {v : Vap} {wq : World}  (hF : Fap a v) (h5v : v.v5 = .bool true) (hQ : ∀ a', Fap a' { v with v4 := .bool true } → K a' wq) :
    Code.wp Tryz.prog c (Exit.then K fun _ _ _ => False) a wq := by
  have HQ := hide hQ
  clear hQ
  obtain ⟨v0, v1, v4, v5, v6, v7, v8, v9, v10, v11, v12, v13, v14, v15⟩ := v
  simp only at h5v HQ
  subst h5v
  obtain ⟨u, rfl⟩ := frx_ap hF
  clear hF
  simp only [Tryz.f6, Option.getD_some, regOf] at hc
  injection hc with hc
  subst hc
  go_wp2
  exact HQ.out _ ⟨rfl, rfl, rfl, rfl, rfl, rfl, rfl, rfl, rfl, rfl, rfl, rfl, rfl, rfl, rfl, rfl⟩
theorem ap_ret {W : World} {a : Act} {v : Vap} {x : Value} {R : Ending → World → Prop} (hF : Fap a v) (h2 : v.v4 = x) (h : R (.returned x) W) : bodyPost Tryz.prog Tryz.f6 R .ret a W := by
  have g0 := slot_get (hF.s4.trans h2)
  refine bodyPost_ret (v := x) ?_ hF.defers h
  simp [results, Tryz.results6, go_sem, g0]
end Go.Proofs.YtlfodldlkchmoaaGreat.Y
