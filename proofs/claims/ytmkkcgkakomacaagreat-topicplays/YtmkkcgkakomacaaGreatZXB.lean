/-
  carillonref15's Publish: its regions (mkxb.py).
-/
import Derived.Test.YtmkkcgkakomacaaGreatZXA
namespace Go.Proofs.YtmkkcgkakomacaaGreat.Y
open Go.RowKit
set_option maxHeartbeats 8000000
set_option maxRecDepth 100000
attribute [local go_sem ↓] Go.wp_at_zero Go.wp_at_succ
set_option linter.unusedSimpArgs false
set_option linter.unusedVariables false
theorem wpList_append_run {P : Program} {w w' : World} {ops : Array Oper} {rest : List Oper} {o : Oper} {a : Act} {Q : Exit → Act → World → Prop} (hgd : o.guard = none) (s x : Operand) (t : TypeId)
    (ho : o.op = .call { callee := .builtin .append, args := #[s, x], argTypes := #[t, t] }) (vs vx v' : Value) (hs : a.eval s = vs) (hx : a.eval x = vx) (hr : (Builtin.append_ #[t, t] o.type #[vs, vx]).run P w = .ok v' w')
    (h : wpList P ops Q rest (a.put o.dst v') w') : wpList P ops Q (o :: rest) a w := by
  refine wpList_plain hgd fun K hK => ?_
  unfold Oper.wp execOp
  simp only [ho, resolve, invoke, builtin, Sem.run_bind, Sem.run_pure, Result.andThen_ok, List.map_toArray, List.map_cons, List.map_nil, hs, hx, hr]
  exact hK _ _ h
theorem frame_xp (t : Array Value) (h : t.size = 143) : ∃ u : Nat → Value, t = List.toArray (u 0 :: u 1 :: u 2 :: u 3 :: u 4 :: u 5 :: u 6 :: u 7 :: u 8 :: u 9 :: u 10 :: u 11 :: u 12 :: u 13 :: u 14 :: u 15 :: u 16 :: u 17 :: u 18 :: u 19 :: u 20 :: u 21 :: u 22 :: u 23 :: u 24 :: u 25 :: u 26 :: u 27 :: u 28 :: u 29 :: u 30 :: u 31 :: u 32 :: u 33 :: u 34 :: u 35 :: u 36 :: u 37 :: u 38 :: u 39 :: u 40 :: u 41 :: u 42 :: u 43 :: u 44 :: u 45 :: u 46 :: u 47 :: u 48 :: u 49 :: u 50 :: u 51 :: u 52 :: u 53 :: u 54 :: u 55 :: u 56 :: u 57 :: u 58 :: u 59 :: u 60 :: u 61 :: u 62 :: u 63 :: u 64 :: u 65 :: u 66 :: u 67 :: u 68 :: u 69 :: u 70 :: u 71 :: u 72 :: u 73 :: u 74 :: u 75 :: u 76 :: u 77 :: u 78 :: u 79 :: u 80 :: u 81 :: u 82 :: u 83 :: u 84 :: u 85 :: u 86 :: u 87 :: u 88 :: u 89 :: u 90 :: u 91 :: u 92 :: u 93 :: u 94 :: u 95 :: u 96 :: u 97 :: u 98 :: u 99 :: u 100 :: u 101 :: u 102 :: u 103 :: u 104 :: u 105 :: u 106 :: u 107 :: u 108 :: u 109 :: u 110 :: u 111 :: u 112 :: u 113 :: u 114 :: u 115 :: u 116 :: u 117 :: u 118 :: u 119 :: u 120 :: u 121 :: u 122 :: u 123 :: u 124 :: u 125 :: u 126 :: u 127 :: u 128 :: u 129 :: u 130 :: u 131 :: u 132 :: u 133 :: u 134 :: u 135 :: u 136 :: u 137 :: u 138 :: u 139 :: u 140 :: u 141 :: u 142 :: []) := by
  refine ⟨fun i => t.getD i undef, ?_⟩
  refine Eq.trans (b := ((List.range 143).map fun i => t.getD i undef).toArray) ?_ rfl
  apply Array.ext
  · simp [h]
  · intro k h1 h2
    simp [Array.getD, h1]
structure Vxp where
  v0 : Value
  v1 : Value
  v2 : Value
  v3 : Value
  v4 : Value
  v10 : Value
  v11 : Value
  v12 : Value
  v13 : Value
  v14 : Value
  v15 : Value
  v16 : Value
  v17 : Value
structure Fxp (a : Act) (v : Vxp) : Prop where
  size : a.tmps.size = 143
  defers : a.defers = []
  s0 : a.tmps.getD 0 undef = v.v0
  s1 : a.tmps.getD 1 undef = v.v1
  s2 : a.tmps.getD 2 undef = v.v2
  s3 : a.tmps.getD 3 undef = v.v3
  s4 : a.tmps.getD 4 undef = v.v4
  s10 : a.tmps.getD 10 undef = v.v10
  s11 : a.tmps.getD 11 undef = v.v11
  s12 : a.tmps.getD 12 undef = v.v12
  s13 : a.tmps.getD 13 undef = v.v13
  s14 : a.tmps.getD 14 undef = v.v14
  s15 : a.tmps.getD 15 undef = v.v15
  s16 : a.tmps.getD 16 undef = v.v16
  s17 : a.tmps.getD 17 undef = v.v17
theorem frx_xp {a : Act} {v0 v1 v2 v3 v4 v10 v11 v12 v13 v14 v15 v16 v17 : Value} (h : Fxp a ⟨v0, v1, v2, v3, v4, v10, v11, v12, v13, v14, v15, v16, v17⟩) : ∃ u : Nat → Value, a = ⟨List.toArray (v0 :: v1 :: v2 :: v3 :: v4 :: u 5 :: u 6 :: u 7 :: u 8 :: u 9 :: v10 :: v11 :: v12 :: v13 :: v14 :: v15 :: v16 :: v17 :: u 18 :: u 19 :: u 20 :: u 21 :: u 22 :: u 23 :: u 24 :: u 25 :: u 26 :: u 27 :: u 28 :: u 29 :: u 30 :: u 31 :: u 32 :: u 33 :: u 34 :: u 35 :: u 36 :: u 37 :: u 38 :: u 39 :: u 40 :: u 41 :: u 42 :: u 43 :: u 44 :: u 45 :: u 46 :: u 47 :: u 48 :: u 49 :: u 50 :: u 51 :: u 52 :: u 53 :: u 54 :: u 55 :: u 56 :: u 57 :: u 58 :: u 59 :: u 60 :: u 61 :: u 62 :: u 63 :: u 64 :: u 65 :: u 66 :: u 67 :: u 68 :: u 69 :: u 70 :: u 71 :: u 72 :: u 73 :: u 74 :: u 75 :: u 76 :: u 77 :: u 78 :: u 79 :: u 80 :: u 81 :: u 82 :: u 83 :: u 84 :: u 85 :: u 86 :: u 87 :: u 88 :: u 89 :: u 90 :: u 91 :: u 92 :: u 93 :: u 94 :: u 95 :: u 96 :: u 97 :: u 98 :: u 99 :: u 100 :: u 101 :: u 102 :: u 103 :: u 104 :: u 105 :: u 106 :: u 107 :: u 108 :: u 109 :: u 110 :: u 111 :: u 112 :: u 113 :: u 114 :: u 115 :: u 116 :: u 117 :: u 118 :: u 119 :: u 120 :: u 121 :: u 122 :: u 123 :: u 124 :: u 125 :: u 126 :: u 127 :: u 128 :: u 129 :: u 130 :: u 131 :: u 132 :: u 133 :: u 134 :: u 135 :: u 136 :: u 137 :: u 138 :: u 139 :: u 140 :: u 141 :: u 142 :: []), []⟩ := by
  obtain ⟨t', d'⟩ := a
  obtain ⟨hs, hd, q0, q1, q2, q3, q4, q10, q11, q12, q13, q14, q15, q16, q17⟩ := h
  obtain ⟨u, hu⟩ := frame_xp t' hs
  simp only at hd q0 q1 q2 q3 q4 q10 q11 q12 q13 q14 q15 q16 q17
  subst hu hd
  have e0 : u 0 = v0 := q0
  have e1 : u 1 = v1 := q1
  have e2 : u 2 = v2 := q2
  have e3 : u 3 = v3 := q3
  have e4 : u 4 = v4 := q4
  have e10 : u 10 = v10 := q10
  have e11 : u 11 = v11 := q11
  have e12 : u 12 = v12 := q12
  have e13 : u 13 = v13 := q13
  have e14 : u 14 = v14 := q14
  have e15 : u 15 = v15 := q15
  have e16 : u 16 = v16 := q16
  have e17 : u 17 = v17 := q17
  refine ⟨u, ?_⟩
  rw [e0, e1, e2, e3, e4, e10, e11, e12, e13, e14, e15, e16, e17]
theorem xp_r0 {K : Act → World → Prop} {c : Code} (hc : regOf (Tryz.f11.body.getD .skip) 0 = some c) (a : Act) {v : Vxp} {wq : World}  (hF : Fxp a v) (hQ : ∀ a', Fxp a' { v with v10 := .int .i64 0, v11 := .int .i64 0 } → K a' wq) :
    Code.wp Tryz.prog c (Exit.then K fun _ _ _ => False) a wq := by
  have HQ := hide hQ
  clear hQ
  obtain ⟨v0, v1, v2, v3, v4, v10, v11, v12, v13, v14, v15, v16, v17⟩ := v
  obtain ⟨u, rfl⟩ := frx_xp hF
  clear hF
  simp only [Tryz.f11, Option.getD_some, regOf] at hc
  injection hc with hc
  subst hc
  go_wp2
  exact HQ.out _ ⟨rfl, rfl, rfl, rfl, rfl, rfl, rfl, rfl, rfl, rfl, rfl, rfl, rfl, rfl, rfl⟩
theorem xp_r1 {K : Act → World → Prop} {c : Code} (hc : regOf (Tryz.f11.body.getD .skip) 1 = some c) (a : Act) {v : Vxp} {wq : World} {p : ByteArray} {b : Bool} (hF : Fxp a v) (h1v : v.v1 = .string p) (hE : Calls Tryz.prog 28 #[.string p] wq fun e w' => e = .returned (.bool b) ∧ w' = wq)
    (hQ : ∀ a' w' , Fxp a' { v with v12 := .bool b } → w' = wq → K a' w') :
    Code.wp Tryz.prog c (Exit.then K fun _ _ _ => False) a wq := by
  have HQ := hide hQ
  clear hQ
  obtain ⟨v0, v1, v2, v3, v4, v10, v11, v12, v13, v14, v15, v16, v17⟩ := v
  simp only at h1v HQ
  subst h1v
  obtain ⟨u, rfl⟩ := frx_xp hF
  clear hF
  simp only [Tryz.f11, Option.getD_some, regOf] at hc
  injection hc with hc
  subst hc
  have HE := hide hE
  clear hE
  go_wp2_with (go_at_call 28; refine HE.out.mono ?_; rintro e w1 ⟨rfl, r1⟩; have R1 := hide r1; clear r1)
  exact HQ.out _ _ ⟨rfl, rfl, rfl, rfl, rfl, rfl, rfl, rfl, rfl, rfl, rfl, rfl, rfl, rfl, rfl⟩ R1.out
theorem xp_r2a {K : Act → World → Prop} {c : Code} (hc : regOf (Tryz.f11.body.getD .skip) 2 = some c) (a : Act) {v : Vxp} {wq : World} {q : Int} {k vl : ByteArray} (hF : Fxp a v) (h2v : v.v2 = .int .i64 q) (h3v : v.v3 = .string k) (h4v : v.v4 = .string vl) (h12v : v.v12 = .bool true) (h1 : 0 ≤ q) (h2 : q ≤ 9007199254740991) (h3 : k.size ≤ 100) (h4 : vl.size ≤ 1000)
    (hQ : ∀ a', Fxp a' v → a'.tmps.getD 39 undef = .bool false → K a' wq) :
    Code.wp Tryz.prog c (Exit.then K fun _ _ _ => False) a wq := by
  have HQ := hide hQ
  clear hQ
  obtain ⟨v0, v1, v2, v3, v4, v10, v11, v12, v13, v14, v15, v16, v17⟩ := v
  simp only at h2v h3v h4v h12v HQ
  subst h2v h3v h4v h12v
  obtain ⟨u, rfl⟩ := frx_xp hF
  clear hF
  simp only [Tryz.f11, Option.getD_some, regOf] at hc
  injection hc with hc
  subst hc
  have g1 : ¬ q < 0 := by omega
  have g2 : ¬ q > 9007199254740991 := by omega
  have g3 : ¬ (k.size : Int) > 100 := by omega
  have g4 : ¬ (vl.size : Int) > 1000 := by omega
  have g5 : decide ((1000 : Int) < (vl.size : Int)) = false := decide_eq_false (by omega)
  go_wp2
  exact HQ.out _ ⟨rfl, rfl, rfl, rfl, rfl, rfl, rfl, rfl, rfl, rfl, rfl, rfl, rfl, rfl, rfl⟩ (by first | rfl | (simp; done) | (simp; omega))
theorem xp_r2b {K : Act → World → Prop} {c : Code} (hc : regOf (Tryz.f11.body.getD .skip) 2 = some c) (a : Act) {v : Vxp} {wq : World} {q : Int} {k vl : ByteArray} {b : Bool} (hF : Fxp a v) (h2v : v.v2 = .int .i64 q) (h3v : v.v3 = .string k) (h4v : v.v4 = .string vl) (h12v : v.v12 = .bool b) (hb : b = false ∨ q < 0 ∨ q > 9007199254740991 ∨ k.size > 100 ∨ vl.size > 1000)
    (hQ : ∀ a', Fxp a' v → a'.tmps.getD 39 undef = .bool true → K a' wq) :
    Code.wp Tryz.prog c (Exit.then K fun _ _ _ => False) a wq := by
  have HQ := hide hQ
  clear hQ
  obtain ⟨v0, v1, v2, v3, v4, v10, v11, v12, v13, v14, v15, v16, v17⟩ := v
  simp only at h2v h3v h4v h12v HQ
  subst h2v h3v h4v h12v
  obtain ⟨u, rfl⟩ := frx_xp hF
  clear hF
  simp only [Tryz.f11, Option.getD_some, regOf] at hc
  injection hc with hc
  subst hc
  cases b with
  | false =>
    clear hb
    go_wp2
    exact HQ.out _ ⟨rfl, rfl, rfl, rfl, rfl, rfl, rfl, rfl, rfl, rfl, rfl, rfl, rfl, rfl, rfl⟩ (by first | rfl | (simp; done) | (simp; omega))
  | true =>
    by_cases g1 : q < 0
    · clear hb
      go_wp2
      exact HQ.out _ ⟨rfl, rfl, rfl, rfl, rfl, rfl, rfl, rfl, rfl, rfl, rfl, rfl, rfl, rfl, rfl⟩ (by first | rfl | (simp; done) | (simp; omega))
    · by_cases g2 : q > 9007199254740991
      · clear hb
        go_wp2
        exact HQ.out _ ⟨rfl, rfl, rfl, rfl, rfl, rfl, rfl, rfl, rfl, rfl, rfl, rfl, rfl, rfl, rfl⟩ (by first | rfl | (simp; done) | (simp; omega))
      · by_cases g3 : (k.size : Int) > 100
        · clear hb
          go_wp2
          exact HQ.out _ ⟨rfl, rfl, rfl, rfl, rfl, rfl, rfl, rfl, rfl, rfl, rfl, rfl, rfl, rfl, rfl⟩ (by first | rfl | (simp; done) | (simp; omega))
        · have g4 : (vl.size : Int) > 1000 := by
            rcases hb with h | h | h | h | h
            · cases h
            · exact absurd h g1
            · exact absurd h g2
            · omega
            · omega
          have g5 : decide ((1000 : Int) < (vl.size : Int)) = true := decide_eq_true (by omega)
          clear hb
          go_wp2
          exact HQ.out _ ⟨rfl, rfl, rfl, rfl, rfl, rfl, rfl, rfl, rfl, rfl, rfl, rfl, rfl, rfl, rfl⟩ (by first | rfl | (simp; done) | (simp; omega))
theorem xp_r3 {K : Act → World → Prop} {c : Code} (hc : regOf (Tryz.f11.body.getD .skip) 3 = some c) (a : Act) {v : Vxp} {wq : World}  (hF : Fxp a v) (hQ : ∀ a', Fxp a' { v with v10 := .int .i64 0, v11 := .int .i64 7 } → K a' wq) :
    Code.wp Tryz.prog c (Exit.then K fun _ _ _ => False) a wq := by
  have HQ := hide hQ
  clear hQ
  obtain ⟨v0, v1, v2, v3, v4, v10, v11, v12, v13, v14, v15, v16, v17⟩ := v
  obtain ⟨u, rfl⟩ := frx_xp hF
  clear hF
  simp only [Tryz.f11, Option.getD_some, regOf] at hc
  injection hc with hc
  subst hc
  go_wp2
  exact HQ.out _ ⟨rfl, rfl, rfl, rfl, rfl, rfl, rfl, rfl, rfl, rfl, rfl, rfl, rfl, rfl, rfl⟩
theorem xp_r8 {K : Act → World → Prop} {c : Code} (hc : regOf (Tryz.f11.body.getD .skip) 8 = some c) (a : Act) {v : Vxp} {wq : World}  (hF : Fxp a v) (hQ : ∀ a', Fxp a' { v with v10 := .int .i64 0, v11 := .int .i64 6 } → K a' wq) :
    Code.wp Tryz.prog c (Exit.then K fun _ _ _ => False) a wq := by
  have HQ := hide hQ
  clear hQ
  obtain ⟨v0, v1, v2, v3, v4, v10, v11, v12, v13, v14, v15, v16, v17⟩ := v
  obtain ⟨u, rfl⟩ := frx_xp hF
  clear hF
  simp only [Tryz.f11, Option.getD_some, regOf] at hc
  injection hc with hc
  subst hc
  go_wp2
  exact HQ.out _ ⟨rfl, rfl, rfl, rfl, rfl, rfl, rfl, rfl, rfl, rfl, rfl, rfl, rfl, rfl, rfl⟩
theorem xp_r4 {K : Act → World → Prop} {c : Code} (hc : regOf (Tryz.f11.body.getD .skip) 4 = some c) (a : Act) {v : Vxp} {wq : World} {xb : Nat} {p : ByteArray} {fk : Nat} {ft : Bool} (hF : Fxp a v) (h0v : v.v0 = .pointer (some ⟨xb, 0, none⟩)) (h1v : v.v1 = .string p) (hE : Calls Tryz.prog 32 #[.pointer (some ⟨xb, 0, none⟩), .string p] wq fun e w' => e = .returned (.tuple #[.int .i64 (fk : Int), .bool ft]) ∧ Below wq.heap.size wq w')
    (hQ : ∀ a' w' , Fxp a' { v with v13 := .int .i64 (fk : Int), v14 := .bool ft } → Below wq.heap.size wq w' → K a' w') :
    Code.wp Tryz.prog c (Exit.then K fun _ _ _ => False) a wq := by
  have HQ := hide hQ
  clear hQ
  obtain ⟨v0, v1, v2, v3, v4, v10, v11, v12, v13, v14, v15, v16, v17⟩ := v
  simp only at h0v h1v HQ
  subst h0v h1v
  obtain ⟨u, rfl⟩ := frx_xp hF
  clear hF
  simp only [Tryz.f11, Option.getD_some, regOf] at hc
  injection hc with hc
  subst hc
  have HE := hide hE
  clear hE
  go_wp2_with (go_at_call 32; refine HE.out.mono ?_; rintro e w1 ⟨rfl, r1⟩; have R1 := hide r1; clear r1)
  exact HQ.out _ _ ⟨rfl, rfl, rfl, rfl, rfl, rfl, rfl, rfl, rfl, rfl, rfl, rfl, rfl, rfl, rfl⟩ R1.out
theorem xp_r5b {K : Act → World → Prop} {c : Code} (hc : regOf (Tryz.f11.body.getD .skip) 5 = some c) (a : Act) {v : Vxp} {wq : World}  (hF : Fxp a v) (h14v : v.v14 = .bool false) (hQ : ∀ a', Fxp a' v → a'.tmps.getD 58 undef = .bool false → K a' wq) :
    Code.wp Tryz.prog c (Exit.then K fun _ _ _ => False) a wq := by
  have HQ := hide hQ
  clear hQ
  obtain ⟨v0, v1, v2, v3, v4, v10, v11, v12, v13, v14, v15, v16, v17⟩ := v
  simp only at h14v HQ
  subst h14v
  obtain ⟨u, rfl⟩ := frx_xp hF
  clear hF
  simp only [Tryz.f11, Option.getD_some, regOf] at hc
  injection hc with hc
  subst hc
  go_wp2
  exact HQ.out _ ⟨rfl, rfl, rfl, rfl, rfl, rfl, rfl, rfl, rfl, rfl, rfl, rfl, rfl, rfl, rfl⟩ (by first | rfl | (simp; done))
theorem xp_r7b {K : Act → World → Prop} {c : Code} (hc : regOf (Tryz.f11.body.getD .skip) 7 = some c) (a : Act) {v : Vxp} {wq : World}  (hF : Fxp a v) (h14v : v.v14 = .bool false) (hQ : ∀ a', Fxp a' v → a'.tmps.getD 79 undef = .bool false → K a' wq) :
    Code.wp Tryz.prog c (Exit.then K fun _ _ _ => False) a wq := by
  have HQ := hide hQ
  clear hQ
  obtain ⟨v0, v1, v2, v3, v4, v10, v11, v12, v13, v14, v15, v16, v17⟩ := v
  simp only at h14v HQ
  subst h14v
  obtain ⟨u, rfl⟩ := frx_xp hF
  clear hF
  simp only [Tryz.f11, Option.getD_some, regOf] at hc
  injection hc with hc
  subst hc
  go_wp2
  exact HQ.out _ ⟨rfl, rfl, rfl, rfl, rfl, rfl, rfl, rfl, rfl, rfl, rfl, rfl, rfl, rfl, rfl⟩ (by first | rfl | (simp; done))
theorem xp_r5a {K : Act → World → Prop} {c : Code} (hc : regOf (Tryz.f11.body.getD .skip) 5 = some c) (a : Act) {v : Vxp} {wq : World} {xb pb po n pc fk : Nat} {q s5 : Int} (hF : Fxp a v) (h0v : v.v0 = .pointer (some ⟨xb, 0, none⟩)) (h2v : v.v2 = .int .i64 q) (h13v : v.v13 = .int .i64 (fk : Int)) (h14v : v.v14 = .bool true) (hk : fk < n) (hcb : wq.cell? ⟨xb, 3, none⟩ = some (.slice (some ⟨pb, po, none⟩) n pc)) (hs5 : wq.cell? ⟨pb, po + fk * 3 + 1, none⟩ = some (.int .i64 s5))
    (hQ : ∀ a', Fxp a' v → a'.tmps.getD 58 undef = .bool (s5 == q) → K a' wq) :
    Code.wp Tryz.prog c (Exit.then K fun _ _ _ => False) a wq := by
  have HQ := hide hQ
  clear hQ
  obtain ⟨v0, v1, v2, v3, v4, v10, v11, v12, v13, v14, v15, v16, v17⟩ := v
  simp only at h0v h2v h13v h14v HQ
  subst h0v h2v h13v h14v
  obtain ⟨u, rfl⟩ := frx_xp hF
  clear hF
  simp only [Tryz.f11, Option.getD_some, regOf] at hc
  injection hc with hc
  subst hc
  have e1 : (fk : Int) < (n : Int) := by omega
  go_wp2
  exact HQ.out _ ⟨rfl, rfl, rfl, rfl, rfl, rfl, rfl, rfl, rfl, rfl, rfl, rfl, rfl, rfl, rfl⟩ (by first | rfl | (simp; done))
theorem xp_r6 {K : Act → World → Prop} {c : Code} (hc : regOf (Tryz.f11.body.getD .skip) 6 = some c) (a : Act) {v : Vxp} {wq : World} {xb pb po n pc fk : Nat} {of : Int} (hF : Fxp a v) (h0v : v.v0 = .pointer (some ⟨xb, 0, none⟩)) (h13v : v.v13 = .int .i64 (fk : Int)) (hk : fk < n) (hcb : wq.cell? ⟨xb, 3, none⟩ = some (.slice (some ⟨pb, po, none⟩) n pc)) (hs5 : wq.cell? ⟨pb, po + fk * 3 + 2, none⟩ = some (.int .i64 of))
    (hQ : ∀ a', Fxp a' { v with v10 := .int .i64 of, v11 := .int .i64 0 } → K a' wq) :
    Code.wp Tryz.prog c (Exit.then K fun _ _ _ => False) a wq := by
  have HQ := hide hQ
  clear hQ
  obtain ⟨v0, v1, v2, v3, v4, v10, v11, v12, v13, v14, v15, v16, v17⟩ := v
  simp only at h0v h13v HQ
  subst h0v h13v
  obtain ⟨u, rfl⟩ := frx_xp hF
  clear hF
  simp only [Tryz.f11, Option.getD_some, regOf] at hc
  injection hc with hc
  subst hc
  have e1 : (fk : Int) < (n : Int) := by omega
  go_wp2
  exact HQ.out _ ⟨rfl, rfl, rfl, rfl, rfl, rfl, rfl, rfl, rfl, rfl, rfl, rfl, rfl, rfl, rfl⟩
theorem xp_r7t {K : Act → World → Prop} {c : Code} (hc : regOf (Tryz.f11.body.getD .skip) 7 = some c) (a : Act) {v : Vxp} {wq : World} {xb pb po n pc fk : Nat} {q s5 : Int} (hF : Fxp a v) (h0v : v.v0 = .pointer (some ⟨xb, 0, none⟩)) (h2v : v.v2 = .int .i64 q) (h13v : v.v13 = .int .i64 (fk : Int)) (h14v : v.v14 = .bool true) (hk : fk < n) (hcb : wq.cell? ⟨xb, 3, none⟩ = some (.slice (some ⟨pb, po, none⟩) n pc)) (hs5 : wq.cell? ⟨pb, po + fk * 3 + 1, none⟩ = some (.int .i64 s5)) (hlt : q < s5)
    (hQ : ∀ a', Fxp a' v → a'.tmps.getD 79 undef = .bool true → K a' wq) :
    Code.wp Tryz.prog c (Exit.then K fun _ _ _ => False) a wq := by
  have HQ := hide hQ
  clear hQ
  obtain ⟨v0, v1, v2, v3, v4, v10, v11, v12, v13, v14, v15, v16, v17⟩ := v
  simp only at h0v h2v h13v h14v HQ
  subst h0v h2v h13v h14v
  obtain ⟨u, rfl⟩ := frx_xp hF
  clear hF
  simp only [Tryz.f11, Option.getD_some, regOf] at hc
  injection hc with hc
  subst hc
  have g1 : s5 > q := hlt
  have g2 : decide (q < s5) = true := decide_eq_true hlt
  have e1 : (fk : Int) < (n : Int) := by omega
  go_wp2
  exact HQ.out _ ⟨rfl, rfl, rfl, rfl, rfl, rfl, rfl, rfl, rfl, rfl, rfl, rfl, rfl, rfl, rfl⟩ (by first | rfl | (simp; done))
theorem xp_r7f {K : Act → World → Prop} {c : Code} (hc : regOf (Tryz.f11.body.getD .skip) 7 = some c) (a : Act) {v : Vxp} {wq : World} {xb pb po n pc fk : Nat} {q s5 : Int} (hF : Fxp a v) (h0v : v.v0 = .pointer (some ⟨xb, 0, none⟩)) (h2v : v.v2 = .int .i64 q) (h13v : v.v13 = .int .i64 (fk : Int)) (h14v : v.v14 = .bool true) (hk : fk < n) (hcb : wq.cell? ⟨xb, 3, none⟩ = some (.slice (some ⟨pb, po, none⟩) n pc)) (hs5 : wq.cell? ⟨pb, po + fk * 3 + 1, none⟩ = some (.int .i64 s5)) (hlt : ¬ q < s5)
    (hQ : ∀ a', Fxp a' v → a'.tmps.getD 79 undef = .bool false → K a' wq) :
    Code.wp Tryz.prog c (Exit.then K fun _ _ _ => False) a wq := by
  have HQ := hide hQ
  clear hQ
  obtain ⟨v0, v1, v2, v3, v4, v10, v11, v12, v13, v14, v15, v16, v17⟩ := v
  simp only at h0v h2v h13v h14v HQ
  subst h0v h2v h13v h14v
  obtain ⟨u, rfl⟩ := frx_xp hF
  clear hF
  simp only [Tryz.f11, Option.getD_some, regOf] at hc
  injection hc with hc
  subst hc
  have g1 : ¬ s5 > q := hlt
  have g2 : decide (q < s5) = false := decide_eq_false hlt
  have e1 : (fk : Int) < (n : Int) := by omega
  go_wp2
  exact HQ.out _ ⟨rfl, rfl, rfl, rfl, rfl, rfl, rfl, rfl, rfl, rfl, rfl, rfl, rfl, rfl, rfl⟩ (by first | rfl | (simp; done))
theorem xp_r9 {K : Act → World → Prop} {c : Code} (hc : regOf (Tryz.f11.body.getD .skip) 9 = some c) (a : Act) {v : Vxp} {wq : World} {xb : Nat} {p : ByteArray} {q fi : Int} (hF : Fxp a v) (h0v : v.v0 = .pointer (some ⟨xb, 0, none⟩)) (h1v : v.v1 = .string p) (h2v : v.v2 = .int .i64 q) (hcb : wq.cell? ⟨xb, 2, none⟩ = some (.int .i64 fi))
    (hQ : ∀ a', Fxp a' { v with v15 := .pointer (some ⟨wq.heap.size, 0, none⟩) } → K a' (wq.alloc (.cells #[.string p, .int .i64 q, .int .i64 fi] 64))) :
    Code.wp Tryz.prog c (Exit.then K fun _ _ _ => False) a wq := by
  have HQ := hide hQ
  clear hQ
  obtain ⟨v0, v1, v2, v3, v4, v10, v11, v12, v13, v14, v15, v16, v17⟩ := v
  simp only at h0v h1v h2v HQ
  subst h0v h1v h2v
  obtain ⟨u, rfl⟩ := frx_xp hF
  clear hF
  simp only [Tryz.f11, Option.getD_some, regOf] at hc
  injection hc with hc
  subst hc
  go_wp2
  exact HQ.out _ ⟨rfl, rfl, rfl, rfl, rfl, rfl, rfl, rfl, rfl, rfl, rfl, rfl, rfl, rfl, rfl⟩
theorem xp_r10 {K : Act → World → Prop} {c : Code} (hc : regOf (Tryz.f11.body.getD .skip) 10 = some c) (a : Act) {v : Vxp} {wq : World}  (hF : Fxp a v) (hQ : ∀ a', Fxp a' { v with v16 := .slice none 0 0 } → K a' wq) :
    Code.wp Tryz.prog c (Exit.then K fun _ _ _ => False) a wq := by
  have HQ := hide hQ
  clear hQ
  obtain ⟨v0, v1, v2, v3, v4, v10, v11, v12, v13, v14, v15, v16, v17⟩ := v
  obtain ⟨u, rfl⟩ := frx_xp hF
  clear hF
  simp only [Tryz.f11, Option.getD_some, regOf] at hc
  injection hc with hc
  subst hc
  go_wp2
  exact HQ.out _ ⟨rfl, rfl, rfl, rfl, rfl, rfl, rfl, rfl, rfl, rfl, rfl, rfl, rfl, rfl, rfl⟩
theorem xp_r16 {K : Act → World → Prop} {c : Code} (hc : regOf (Tryz.f11.body.getD .skip) 16 = some c) (a : Act) {v : Vxp} {wq : World}  (hF : Fxp a v) (hQ : ∀ a', Fxp a' { v with v17 := .slice none 0 0 } → K a' wq) :
    Code.wp Tryz.prog c (Exit.then K fun _ _ _ => False) a wq := by
  have HQ := hide hQ
  clear hQ
  obtain ⟨v0, v1, v2, v3, v4, v10, v11, v12, v13, v14, v15, v16, v17⟩ := v
  obtain ⟨u, rfl⟩ := frx_xp hF
  clear hF
  simp only [Tryz.f11, Option.getD_some, regOf] at hc
  injection hc with hc
  subst hc
  go_wp2
  exact HQ.out _ ⟨rfl, rfl, rfl, rfl, rfl, rfl, rfl, rfl, rfl, rfl, rfl, rfl, rfl, rfl, rfl⟩
theorem xp_r11 {K : Act → World → Prop} {c : Code} (hc : regOf (Tryz.f11.body.getD .skip) 11 = some c) (a : Act) {v : Vxp} {wq : World} {xb n pc fk pc2 tn tc : Nat} {po po2 to_ : Option Addr} {w1 : World} (hF : Fxp a v) (h0v : v.v0 = .pointer (some ⟨xb, 0, none⟩)) (h13v : v.v13 = .int .i64 (fk : Int)) (h16v : v.v16 = .slice none 0 0) (hcb : wq.cell? ⟨xb, 3, none⟩ = some (.slice po n pc)) (hsl : ∀ W, (Instr.slice 42 (.slice po n pc) none (some (.int .i64 (fk : Int))) none).run Tryz.prog W = .ok (.slice po2 fk pc2) W) (hA : (Builtin.append_ #[42, 42] 42 #[.slice none 0 0, .slice po2 fk pc2]).run Tryz.prog wq = .ok (.slice to_ tn tc) w1)
    (hQ : ∀ a', Fxp a' { v with v16 := .slice to_ tn tc } → K a' w1) :
    Code.wp Tryz.prog c (Exit.then K fun _ _ _ => False) a wq := by
  have HQ := hide hQ
  clear hQ
  obtain ⟨v0, v1, v2, v3, v4, v10, v11, v12, v13, v14, v15, v16, v17⟩ := v
  simp only at h0v h13v h16v HQ
  subst h0v h13v h16v
  obtain ⟨u, rfl⟩ := frx_xp hF
  clear hF
  simp only [Tryz.f11, Option.getD_some, regOf] at hc
  injection hc with hc
  subst hc
  have HA := hide hA
  clear hA
  go_wp2_with (at_builtin; refine wpList_append_run rfl _ _ 42 rfl _ _ _ rfl rfl HA.out ?_)
  exact HQ.out _ ⟨rfl, rfl, rfl, rfl, rfl, rfl, rfl, rfl, rfl, rfl, rfl, rfl, rfl, rfl, rfl⟩
theorem xp_r12 {K : Act → World → Prop} {c : Code} (hc : regOf (Tryz.f11.body.getD .skip) 12 = some c) (a : Act) {v : Vxp} {wq : World} {pb tn tc tn2 tc2 : Nat} {to_ to2 : Option Addr} {p : ByteArray} {q fi : Int} {w1 : World} (hF : Fxp a v) (h15v : v.v15 = .pointer (some ⟨pb, 0, none⟩)) (h16v : v.v16 = .slice to_ tn tc) (hP0 : wq.cell? ⟨pb, 0, none⟩ = some (.string p)) (hP1 : wq.cell? ⟨pb, 1, none⟩ = some (.int .i64 q)) (hP2 : wq.cell? ⟨pb, 2, none⟩ = some (.int .i64 fi)) (hA : (Builtin.append_ #[42, 42] 42 #[.slice to_ tn tc, .slice (some ⟨wq.heap.size, 0, none⟩) 1 1]).run Tryz.prog (wq.alloc (.cells #[.string p, .int .i64 q, .int .i64 fi] 64)) = .ok (.slice to2 tn2 tc2) w1)
    (hQ : ∀ a', Fxp a' { v with v16 := .slice to2 tn2 tc2 } → K a' w1) :
    Code.wp Tryz.prog c (Exit.then K fun _ _ _ => False) a wq := by
  have HQ := hide hQ
  clear hQ
  obtain ⟨v0, v1, v2, v3, v4, v10, v11, v12, v13, v14, v15, v16, v17⟩ := v
  simp only at h15v h16v HQ
  subst h15v h16v
  obtain ⟨u, rfl⟩ := frx_xp hF
  clear hF
  simp only [Tryz.f11, Option.getD_some, regOf] at hc
  injection hc with hc
  subst hc
  have HA := hide hA
  clear hA
  go_wp2_with (at_builtin; refine wpList_append_run rfl _ _ 42 rfl _ _ _ rfl rfl HA.out ?_)
  exact HQ.out _ ⟨rfl, rfl, rfl, rfl, rfl, rfl, rfl, rfl, rfl, rfl, rfl, rfl, rfl, rfl, rfl⟩
theorem xp_r13 {K : Act → World → Prop} {c : Code} (hc : regOf (Tryz.f11.body.getD .skip) 13 = some c) (a : Act) {v : Vxp} {wq : World} {b : Bool} (hF : Fxp a v) (h14v : v.v14 = .bool b) (hQ : ∀ a', Fxp a' v → a'.tmps.getD 99 undef = .bool b → K a' wq) :
    Code.wp Tryz.prog c (Exit.then K fun _ _ _ => False) a wq := by
  have HQ := hide hQ
  clear hQ
  obtain ⟨v0, v1, v2, v3, v4, v10, v11, v12, v13, v14, v15, v16, v17⟩ := v
  simp only at h14v HQ
  subst h14v
  obtain ⟨u, rfl⟩ := frx_xp hF
  clear hF
  simp only [Tryz.f11, Option.getD_some, regOf] at hc
  injection hc with hc
  subst hc
  go_wp2
  exact HQ.out _ ⟨rfl, rfl, rfl, rfl, rfl, rfl, rfl, rfl, rfl, rfl, rfl, rfl, rfl, rfl, rfl⟩ (by first | rfl | (simp; done))
theorem xp_r14 {K : Act → World → Prop} {c : Code} (hc : regOf (Tryz.f11.body.getD .skip) 14 = some c) (a : Act) {v : Vxp} {wq : World} {i : Nat} (hF : Fxp a v) (h13v : v.v13 = .int .i64 (i : Int)) (hi : i ≤ 1000000)
    (hQ : ∀ a', Fxp a' { v with v13 := .int .i64 ((i + 1 : Nat) : Int) } → K a' wq) :
    Code.wp Tryz.prog c (Exit.then K fun _ _ _ => False) a wq := by
  have HQ := hide hQ
  clear hQ
  obtain ⟨v0, v1, v2, v3, v4, v10, v11, v12, v13, v14, v15, v16, v17⟩ := v
  simp only at h13v HQ
  subst h13v
  obtain ⟨u, rfl⟩ := frx_xp hF
  clear hF
  simp only [Tryz.f11, Option.getD_some, regOf] at hc
  injection hc with hc
  subst hc
  go_wp2
  exact HQ.out _ ⟨rfl, rfl, rfl, rfl, rfl, rfl, rfl, rfl, rfl, rfl, (by first | rfl | (simp; done) | (go_num; done)), rfl, rfl, rfl, rfl⟩
theorem xp_r15 {K : Act → World → Prop} {c : Code} (hc : regOf (Tryz.f11.body.getD .skip) 15 = some c) (a : Act) {v : Vxp} {wq : World} {xb n pc fk m2 pc2 tn tc tn2 tc2 : Nat} {po po2 to_ to2 : Option Addr} {c0 c1 c2 c3 c4 : Value} {w1 : World} (hF : Fxp a v) (h0v : v.v0 = .pointer (some ⟨xb, 0, none⟩)) (h13v : v.v13 = .int .i64 (fk : Int)) (h16v : v.v16 = .slice to_ tn tc) (hcb : wq.cell? ⟨xb, 3, none⟩ = some (.slice po n pc)) (hsl : ∀ W, (Instr.slice 42 (.slice po n pc) (some (.int .i64 (fk : Int))) none none).run Tryz.prog W = .ok (.slice po2 m2 pc2) W) (hA : (Builtin.append_ #[42, 42] 42 #[.slice to_ tn tc, .slice po2 m2 pc2]).run Tryz.prog wq = .ok (.slice to2 tn2 tc2) w1) (hB : w1.heap[xb]? = some (.cells #[c0, c1, c2, c3, c4] 44 (0, 0))) 
    (hQ : ∀ a', Fxp a' v → K a' (w1.setCell ⟨xb, 3, none⟩ (.slice to2 tn2 tc2))) :
    Code.wp Tryz.prog c (Exit.then K fun _ _ _ => False) a wq := by
  have HQ := hide hQ
  clear hQ
  obtain ⟨v0, v1, v2, v3, v4, v10, v11, v12, v13, v14, v15, v16, v17⟩ := v
  simp only at h0v h13v h16v HQ
  subst h0v h13v h16v
  obtain ⟨u, rfl⟩ := frx_xp hF
  clear hF
  simp only [Tryz.f11, Option.getD_some, regOf] at hc
  injection hc with hc
  subst hc
  have HA := hide hA
  clear hA
  obtain ⟨z0, z1, z2, z3, z4⟩ : (w1.cell? ⟨xb, 0, none⟩ = some c0) ∧ (w1.cell? ⟨xb, 1, none⟩ = some c1) ∧ (w1.cell? ⟨xb, 2, none⟩ = some c2) ∧ (w1.cell? ⟨xb, 3, none⟩ = some c3) ∧ (w1.cell? ⟨xb, 4, none⟩ = some c4) := ⟨box_cell hB 0 rfl, box_cell hB 1 rfl, box_cell hB 2 rfl, box_cell hB 3 rfl, box_cell hB 4 rfl⟩
  have f2 := box_free hB 2
  have f3 := box_free hB 3
  have f4 := box_free hB 4
  clear hB
  go_wp2_with (at_builtin; refine wpList_append_run rfl _ _ 42 rfl _ _ _ rfl rfl HA.out ?_)
  exact HQ.out _ ⟨rfl, rfl, rfl, rfl, rfl, rfl, rfl, rfl, rfl, rfl, rfl, rfl, rfl, rfl, rfl⟩
theorem xp_r17 {K : Act → World → Prop} {c : Code} (hc : regOf (Tryz.f11.body.getD .skip) 17 = some c) (a : Act) {v : Vxp} {wq : World} {xb n pc tn tc : Nat} {po to_ : Option Addr} {w1 : World} (hF : Fxp a v) (h0v : v.v0 = .pointer (some ⟨xb, 0, none⟩)) (h17v : v.v17 = .slice none 0 0) (hcb : wq.cell? ⟨xb, 4, none⟩ = some (.slice po n pc)) (hA : (Builtin.append_ #[35, 35] 35 #[.slice none 0 0, .slice po n pc]).run Tryz.prog wq = .ok (.slice to_ tn tc) w1)
    (hQ : ∀ a', Fxp a' { v with v17 := .slice to_ tn tc } → K a' w1) :
    Code.wp Tryz.prog c (Exit.then K fun _ _ _ => False) a wq := by
  have HQ := hide hQ
  clear hQ
  obtain ⟨v0, v1, v2, v3, v4, v10, v11, v12, v13, v14, v15, v16, v17⟩ := v
  simp only at h0v h17v HQ
  subst h0v h17v
  obtain ⟨u, rfl⟩ := frx_xp hF
  clear hF
  simp only [Tryz.f11, Option.getD_some, regOf] at hc
  injection hc with hc
  subst hc
  have HA := hide hA
  clear hA
  go_wp2_with (at_builtin; refine wpList_append_run rfl _ _ 35 rfl _ _ _ rfl rfl HA.out ?_)
  exact HQ.out _ ⟨rfl, rfl, rfl, rfl, rfl, rfl, rfl, rfl, rfl, rfl, rfl, rfl, rfl, rfl, rfl⟩
theorem xp_r18 {K : Act → World → Prop} {c : Code} (hc : regOf (Tryz.f11.body.getD .skip) 18 = some c) (a : Act) {v : Vxp} {wq : World} {xb tn tc tn2 tc2 : Nat} {to_ to2 : Option Addr} {p k vl : ByteArray} {q fi : Int} {c0 c1 c2 c3 c4 : Value} {w1 : World} (hF : Fxp a v) (h0v : v.v0 = .pointer (some ⟨xb, 0, none⟩)) (h1v : v.v1 = .string p) (h2v : v.v2 = .int .i64 q) (h3v : v.v3 = .string k) (h4v : v.v4 = .string vl) (h17v : v.v17 = .slice to_ tn tc) (hcb : wq.cell? ⟨xb, 2, none⟩ = some (.int .i64 fi)) (hA : (Builtin.append_ #[35, 35] 35 #[.slice to_ tn tc, .slice (some ⟨wq.heap.size, 0, none⟩) 1 1]).run Tryz.prog (wq.alloc (.cells #[.int .i64 fi, .string p, .int .i64 q, .string k, .string vl] 39)) = .ok (.slice to2 tn2 tc2) w1) (hB : w1.heap[xb]? = some (.cells #[c0, c1, c2, c3, c4] 44 (0, 0))) 
    (hQ : ∀ a', Fxp a' v → K a' (w1.setCell ⟨xb, 4, none⟩ (.slice to2 tn2 tc2))) :
    Code.wp Tryz.prog c (Exit.then K fun _ _ _ => False) a wq := by
  have HQ := hide hQ
  clear hQ
  obtain ⟨v0, v1, v2, v3, v4, v10, v11, v12, v13, v14, v15, v16, v17⟩ := v
  simp only at h0v h1v h2v h3v h4v h17v HQ
  subst h0v h1v h2v h3v h4v h17v
  obtain ⟨u, rfl⟩ := frx_xp hF
  clear hF
  simp only [Tryz.f11, Option.getD_some, regOf] at hc
  injection hc with hc
  subst hc
  have HA := hide hA
  clear hA
  obtain ⟨z0, z1, z2, z3, z4⟩ : (w1.cell? ⟨xb, 0, none⟩ = some c0) ∧ (w1.cell? ⟨xb, 1, none⟩ = some c1) ∧ (w1.cell? ⟨xb, 2, none⟩ = some c2) ∧ (w1.cell? ⟨xb, 3, none⟩ = some c3) ∧ (w1.cell? ⟨xb, 4, none⟩ = some c4) := ⟨box_cell hB 0 rfl, box_cell hB 1 rfl, box_cell hB 2 rfl, box_cell hB 3 rfl, box_cell hB 4 rfl⟩
  have f2 := box_free hB 2
  have f3 := box_free hB 3
  have f4 := box_free hB 4
  clear hB
  go_wp2_with (at_builtin; refine wpList_append_run rfl _ _ 35 rfl _ _ _ rfl rfl HA.out ?_)
  exact HQ.out _ ⟨rfl, rfl, rfl, rfl, rfl, rfl, rfl, rfl, rfl, rfl, rfl, rfl, rfl, rfl, rfl⟩
theorem xp_r19 {K : Act → World → Prop} {c : Code} (hc : regOf (Tryz.f11.body.getD .skip) 19 = some c) (a : Act) {v : Vxp} {wq : World} {xb : Nat} {fi : Int} {c0 c1 c3 c4 : Value} (hF : Fxp a v) (h0v : v.v0 = .pointer (some ⟨xb, 0, none⟩)) (hB : wq.heap[xb]? = some (.cells #[c0, c1, .int .i64 fi, c3, c4] 44 (0, 0))) (hf0 : -9223372036854775808 ≤ fi) (hf : fi ≤ 9223372036854775806)
    (hQ : ∀ a', Fxp a' v → K a' (wq.setCell ⟨xb, 2, none⟩ (.int .i64 (fi + 1)))) :
    Code.wp Tryz.prog c (Exit.then K fun _ _ _ => False) a wq := by
  have HQ := hide hQ
  clear hQ
  obtain ⟨v0, v1, v2, v3, v4, v10, v11, v12, v13, v14, v15, v16, v17⟩ := v
  simp only at h0v HQ
  subst h0v
  obtain ⟨u, rfl⟩ := frx_xp hF
  clear hF
  simp only [Tryz.f11, Option.getD_some, regOf] at hc
  injection hc with hc
  subst hc
  obtain ⟨z0, z1, z2, z3, z4⟩ : (wq.cell? ⟨xb, 0, none⟩ = some c0) ∧ (wq.cell? ⟨xb, 1, none⟩ = some c1) ∧ (wq.cell? ⟨xb, 2, none⟩ = some (.int .i64 fi)) ∧ (wq.cell? ⟨xb, 3, none⟩ = some c3) ∧ (wq.cell? ⟨xb, 4, none⟩ = some c4) := ⟨box_cell hB 0 rfl, box_cell hB 1 rfl, box_cell hB 2 rfl, box_cell hB 3 rfl, box_cell hB 4 rfl⟩
  have f2 := box_free hB 2
  have f3 := box_free hB 3
  have f4 := box_free hB 4
  clear hB
  go_wp2
  exact HQ.out _ ⟨rfl, rfl, rfl, rfl, rfl, rfl, rfl, rfl, rfl, rfl, rfl, rfl, rfl, rfl, rfl⟩
theorem xp_r20 {K : Act → World → Prop} {c : Code} (hc : regOf (Tryz.f11.body.getD .skip) 20 = some c) (a : Act) {v : Vxp} {wq : World} {pb : Nat} {fi : Int} (hF : Fxp a v) (h15v : v.v15 = .pointer (some ⟨pb, 0, none⟩)) (hP2 : wq.cell? ⟨pb, 2, none⟩ = some (.int .i64 fi))
    (hQ : ∀ a', Fxp a' { v with v10 := .int .i64 fi, v11 := .int .i64 0 } → K a' wq) :
    Code.wp Tryz.prog c (Exit.then K fun _ _ _ => False) a wq := by
  have HQ := hide hQ
  clear hQ
  obtain ⟨v0, v1, v2, v3, v4, v10, v11, v12, v13, v14, v15, v16, v17⟩ := v
  simp only at h15v HQ
  subst h15v
  obtain ⟨u, rfl⟩ := frx_xp hF
  clear hF
  simp only [Tryz.f11, Option.getD_some, regOf] at hc
  injection hc with hc
  subst hc
  go_wp2
  exact HQ.out _ ⟨rfl, rfl, rfl, rfl, rfl, rfl, rfl, rfl, rfl, rfl, rfl, rfl, rfl, rfl, rfl⟩
end Go.Proofs.YtmkkcgkakomacaaGreat.Y
