/-
  Wanted, as it runs (mkj9.py).
-/
import Derived.Test.YtlfodldlkchmoaaGreatZJ6
import Derived.Maps.AppendAt
namespace Go.Proofs.YtlfodldlkchmoaaGreat.Y
open Go.RowKit
set_option maxHeartbeats 8000000
set_option maxRecDepth 100000
attribute [local go_sem ↓] Go.wp_at_zero Go.wp_at_succ
set_option linter.unusedSimpArgs false
set_option linter.unusedVariables false
open Go.Maps
theorem wpList_append_runI {P : Program} {w w' : World} {ops : Array Oper} {rest : List Oper} {o : Oper} {a : Act} {Q : Exit → Act → World → Prop} (hgd : o.guard = none) (s x : Operand) (t : TypeId)
    (ho : o.op = .call { callee := .builtin .append, args := #[s, x], argTypes := #[t, t] }) (vs vx v' : Value) (hs : a.eval s = vs) (hx : a.eval x = vx) (hr : (Builtin.append_ #[t, t] o.type #[vs, vx]).run P w = .ok v' w')
    (h : wpList P ops Q rest (a.put o.dst v') w') : wpList P ops Q (o :: rest) a w := by
  refine wpList_plain hgd fun K hK => ?_
  unfold Oper.wp execOp
  simp only [ho, resolve, invoke, builtin, Sem.run_bind, Sem.run_pure, Result.andThen_ok, List.map_toArray, List.map_cons, List.map_nil, hs, hx, hr]
  exact hK _ _ h
theorem qi_news {w : World} {e : TypeId} {z m c : Nat} {ad : Addr} {news : List Value} (h : OwnsQ w e z (.slice (some ad) m c) m news) : ∀ (j : Nat) (x : Value), news[j]? = some x → w.cell? (ad.add j) = some x := by
  intro j x hj
  have hl : j < news.length := (List.getElem?_eq_some_iff.1 hj).1
  rw [h.1] at hl
  obtain ⟨off, hd, hc, _⟩ := h.cell
  rw [hd, Addr.add_lit, hc j hl]
  exact hj
theorem qi_lit {w : World} {e : TypeId} {z : Nat} {cs : Array Value} (hs : cs.size = z) : OwnsQ (w.alloc (.cells cs e)) e z (.slice (some ⟨w.heap.size, 0, none⟩) 1 1) 1 cs.toList :=
  ⟨by simp [hs], .inr ⟨w.heap.size, 0, 1, cs, rfl, heap_alloc_new _ _, Nat.le_refl _, by unfold maxLen; omega, by omega, fun j hj => by rw [Nat.zero_add, Array.getElem?_toList]⟩⟩
theorem gi_below {w w' : World} {B : Nat} {row : Option Nat} (hg : w.grownBy w' row) (hr : ∀ k, row = some k → B ≤ k) (hB : B ≤ w.heap.size) : Below B w w' :=
  ⟨hg.os, hg.tape, hg.output, hg.size, fun k hk => hg.block k (Nat.lt_of_lt_of_le hk hB) fun e => by have := hr k e.symm; omega⟩
theorem infoI : Tryz.prog.info? 3 = some Tryz.t3 := by kernel_rfl
theorem zeroI : Tryz.t3.zero = some (.int .i64 0) := by kernel_rfl
theorem sizeI : Tryz.t3.size = 1 := by kernel_rfl
theorem bytesI : Tryz.t3.bytes = 8 := by kernel_rfl
theorem app_int {w : World} {B n m oc xc : Nat} {oo : Option Addr} {ad : Addr} {xs news : List Value} (hown : w.ownsRow B 3 1 (.slice oo n oc) n xs) (hx : OwnsQ w 3 1 (.slice (some ad) m xc) m news) (h1 : ∀ u ∈ news, u.oneCell' = true) (hl : n + m ≤ 1000000) (hB : B ≤ w.heap.size) :
    ∃ to' tc' w', (Builtin.append_ #[60, 60] 60 #[.slice oo n oc, .slice (some ad) m xc]).run Tryz.prog w = .ok (.slice to' (n + m) tc') w' ∧ w'.ownsRow B 3 1 (.slice to' (n + m) tc') (n + m) (xs ++ news) ∧ w.grownBy w' (Value.slice oo n oc).ownBlock := by
  obtain ⟨v', w', hr, h2, h3, _, h4⟩ := run_append_own_at (P := Tryz.prog) w B 60 60 3 _ _ 1 8 Tryz.underlying60 infoI zeroI sizeI bytesI rfl (by decide) (.slice oo n oc) n xs hown ad m xc news hx.1 (qi_news hx) h1 (by unfold maxLen; omega) (by omega) hB
  obtain ⟨to', tc', rfl⟩ := row_slice h2
  exact ⟨to', tc', w', hr, h2, h3⟩
def wlist (l : List Bool) : List Nat := (List.range 7).filter fun i => l.getD i false
def wCells (l : List Nat) : List Value := l.map fun (k : Nat) => .int .i64 (k : Int)
theorem seven {l : List Bool} (h : l.length = 7) : ∃ a0 a1 a2 a3 a4 a5 a6, l = [a0, a1, a2, a3, a4, a5, a6] := by
  match l, h with
  | [a0, a1, a2, a3, a4, a5, a6], _ => exact ⟨_, _, _, _, _, _, _, rfl⟩
theorem wlist_length {l : List Bool} (h : l.length = 7) : (wlist l).length = wcount l := by
  obtain ⟨a0, a1, a2, a3, a4, a5, a6, rfl⟩ := seven h
  revert a0 a1 a2 a3 a4 a5 a6
  decide
def wArr (l : List Bool) : Array Value := #[.bool (l.getD 0 false), .bool (l.getD 1 false), .bool (l.getD 2 false), .bool (l.getD 3 false), .bool (l.getD 4 false), .bool (l.getD 5 false), .bool (l.getD 6 false)]
theorem index_w0 (l : List Bool) (w : World) : (Instr.index 65 (.agg (wArr l)) (.int .i64 0)).run Tryz.prog w = .ok (.bool (l.getD 0 false)) w := by kernel_rfl
theorem index_w1 (l : List Bool) (w : World) : (Instr.index 65 (.agg (wArr l)) (.int .i64 1)).run Tryz.prog w = .ok (.bool (l.getD 1 false)) w := by kernel_rfl
theorem index_w2 (l : List Bool) (w : World) : (Instr.index 65 (.agg (wArr l)) (.int .i64 2)).run Tryz.prog w = .ok (.bool (l.getD 2 false)) w := by kernel_rfl
theorem index_w3 (l : List Bool) (w : World) : (Instr.index 65 (.agg (wArr l)) (.int .i64 3)).run Tryz.prog w = .ok (.bool (l.getD 3 false)) w := by kernel_rfl
theorem index_w4 (l : List Bool) (w : World) : (Instr.index 65 (.agg (wArr l)) (.int .i64 4)).run Tryz.prog w = .ok (.bool (l.getD 4 false)) w := by kernel_rfl
theorem index_w5 (l : List Bool) (w : World) : (Instr.index 65 (.agg (wArr l)) (.int .i64 5)).run Tryz.prog w = .ok (.bool (l.getD 5 false)) w := by kernel_rfl
theorem index_w6 (l : List Bool) (w : World) : (Instr.index 65 (.agg (wArr l)) (.int .i64 6)).run Tryz.prog w = .ok (.bool (l.getD 6 false)) w := by kernel_rfl
theorem index_w (l : List Bool) (k : Nat) (hk : k < 7) (w : World) : (Instr.index 65 (.agg (wArr l)) (.int .i64 (k : Int))).run Tryz.prog w = .ok (.bool (l.getD k false)) w := by
  have h7 : k = 0 ∨ k = 1 ∨ k = 2 ∨ k = 3 ∨ k = 4 ∨ k = 5 ∨ k = 6 := by omega
  rcases h7 with rfl | rfl | rfl | rfl | rfl | rfl | rfl
  · exact index_w0 l w
  · exact index_w1 l w
  · exact index_w2 l w
  · exact index_w3 l w
  · exact index_w4 l w
  · exact index_w5 l w
  · exact index_w6 l w
theorem MAt.wcells {w : World} {L : LM} {X : MS} (h : MAt w L X) (k : Nat) (hk : k < 7) : w.cell? ⟨L.b, 3 + k, none⟩ = some (.bool (X.wan.getD k false)) := by
  have h7 : k = 0 ∨ k = 1 ∨ k = 2 ∨ k = 3 ∨ k = 4 ∨ k = 5 ∨ k = 6 := by omega
  rcases h7 with rfl | rfl | rfl | rfl | rfl | rfl | rfl
  · exact box_cell h.box 3 rfl
  · exact box_cell h.box 4 rfl
  · exact box_cell h.box 5 rfl
  · exact box_cell h.box 6 rfl
  · exact box_cell h.box 7 rfl
  · exact box_cell h.box 8 rfl
  · exact box_cell h.box 9 rfl
theorem frame_mq (t : Array Value) (h : t.size = 21) : ∃ u : Nat → Value, t = List.toArray (u 0 :: u 1 :: u 2 :: u 3 :: u 4 :: u 5 :: u 6 :: u 7 :: u 8 :: u 9 :: u 10 :: u 11 :: u 12 :: u 13 :: u 14 :: u 15 :: u 16 :: u 17 :: u 18 :: u 19 :: u 20 :: []) := by
  refine ⟨fun i => t.getD i undef, ?_⟩
  refine Eq.trans (b := ((List.range 21).map fun i => t.getD i undef).toArray) ?_ rfl
  apply Array.ext
  · simp [h]
  · intro k h1 h2
    simp [Array.getD, h1]
structure Vmq where
  v0 : Value
  v2 : Value
  v3 : Value
  v4 : Value
  v5 : Value
  v9 : Value
  v10 : Value
structure Fmq (a : Act) (v : Vmq) : Prop where
  size : a.tmps.size = 21
  defers : a.defers = []
  s0 : a.tmps.getD 0 undef = v.v0
  s2 : a.tmps.getD 2 undef = v.v2
  s3 : a.tmps.getD 3 undef = v.v3
  s4 : a.tmps.getD 4 undef = v.v4
  s5 : a.tmps.getD 5 undef = v.v5
  s9 : a.tmps.getD 9 undef = v.v9
  s10 : a.tmps.getD 10 undef = v.v10
theorem frx_mq {a : Act} {v0 v2 v3 v4 v5 v9 v10 : Value} (h : Fmq a ⟨v0, v2, v3, v4, v5, v9, v10⟩) : ∃ u : Nat → Value, a = ⟨List.toArray (v0 :: u 1 :: v2 :: v3 :: v4 :: v5 :: u 6 :: u 7 :: u 8 :: v9 :: v10 :: u 11 :: u 12 :: u 13 :: u 14 :: u 15 :: u 16 :: u 17 :: u 18 :: u 19 :: u 20 :: []), []⟩ := by
  obtain ⟨t', d'⟩ := a
  obtain ⟨hs, hd, q0, q2, q3, q4, q5, q9, q10⟩ := h
  obtain ⟨u, hu⟩ := frame_mq t' hs
  simp only at hd q0 q2 q3 q4 q5 q9 q10
  subst hu hd
  have e0 : u 0 = v0 := q0
  have e2 : u 2 = v2 := q2
  have e3 : u 3 = v3 := q3
  have e4 : u 4 = v4 := q4
  have e5 : u 5 = v5 := q5
  have e9 : u 9 = v9 := q9
  have e10 : u 10 = v10 := q10
  refine ⟨u, ?_⟩
  rw [e0, e2, e3, e4, e5, e9, e10]
theorem mq_r0 {K : Act → World → Prop} {c : Code} (hc : regOf (Tryz.f22.body.getD .skip) 0 = some c) (a : Act) {v : Vmq} {wq : World}  (hF : Fmq a v) (hQ : ∀ a', Fmq a' { v with v2 := .slice none 0 0 } → K a' wq) :
    Code.wp Tryz.prog c (Exit.then K fun _ _ _ => False) a wq := by
  have HQ := hide hQ
  clear hQ
  obtain ⟨v0, v2, v3, v4, v5, v9, v10⟩ := v
  obtain ⟨u, rfl⟩ := frx_mq hF
  clear hF
  simp only [Tryz.f22, Option.getD_some, regOf] at hc
  injection hc with hc
  subst hc
  go_wp2
  exact HQ.out _ ⟨rfl, rfl, rfl, rfl, rfl, rfl, rfl, rfl, rfl⟩
theorem mq_r1 {K : Act → World → Prop} {c : Code} (hc : regOf (Tryz.f22.body.getD .skip) 1 = some c) (a : Act) {v : Vmq} {wq : World}  (hF : Fmq a v) (hQ : ∀ a', Fmq a' { v with v3 := .slice none 0 0 } → K a' wq) :
    Code.wp Tryz.prog c (Exit.then K fun _ _ _ => False) a wq := by
  have HQ := hide hQ
  clear hQ
  obtain ⟨v0, v2, v3, v4, v5, v9, v10⟩ := v
  obtain ⟨u, rfl⟩ := frx_mq hF
  clear hF
  simp only [Tryz.f22, Option.getD_some, regOf] at hc
  injection hc with hc
  subst hc
  go_wp2
  exact HQ.out _ ⟨rfl, rfl, rfl, rfl, rfl, rfl, rfl, rfl, rfl⟩
theorem mq_r2 {K : Act → World → Prop} {c : Code} (hc : regOf (Tryz.f22.body.getD .skip) 2 = some c) (a : Act) {v : Vmq} {wq : World} {mb : Nat} {l : List Bool} (hF : Fmq a v) (h0v : v.v0 = .pointer (some ⟨mb, 0, none⟩)) (c0 : wq.cell? ⟨mb, 3, none⟩ = some (.bool (l.getD 0 false))) (c1 : wq.cell? ⟨mb, 4, none⟩ = some (.bool (l.getD 1 false))) (c2 : wq.cell? ⟨mb, 5, none⟩ = some (.bool (l.getD 2 false))) (c3 : wq.cell? ⟨mb, 6, none⟩ = some (.bool (l.getD 3 false))) (c4 : wq.cell? ⟨mb, 7, none⟩ = some (.bool (l.getD 4 false))) (c5 : wq.cell? ⟨mb, 8, none⟩ = some (.bool (l.getD 5 false))) (c6 : wq.cell? ⟨mb, 9, none⟩ = some (.bool (l.getD 6 false)))
    (hQ : ∀ a', Fmq a' { v with v9 := .agg #[.bool (l.getD 0 false), .bool (l.getD 1 false), .bool (l.getD 2 false), .bool (l.getD 3 false), .bool (l.getD 4 false), .bool (l.getD 5 false), .bool (l.getD 6 false)], v10 := .int .i64 ((0 : Nat) : Int) } → K a' wq) :
    Code.wp Tryz.prog c (Exit.then K fun _ _ _ => False) a wq := by
  have HQ := hide hQ
  clear hQ
  obtain ⟨v0, v2, v3, v4, v5, v9, v10⟩ := v
  simp only at h0v HQ
  subst h0v
  obtain ⟨u, rfl⟩ := frx_mq hF
  clear hF
  simp only [Tryz.f22, Option.getD_some, regOf] at hc
  injection hc with hc
  subst hc
  go_wp2
  exact HQ.out _ ⟨rfl, rfl, rfl, rfl, rfl, rfl, rfl, rfl, rfl⟩
theorem mq_r3 {K : Act → World → Prop} {c : Code} (hc : regOf (Tryz.f22.body.getD .skip) 3 = some c) (a : Act) {v : Vmq} {wq : World} {k : Nat} (hF : Fmq a v) (h10v : v.v10 = .int .i64 (k : Int)) (hQ : ∀ a', Fmq a' v → a'.tmps.getD 11 undef = .bool (decide ((k : Int) < 7)) → K a' wq) :
    Code.wp Tryz.prog c (Exit.then K fun _ _ _ => False) a wq := by
  have HQ := hide hQ
  clear hQ
  obtain ⟨v0, v2, v3, v4, v5, v9, v10⟩ := v
  simp only at h10v HQ
  subst h10v
  obtain ⟨u, rfl⟩ := frx_mq hF
  clear hF
  simp only [Tryz.f22, Option.getD_some, regOf] at hc
  injection hc with hc
  subst hc
  go_wp2
  exact HQ.out _ ⟨rfl, rfl, rfl, rfl, rfl, rfl, rfl, rfl, rfl⟩ (by first | rfl | (simp; done))
theorem mq_r4 {K : Act → World → Prop} {c : Code} (hc : regOf (Tryz.f22.body.getD .skip) 4 = some c) (a : Act) {v : Vmq} {wq : World} {k : Nat} {b : Bool} {A : Array Value} (hF : Fmq a v) (h9v : v.v9 = .agg A) (h10v : v.v10 = .int .i64 (k : Int)) (hI : (Instr.index 65 (.agg A) (.int .i64 (k : Int))).run Tryz.prog wq = .ok (.bool b) wq)
    (hQ : ∀ a', Fmq a' { v with v4 := .int .i64 (k : Int), v5 := .bool b } → K a' wq) :
    Code.wp Tryz.prog c (Exit.then K fun _ _ _ => False) a wq := by
  have HQ := hide hQ
  clear hQ
  obtain ⟨v0, v2, v3, v4, v5, v9, v10⟩ := v
  simp only at h9v h10v HQ
  subst h9v h10v
  obtain ⟨u, rfl⟩ := frx_mq hF
  clear hF
  simp only [Tryz.f22, Option.getD_some, regOf] at hc
  injection hc with hc
  subst hc
  go_wp2
  exact HQ.out _ ⟨rfl, rfl, rfl, rfl, rfl, rfl, rfl, rfl, rfl⟩
theorem mq_r5 {K : Act → World → Prop} {c : Code} (hc : regOf (Tryz.f22.body.getD .skip) 5 = some c) (a : Act) {v : Vmq} {wq : World} {b : Bool} (hF : Fmq a v) (h5v : v.v5 = .bool b) (hQ : ∀ a', Fmq a' v → a'.tmps.getD 14 undef = .bool b → K a' wq) :
    Code.wp Tryz.prog c (Exit.then K fun _ _ _ => False) a wq := by
  have HQ := hide hQ
  clear hQ
  obtain ⟨v0, v2, v3, v4, v5, v9, v10⟩ := v
  simp only at h5v HQ
  subst h5v
  obtain ⟨u, rfl⟩ := frx_mq hF
  clear hF
  simp only [Tryz.f22, Option.getD_some, regOf] at hc
  injection hc with hc
  subst hc
  go_wp2
  exact HQ.out _ ⟨rfl, rfl, rfl, rfl, rfl, rfl, rfl, rfl, rfl⟩ (by first | rfl | (simp; done))
theorem mq_r6 {K : Act → World → Prop} {c : Code} (hc : regOf (Tryz.f22.body.getD .skip) 6 = some c) (a : Act) {v : Vmq} {wq : World} {k m oc m2 oc2 : Nat} {oo oo2 : Option Addr} {w1 : World} (hF : Fmq a v) (h3v : v.v3 = .slice oo m oc) (h4v : v.v4 = .int .i64 (k : Int)) (hA : (Builtin.append_ #[60, 60] 60 #[.slice oo m oc, .slice (some ⟨wq.heap.size, 0, none⟩) 1 1]).run Tryz.prog (wq.alloc (.cells #[.int .i64 (k : Int)] 3)) = .ok (.slice oo2 m2 oc2) w1)
    (hQ : ∀ a', Fmq a' { v with v3 := .slice oo2 m2 oc2 } → K a' w1) :
    Code.wp Tryz.prog c (Exit.then K fun _ _ _ => False) a wq := by
  have HQ := hide hQ
  clear hQ
  obtain ⟨v0, v2, v3, v4, v5, v9, v10⟩ := v
  simp only at h3v h4v HQ
  subst h3v h4v
  obtain ⟨u, rfl⟩ := frx_mq hF
  clear hF
  simp only [Tryz.f22, Option.getD_some, regOf] at hc
  injection hc with hc
  subst hc
  have HA := hide hA
  clear hA
  go_wp2_with (at_builtin; refine wpList_append_runI rfl _ _ 60 rfl _ _ _ rfl rfl HA.out ?_)
  exact HQ.out _ ⟨rfl, rfl, rfl, rfl, rfl, rfl, rfl, rfl, rfl⟩
theorem mq_r7 {K : Act → World → Prop} {c : Code} (hc : regOf (Tryz.f22.body.getD .skip) 7 = some c) (a : Act) {v : Vmq} {wq : World} {i : Nat} (hF : Fmq a v) (h10v : v.v10 = .int .i64 (i : Int)) (hi : i ≤ 1000000)
    (hQ : ∀ a', Fmq a' { v with v10 := .int .i64 ((i + 1 : Nat) : Int) } → K a' wq) :
    Code.wp Tryz.prog c (Exit.then K fun _ _ _ => False) a wq := by
  have HQ := hide hQ
  clear hQ
  obtain ⟨v0, v2, v3, v4, v5, v9, v10⟩ := v
  simp only at h10v HQ
  subst h10v
  obtain ⟨u, rfl⟩ := frx_mq hF
  clear hF
  simp only [Tryz.f22, Option.getD_some, regOf] at hc
  injection hc with hc
  subst hc
  go_wp2
  exact HQ.out _ ⟨rfl, rfl, rfl, rfl, rfl, rfl, rfl, rfl, (by first | rfl | (simp; done) | (go_num; done))⟩
theorem mq_r8 {K : Act → World → Prop} {c : Code} (hc : regOf (Tryz.f22.body.getD .skip) 8 = some c) (a : Act) {v : Vmq} {wq : World} {m oc : Nat} {oo : Option Addr} (hF : Fmq a v) (h3v : v.v3 = .slice oo m oc) (hQ : ∀ a', Fmq a' { v with v2 := .slice oo m oc } → K a' wq) :
    Code.wp Tryz.prog c (Exit.then K fun _ _ _ => False) a wq := by
  have HQ := hide hQ
  clear hQ
  obtain ⟨v0, v2, v3, v4, v5, v9, v10⟩ := v
  simp only at h3v HQ
  subst h3v
  obtain ⟨u, rfl⟩ := frx_mq hF
  clear hF
  simp only [Tryz.f22, Option.getD_some, regOf] at hc
  injection hc with hc
  subst hc
  go_wp2
  exact HQ.out _ ⟨rfl, rfl, rfl, rfl, rfl, rfl, rfl, rfl, rfl⟩
theorem mq_ret {W : World} {a : Act} {v : Vmq} {x : Value} {R : Ending → World → Prop} (hF : Fmq a v) (h2 : v.v2 = x) (h : R (.returned x) W) : bodyPost Tryz.prog Tryz.f22 R .ret a W := by
  have g0 := slot_get (hF.s2.trans h2)
  refine bodyPost_ret (v := x) ?_ hF.defers h
  simp [results, Tryz.results22, go_sem, g0]
theorem pmwanted {w : World} {L : LM} {X : MS} (h : MAt w L X) : Calls Tryz.prog 22 #[.pointer (some ⟨L.b, 0, none⟩)] w fun e w' =>
    ∃ ao cp, e = .returned (.slice ao (wlist X.wan).length cp) ∧ w'.ownsRow w.heap.size 3 1 (.slice ao (wlist X.wan).length cp) (wlist X.wan).length (wCells (wlist X.wan)) ∧ Below w.heap.size w w' := by
  have c0 := h.wcells 0 (by omega)
  have c1 := h.wcells 1 (by omega)
  have c2 := h.wcells 2 (by omega)
  have c3 := h.wcells 3 (by omega)
  have c4 := h.wcells 4 (by omega)
  have c5 := h.wcells 5 (by omega)
  have c6 := h.wcells 6 (by omega)
  go_enter Tryz.func22, Tryz.ntmps22
  refine wp_seq (reg_mono (mq_r0 (by kernel_rfl) _ (v := ⟨_, _, _, _, _, _, _⟩) ⟨rfl, rfl, rfl, rfl, rfl, rfl, rfl, rfl, rfl⟩ ?_))
  intro a0 F0
  try dsimp only at F0
  refine wp_seq (reg_mono (mq_r1 (by kernel_rfl) _ F0 ?_))
  intro a1 F1
  try dsimp only at F1
  refine wp_seq (wp_seq (reg_mono (mq_r2 (l := X.wan) (by kernel_rfl) _ F1 rfl c0 c1 c2 c3 c4 c5 c6 ?_)))
  intro a2 F2
  try dsimp only at F2
  refine wp_block (wp_loop (fun a W => ∃ (k oc : Nat) (oo : Option Addr) (O : List Nat) (v : Vmq), k ≤ 7 ∧ O = ((List.range 7).take k).filter (fun i => X.wan.getD i false) ∧ Fmq a v ∧ v.v3 = .slice oo O.length oc ∧ v.v9 = .agg (wArr X.wan) ∧ v.v10 = .int .i64 (k : Int) ∧ W.ownsRow w.heap.size 3 1 (.slice oo O.length oc) O.length (wCells O) ∧ Below w.heap.size w W) (fun a _ => 7 - (intOf (a.tmps.getD 10 undef)).toNat) ⟨0, 0, none, [], _, Nat.zero_le _, rfl, F2, rfl, rfl, rfl, nil_own _ _ _ _, Below.refl _ _⟩ ?_)
  clear F0 F1 F2 c0 c1 c2 c3 c4 c5 c6
  rintro a W ⟨k, oc, oo, O, v, hk, hO, F, q3, q9, q10, own, bW⟩
  have hmk : (intOf (a.tmps.getD 10 undef)).toNat = k := by rw [F.s10, q10]; simp [intOf]
  obtain ⟨v0, v2, v3, v4, v5, v9, v10⟩ := v
  simp only at q3 q9 q10
  subst q3 q9 q10
  refine wp_seq (reg_mono (mq_r3 (by kernel_rfl) _ F rfl ?_))
  intro a3 F3 g3
  by_cases hlt : k < 7
  case pos =>
    rw [decide_eq_true (show (k : Int) < 7 by omega)] at g3
    refine wp_seq (wp_cond_true g3 (wp_skip ?_))
    show Code.wp _ _ _ _ _
    have hsn : ((List.range 7).take (k + 1)).filter (fun i => X.wan.getD i false) = O ++ (if X.wan.getD k false = true then [k] else []) := by
      rw [hO, List.take_succ_eq_append_getElem (by simp; omega), List.filter_append, List.getElem_range]
      congr 1
      by_cases hp : X.wan.getD k false = true
      · rw [if_pos hp, List.filter_cons_of_pos (by simpa using hp), List.filter_nil]
      · rw [if_neg hp, List.filter_cons_of_neg (by simpa using hp), List.filter_nil]
    have hOl : O.length ≤ k := by rw [hO]; exact Nat.le_trans (List.length_filter_le _ _) (by rw [List.length_take]; omega)
    refine wp_seq (wp_block ?_)
    refine wp_seq (reg_mono (mq_r4 (by kernel_rfl) _ F3 rfl rfl (index_w X.wan k hlt W) ?_))
    intro a4 F4
    try dsimp only at F4
    refine wp_seq (reg_mono (mq_r5 (by kernel_rfl) _ F4 rfl ?_))
    intro a5 F5 g5
    cases hp : X.wan.getD k false with
    | true =>
      rw [hp] at g5 hsn
      simp only [if_true] at hsn
      refine wp_cond_true g5 ?_
      have hszW := bW.size
      obtain ⟨t6, c6, w6, r6, o6, g6⟩ := app_int (own_below own ((Below.refl W.heap.size W).alloc (Nat.le_refl _) (.cells #[.int .i64 (k : Int)] 3))) (qi_lit (w := W) (e := 3) (cs := #[.int .i64 (k : Int)]) rfl) (by intro u hu; simp at hu; subst hu; rfl) (by omega) (by simp; omega)
      refine reg_all (mq_r6 (by kernel_rfl) _ F5 rfl rfl r6 ?_)
      intro a6 F6
      try dsimp only at F6
      show Code.wp _ _ _ _ _
      refine reg_mono (mq_r7 (by kernel_rfl) _ F6 rfl (by omega) ?_)
      intro a7 F7
      try dsimp only at F7
      have el : (O ++ [k]).length = O.length + 1 := by simp
      refine ⟨⟨k + 1, c6, t6, O ++ [k], _, hlt, hsn.symm, F7, by rw [el], rfl, rfl, ?_, bW.trans (((Below.refl w.heap.size W).alloc hszW _).trans (gi_below g6 (fun j e => (own.lt j e).1) (by simp; omega)))⟩, ?_⟩
      · rw [el, show wCells (O ++ [k]) = wCells O ++ [.int .i64 (k : Int)] by simp [wCells]]
        exact o6
      · rw [hmk, F7.s10]
        simp [intOf]
        omega
    | false =>
      rw [hp] at g5 hsn
      simp only [Bool.false_eq_true, if_false, List.append_nil] at hsn
      refine wp_cond_false g5 (wp_skip ?_)
      show Code.wp _ _ _ _ _
      refine reg_mono (mq_r7 (by kernel_rfl) _ F5 rfl (by omega) ?_)
      intro a7 F7
      try dsimp only at F7
      refine ⟨⟨k + 1, oc, oo, O, _, hlt, hsn.symm, F7, rfl, rfl, rfl, own, bW⟩, ?_⟩
      rw [hmk, F7.s10]
      simp [intOf]
      omega
  obtain rfl : k = 7 := by omega
  rw [decide_eq_false (show ¬ ((7 : Nat) : Int) < 7 by omega)] at g3
  refine wp_seq (wp_cond_false g3 (wp_exit ?_))
  show Code.wp _ _ _ _ _
  have hL : wlist X.wan = O := by rw [hO, wlist, List.take_of_length_le (by simp)]
  refine wp_seq (reg_mono (mq_r8 (by kernel_rfl) _ F3 rfl ?_))
  intro a8 F8
  refine wp_ret ?_
  exact mq_ret F8 rfl ⟨oo, oc, by rw [hL], by rw [hL]; exact own, bW⟩
end Go.Proofs.YtlfodldlkchmoaaGreat.Y
