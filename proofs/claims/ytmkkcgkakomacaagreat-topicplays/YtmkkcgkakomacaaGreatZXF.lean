/-
  carillonref15's Compact (mkxf.py).
-/
import Derived.Test.YtmkkcgkakomacaaGreatZXD
import Derived.Test.YtmkkcgkakomacaaGreatZYC7
namespace Go.Proofs.YtmkkcgkakomacaaGreat.Y
open Go.RowKit
set_option maxHeartbeats 8000000
set_option maxRecDepth 100000
attribute [local go_sem ↓] Go.wp_at_zero Go.wp_at_succ
set_option linter.unusedSimpArgs false
set_option linter.unusedVariables false
theorem frame_xk (t : Array Value) (h : t.size = 14) : ∃ u : Nat → Value, t = List.toArray (u 0 :: u 1 :: u 2 :: u 3 :: u 4 :: u 5 :: u 6 :: u 7 :: u 8 :: u 9 :: u 10 :: u 11 :: u 12 :: u 13 :: []) := by
  refine ⟨fun i => t.getD i undef, ?_⟩
  refine Eq.trans (b := ((List.range 14).map fun i => t.getD i undef).toArray) ?_ rfl
  apply Array.ext
  · simp [h]
  · intro k h1 h2
    simp [Array.getD, h1]
structure Vxk where
  v0 : Value
  v1 : Value
  v4 : Value
structure Fxk (a : Act) (v : Vxk) : Prop where
  size : a.tmps.size = 14
  defers : a.defers = []
  s0 : a.tmps.getD 0 undef = v.v0
  s1 : a.tmps.getD 1 undef = v.v1
  s4 : a.tmps.getD 4 undef = v.v4
theorem frx_xk {a : Act} {v0 v1 v4 : Value} (h : Fxk a ⟨v0, v1, v4⟩) : ∃ u : Nat → Value, a = ⟨List.toArray (v0 :: v1 :: u 2 :: u 3 :: v4 :: u 5 :: u 6 :: u 7 :: u 8 :: u 9 :: u 10 :: u 11 :: u 12 :: u 13 :: []), []⟩ := by
  obtain ⟨t', d'⟩ := a
  obtain ⟨hs, hd, q0, q1, q4⟩ := h
  obtain ⟨u, hu⟩ := frame_xk t' hs
  simp only at hd q0 q1 q4
  subst hu hd
  have e0 : u 0 = v0 := q0
  have e1 : u 1 = v1 := q1
  have e4 : u 4 = v4 := q4
  refine ⟨u, ?_⟩
  rw [e0, e1, e4]
theorem xk_r0 {K : Act → World → Prop} {c : Code} (hc : regOf (Tryz.f18.body.getD .skip) 0 = some c) (a : Act) {v : Vxk} {wq : World}  (hF : Fxk a v) (hQ : ∀ a', Fxk a' { v with v4 := .int .i64 0 } → K a' wq) :
    Code.wp Tryz.prog c (Exit.then K fun _ _ _ => False) a wq := by
  have HQ := hide hQ
  clear hQ
  obtain ⟨v0, v1, v4⟩ := v
  obtain ⟨u, rfl⟩ := frx_xk hF
  clear hF
  simp only [Tryz.f18, Option.getD_some, regOf] at hc
  injection hc with hc
  subst hc
  go_wp2
  exact HQ.out _ ⟨rfl, rfl, rfl, rfl, rfl⟩
theorem xk_r2 {K : Act → World → Prop} {c : Code} (hc : regOf (Tryz.f18.body.getD .skip) 2 = some c) (a : Act) {v : Vxk} {wq : World}  (hF : Fxk a v) (hQ : ∀ a', Fxk a' { v with v4 := .int .i64 0 } → K a' wq) :
    Code.wp Tryz.prog c (Exit.then K fun _ _ _ => False) a wq := by
  have HQ := hide hQ
  clear hQ
  obtain ⟨v0, v1, v4⟩ := v
  obtain ⟨u, rfl⟩ := frx_xk hF
  clear hF
  simp only [Tryz.f18, Option.getD_some, regOf] at hc
  injection hc with hc
  subst hc
  go_wp2
  exact HQ.out _ ⟨rfl, rfl, rfl, rfl, rfl⟩
theorem xk_r1 {K : Act → World → Prop} {c : Code} (hc : regOf (Tryz.f18.body.getD .skip) 1 = some c) (a : Act) {v : Vxk} {wq : World} {xb n rc : Nat} {ro : Option Addr} {y : Int} {c0 c1 c2 c3 : Value} {R : Option Addr → Nat → Nat → World → Prop} (hF : Fxk a v) (h0v : v.v0 = .pointer (some ⟨xb, 0, none⟩)) (h1v : v.v1 = .int .i64 y) (hB : wq.heap[xb]? = some (.cells #[c0, c1, c2, c3, .slice ro n rc] 44 (0, 0))) (hE : Calls Tryz.prog 35 #[.slice ro n rc, .int .i64 y] wq fun e w' => ∃ oo m oc, e = .returned (.slice oo m oc) ∧ Below wq.heap.size wq w' ∧ R oo m oc w')
    (hQ : ∀ a' w1 oo m oc, Fxk a' v → Below wq.heap.size wq w1 → R oo m oc w1 → K a' (w1.setCell ⟨xb, 4, none⟩ (.slice oo m oc))) :
    Code.wp Tryz.prog c (Exit.then K fun _ _ _ => False) a wq := by
  have HQ := hide hQ
  clear hQ
  obtain ⟨v0, v1, v4⟩ := v
  simp only at h0v h1v HQ
  subst h0v h1v
  obtain ⟨u, rfl⟩ := frx_xk hF
  clear hF
  simp only [Tryz.f18, Option.getD_some, regOf] at hc
  injection hc with hc
  subst hc
  have HE := hide hE
  have HS := hide hB
  have z4 : wq.cell? ⟨xb, 4, none⟩ = some (.slice ro n rc) := box_cell hB 4 rfl
  clear hE hB
  go_wp2_with (go_at_call 35; refine HE.out.mono ?_; rintro e w1 ⟨oo, m, oc, rfl, b1, r1⟩; have hR2 := Below.at b1 HS.out; have y4 := box_cell hR2 4 rfl; have y5 := box_free hR2 4; have B1 := hide b1; have R1 := hide r1; clear b1 hR2 z4 r1)
  exact HQ.out _ _ _ _ _ ⟨rfl, rfl, rfl, rfl, rfl⟩ B1.out R1.out
def xcompF (G : XG) (upto : Int) : XG := { G with recs := keepF upto G.recs }
theorem xk_ret {W : World} {a : Act} {v : Vxk} {x : Int} {R : Ending → World → Prop} (hF : Fxk a v) (h2 : v.v4 = .int .i64 x) (h : R (.returned (.int .i64 x)) W) :
    bodyPost Tryz.prog Tryz.f18 R .ret a W := by
  have g2 := slot_get (hF.s4.trans h2)
  refine bodyPost_ret (v := .int .i64 x) ?_ hF.defers h
  simp [results, Tryz.results18, go_sem, g2]
theorem xcomp {w : World} {X : XL} {G : XG} (h : XAt w X G) (hl : G.recs.length ≤ 100000) (n : Int) :
    Calls Tryz.prog 18 #[.pointer (some ⟨X.b, 0, none⟩), .int .i64 n] w fun e w' => e = .returned (.int .i64 0) ∧ ∃ X', XAt w' X' (xcompF G n) ∧ XStep w w' X X' := by
  have nP : (Value.slice X.po G.prods.length X.pc).ownBlock ≠ some X.b := fun e => by
    have := h.prow.type e h.box
    exact absurd this (by decide)
  have E1 := rkeep_any n G.recs (by omega) _ w (recs_of_q h.row)
  go_enter Tryz.func18, Tryz.ntmps18
  refine wp_seq (reg_mono (xk_r0 (by kernel_rfl) _ (v := ⟨_, _, _⟩) ⟨rfl, rfl, rfl, rfl, rfl⟩ ?_))
  intro a0 F0
  try dsimp only at F0
  refine wp_seq (reg_mono (xk_r1 (R := fun oo m oc w' => m = (keepF n G.recs).length ∧ w'.ownsRow w.heap.size 39 5 (.slice oo (keepF n G.recs).length oc) (keepF n G.recs).length (recCells (keepF n G.recs))) (by kernel_rfl) _ F0 rfl rfl h.box (E1.mono fun e w' ⟨v', h1, h2, h3⟩ => ?_) ?_))
  · obtain ⟨oo, oc, rfl⟩ := row_slice h2
    exact ⟨oo, _, oc, h1, h3, rfl, h2⟩
  rintro a1 w1 oo m oc F1 b1 ⟨rfl, o1⟩
  try dsimp only at F1
  have X1 := Below.at b1 h.box
  have X2 := xset (o := 4) (x := .slice oo (keepF n G.recs).length oc) X1
  have T2 : Touch (fun j => j = X.b) w (w1.setCell ⟨X.b, 4, none⟩ (.slice oo (keepF n G.recs).length oc)) := (Touch.of_below (own := fun j => j = X.b) b1).setCell _ _ (fun _ => rfl)
  have hxl := heap_lt h.box
  have n1 : ∀ j, (Value.slice oo (keepF n G.recs).length oc).ownBlock = some j → w.heap.size ≤ j := fun j hj => (o1.lt j hj).1
  have P2 := (OwnsQ.congr h.prow fun j hj => b1.block j (h.prow.lt hj)).set X.b 4 (.slice oo (keepF n G.recs).length oc) nP
  have R2 := (OwnsQ.of_row o1).set X.b 4 (.slice oo (keepF n G.recs).length oc) (fun e => by have := n1 _ e; omega)
  generalize w1.setCell _ _ = w2 at *
  simp only [List.setIfInBounds_toArray, List.set_cons_succ, List.set_cons_zero] at X2
  refine wp_seq (reg_mono (xk_r2 (by kernel_rfl) _ F1 ?_))
  intro a2 F2
  try dsimp only at F2
  refine wp_ret (xk_ret F2 rfl ⟨rfl, ⟨X.b, X.po, X.pc, oo, oc⟩, ⟨X2, P2, R2⟩, T2, rfl, ?_⟩)
  rintro j (rfl | hj | hj)
  · exact .inl (.inl rfl)
  · exact .inl (.inr (.inl hj))
  · exact .inr (n1 j ((own_block _ _ _ _).trans hj))
end Go.Proofs.YtmkkcgkakomacaaGreat.Y
