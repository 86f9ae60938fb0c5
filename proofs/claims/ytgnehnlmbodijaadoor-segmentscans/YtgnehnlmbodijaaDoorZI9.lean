/-
  Index's region with append, as it runs.
-/
import Derived.Test.YtgnehnlmbodijaaDoorZS7
namespace Go.Proofs.YtgnehnlmbodijaaDoor
open Go.RowKit

theorem Tryd.infoEnt : Tryd.prog.info? 44 = some Tryd.t44 := by kernel_rfl
theorem Tryd.zeroEnt : Tryd.t44.zero = some (.agg #[.int .i64 0, .int .i64 0]) := by kernel_rfl
theorem Tryd.sizeEnt : Tryd.t44.size = 2 := by kernel_rfl
theorem Tryd.bytesEnt : Tryd.t44.bytes = 16 := by kernel_rfl
theorem reg_all {P : Program} {Q : Exit → Act → World → Prop} {c : Code} {a : Act} {w : World} (h : Code.wp P c (Exit.then (Q .normal) fun _ _ _ => False) a w) : Code.wp P c Q a w :=
  wp_mono h fun e a w q => by
    cases e with
    | normal => exact q
    | _ => exact False.elim q
theorem ent_ones (a b : Int) : ∀ u ∈ [Value.int .i64 a, Value.int .i64 b], u.oneCell' = true := by
  intro u hu
  simp at hu
  rcases hu with rfl | rfl <;> rfl
set_option maxHeartbeats 8000000 in
set_option maxRecDepth 100000 in
theorem ireg9_any {K : Act → World → Prop} {c : Code} (hc : regOf (Tryd.f17.body.getD .skip) 9 = some c) {u0 u1 u2 u3 u4 u5 u6 u7 u11 u12 u13 u14 u15 u16 u17 u18 u19 u20 u21 u22 u23 u24 u25 u26 u27 u28 u29 u30 u31 u32 u33 u34 u35 u36 u37 u38 u39 u40 u41 u42 u43 : Value} {g q n vc N rg bg rc bc : Nat} {va : Option Addr} {xs : List Value} {off ps : Int} {w2 wr : World}
    (hq : q < N) (hn : n ≤ 1099511627776) (BV : Hid (Below w2.heap.size w2 wr)) (OV : Hid (wr.ownsRow w2.heap.size 44 2 (.slice va n vc) n xs)) (hgl : g < w2.heap.size) (hrl : rg < w2.heap.size) (hbl : bg < w2.heap.size)
    (k0 : w2.cell? ⟨g, 0, none⟩ = some (.slice (some ⟨rg, 0, none⟩) N rc)) (k1 : w2.cell? ⟨g, 1, none⟩ = some (.slice (some ⟨bg, 0, none⟩) N bc)) (k2 : w2.cell? ⟨rg, q * 5, none⟩ = some (.int .i64 off)) (k3 : w2.cell? ⟨bg, q, none⟩ = some (.int .i64 ps))
    (hQ : ∀ (v26 v27 v28 v29 v30 v31 v32 v33 v34 v35 v36 v37 v38 v39 v40 v41 v42 : Value) (g3 cap3 : Nat) (w3 : World), Below w2.heap.size w2 w3 → w3.ownsRow w2.heap.size 44 2 (.slice (some ⟨g3, 0, none⟩) (n + 1) cap3) (n + 1) (xs ++ [.int .i64 off, .int .i64 ps]) → K { tmps := List.toArray (u0 :: u1 :: u2 :: u3 :: u4 :: u5 :: u6 :: u7 :: .pointer (some ⟨g, 0, none⟩) :: .slice (some ⟨g3, 0, none⟩) (n + 1) cap3 :: .int .i64 q :: u11 :: u12 :: u13 :: u14 :: u15 :: u16 :: u17 :: u18 :: u19 :: u20 :: u21 :: u22 :: u23 :: u24 :: u25 :: v26 :: v27 :: v28 :: v29 :: v30 :: v31 :: v32 :: v33 :: v34 :: v35 :: v36 :: v37 :: v38 :: v39 :: v40 :: v41 :: v42 :: u43 :: []), defers := [] } w3) :
    Code.wp Tryd.prog c (Exit.then K fun _ _ _ => False) { tmps := List.toArray (u0 :: u1 :: u2 :: u3 :: u4 :: u5 :: u6 :: u7 :: .pointer (some ⟨g, 0, none⟩) :: .slice va n vc :: .int .i64 q :: u11 :: u12 :: u13 :: u14 :: u15 :: u16 :: u17 :: u18 :: u19 :: u20 :: u21 :: u22 :: u23 :: u24 :: u25 :: u26 :: u27 :: u28 :: u29 :: u30 :: u31 :: u32 :: u33 :: u34 :: u35 :: u36 :: u37 :: u38 :: u39 :: u40 :: u41 :: u42 :: u43 :: []), defers := [] } wr := by
  have HQ := hide hQ
  clear hQ
  simp only [Tryd.f17, Option.getD_some, regOf] at hc
  injection hc with hc
  subst hc
  have d0 := (BV.out.cell (p := ⟨g, 0, none⟩) hgl).trans k0
  have d1 := (BV.out.cell (p := ⟨g, 1, none⟩) hgl).trans k1
  have d2 := (BV.out.cell (p := ⟨rg, q * 5, none⟩) hrl).trans k2
  have d3 := (BV.out.cell (p := ⟨bg, q, none⟩) hbl).trans k3
  have hi0 : (0 : Int) ≤ (q : Int) := by omega
  have hi1 : (q : Int) < (N : Int) := by omega
  go_region_held_law (fun w' => w'.cell? ⟨g, 0, none⟩ = some (.slice (some ⟨rg, 0, none⟩) N rc) ∧ w'.cell? ⟨g, 1, none⟩ = some (.slice (some ⟨bg, 0, none⟩) N bc) ∧ w'.cell? ⟨rg, q * 5, none⟩ = some (.int .i64 off) ∧ w'.cell? ⟨bg, q, none⟩ = some (.int .i64 ps)) (first | go_keep | exact ⟨e0, e1, e2, e3⟩) (first | (refine step_append_lies _ (by rfl) _ _ _ (by rfl) w2.heap.size 44 Tryd.t44 _ 2 16 Tryd.underlying38 Tryd.infoEnt Tryd.zeroEnt Tryd.sizeEnt Tryd.bytesEnt rfl (by omega) (.slice va n vc) n xs (by rfl) (by first | exact OV.out.alloc _ | exact OV.out.drew.alloc _) ⟨wr.heap.size, 0, none⟩ 1 1 [.int .i64 off, .int .i64 ps] (by rfl) (by rfl) (World.news_of_block (cs := #[.int .i64 off, .int .i64 ps]) (t := 44) (fr := (0, 0)) (by first | exact heap_alloc_new wr _ | exact heap_alloc_new wr.drew _)) (ent_ones _ _) (by omega) (by unfold maxLen; omega) (by omega) (by have := BV.out.size; simp; omega) (wr.heap.size + 1) (by simp) ?_; intro g3 cap3 w3 hown3 hgrow3 hat3 hlt3; have BW : Hid (Below w2.heap.size w2 w3) := (BV.out.drew.alloc BV.out.size _).grown hgrow3 (by have := BV.out.size; simp; omega) (fun k hk => (OV.out.lt k hk).1); have e0 := (BW.out.cell (p := ⟨g, 0, none⟩) hgl).trans k0; have e1 := (BW.out.cell (p := ⟨g, 1, none⟩) hgl).trans k1; have e2 := (BW.out.cell (p := ⟨rg, q * 5, none⟩) hrl).trans k2; have e3 := (BW.out.cell (p := ⟨bg, q, none⟩) hbl).trans k3))
  all_goals exact HQ.out _ _ _ _ _ _ _ _ _ _ _ _ _ _ _ _ _ _ _ _ BW.out hown3
end Go.Proofs.YtgnehnlmbodijaaDoor
