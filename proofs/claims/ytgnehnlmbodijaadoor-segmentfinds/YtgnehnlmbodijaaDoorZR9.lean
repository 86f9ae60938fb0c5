/-
  carillonref06.Index's region with append, as it runs.
-/
import Derived.Test.YtgnehnlmbodijaaDoorZRI
namespace Go.Proofs.YtgnehnlmbodijaaDoor
open Go.RowKit

set_option maxHeartbeats 8000000 in
set_option maxRecDepth 100000 in
theorem rreg9_any {K : Act → World → Prop} {c : Code} (hc : regOf (Tryd.f18.body.getD .skip) 9 = some c) {u0 u1 u2 u3 u4 u5 u6 u7 u10 u11 u14 u15 u16 u17 u18 u19 u20 u21 u22 u23 u24 u25 u26 u27 u28 u29 u30 u31 u32 u33 u34 u35 u36 u37 u38 u39 u40 u41 u42 u43 u44 u45 u46 u47 : Value} {q n vc N g1 g2 oc ac : Nat} {va : Option Addr} {xs : List Value} {off ps : Int} {w2 wr : World}
    (hq : q < N) (hn : n ≤ 1099511627776) (BV : Hid (Below w2.heap.size w2 wr)) (OV : Hid (wr.ownsRow w2.heap.size 44 2 (.slice va n vc) n xs)) (hgl : g1 < w2.heap.size) (hrl : g2 < w2.heap.size)
    (k2 : w2.cell? ⟨g1, q * 5, none⟩ = some (.int .i64 off)) (k3 : w2.cell? ⟨g2, q, none⟩ = some (.int .i64 ps))
    (hQ : ∀ (v34 v35 v36 v37 v38 v39 v40 v41 v42 v43 v44 v45 v46 : Value) (g3 cap3 : Nat) (w3 : World), Below w2.heap.size w2 w3 → w3.ownsRow w2.heap.size 44 2 (.slice (some ⟨g3, 0, none⟩) (n + 1) cap3) (n + 1) (xs ++ [.int .i64 off, .int .i64 ps]) → K { tmps := #[u0, u1, u2, u3, u4, u5, u6, u7, .slice (some ⟨g1, 0, none⟩) N oc, .slice (some ⟨g2, 0, none⟩) N ac, u10, u11, .slice (some ⟨g3, 0, none⟩) (n + 1) cap3, .int .i64 q, u14, u15, u16, u17, u18, u19, u20, u21, u22, u23, u24, u25, u26, u27, u28, u29, u30, u31, u32, u33, v34, v35, v36, v37, v38, v39, v40, v41, v42, v43, v44, v45, v46, u47], defers := [] } w3) :
    Code.wp Tryd.prog c (Exit.then K fun _ _ _ => False) { tmps := #[u0, u1, u2, u3, u4, u5, u6, u7, .slice (some ⟨g1, 0, none⟩) N oc, .slice (some ⟨g2, 0, none⟩) N ac, u10, u11, .slice va n vc, .int .i64 q, u14, u15, u16, u17, u18, u19, u20, u21, u22, u23, u24, u25, u26, u27, u28, u29, u30, u31, u32, u33, u34, u35, u36, u37, u38, u39, u40, u41, u42, u43, u44, u45, u46, u47], defers := [] } wr := by
  have HQ := hide hQ
  clear hQ
  simp only [Tryd.f18, Option.getD_some, regOf] at hc
  injection hc with hc
  subst hc
  have d2 := (BV.out.cell (p := ⟨g1, q * 5, none⟩) hgl).trans k2
  have d3 := (BV.out.cell (p := ⟨g2, q, none⟩) hrl).trans k3
  have hi0 : (0 : Int) ≤ (q : Int) := by omega
  have hi1 : (q : Int) < (N : Int) := by omega
  go_region_held_law (fun w' => w'.cell? ⟨g1, q * 5, none⟩ = some (.int .i64 off) ∧ w'.cell? ⟨g2, q, none⟩ = some (.int .i64 ps)) (first | go_keep | exact ⟨e2, e3⟩) (first | (refine step_append_lies _ (by rfl) _ _ _ (by rfl) w2.heap.size 44 Tryd.t44 _ 2 16 Tryd.underlying38 Tryd.infoEnt Tryd.zeroEnt Tryd.sizeEnt Tryd.bytesEnt rfl (by omega) (.slice va n vc) n xs (by rfl) (by first | exact OV.out.alloc _ | exact OV.out.drew.alloc _) ⟨wr.heap.size, 0, none⟩ 1 1 [.int .i64 off, .int .i64 ps] (by rfl) (by rfl) (World.news_of_block (cs := #[.int .i64 off, .int .i64 ps]) (t := 44) (fr := (0, 0)) (by first | exact heap_alloc_new wr _ | exact heap_alloc_new wr.drew _)) (ent_ones _ _) (by omega) (by unfold maxLen; omega) (by omega) (by have := BV.out.size; simp; omega) (wr.heap.size + 1) (by simp) ?_; intro g3 cap3 w3 hown3 hgrow3 hat3 hlt3; have BW : Hid (Below w2.heap.size w2 w3) := (BV.out.drew.alloc BV.out.size _).grown hgrow3 (by have := BV.out.size; simp; omega) (fun k hk => (OV.out.lt k hk).1); have e2 := (BW.out.cell (p := ⟨g1, q * 5, none⟩) hgl).trans k2; have e3 := (BW.out.cell (p := ⟨g2, q, none⟩) hrl).trans k3))
  all_goals exact HQ.out _ _ _ _ _ _ _ _ _ _ _ _ _ _ _ _ BW.out hown3
end Go.Proofs.YtgnehnlmbodijaaDoor
