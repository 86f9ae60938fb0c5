/-
  The program's Has.
-/
import Derived.Test.YtbkglpbkbfopjaaZPW1
import Derived.Test.YtbkglpbkbfopjaaZVL
namespace Go.Proofs.Ytbkglpbkbfopjaa
open Go.RowKit Go.Shelf

attribute [local go_sem] Oper.semAt_some
set_option linter.unusedSimpArgs false
set_option linter.unusedVariables false

set_option maxRecDepth 100000 in
set_option maxHeartbeats 4000000 in
theorem phas : HasSays := by
  intro x m ao cp w hM hl
  obtain ⟨num, L⟩ := x
  obtain ⟨mn, ml⟩ := m
  simp only [VW.v, MB.v] at *
  refine (callsIn_wide (n := 9)).1 ?_
  refine callsIn_of_wp_marks Try.func15 rfl trivial ?_ rfl
  simp only [Try.ntmps15, List.size_toArray, List.length_cons, List.length_nil, Nat.reduceAdd, Nat.reduceSub, Array.replicate_succ, Array.replicate_zero, List.push_toArray, List.append_toArray, List.nil_append, List.cons_append]
  gi_wp2_with (refine ⟨trivial, ?_⟩; gi_at_call 23; refine (each_in _ _ _ _ _).mono ?_; rintro e w' ⟨rfl, rfl⟩)
  obtain ⟨w1, e1⟩ : ∃ w1, w.alloc (.cells #[.int .i64 num, .slice ao L.length cp] tView) = w1 := ⟨_, rfl⟩
  obtain ⟨w2, e2⟩ : ∃ w2, w1.alloc (.cells #[.int .i64 mn, .int .i64 ml] tMember) = w2 := ⟨_, rfl⟩
  obtain ⟨w3, e3⟩ : ∃ w3, w2.alloc (.cells #[.bool false] 4) = w3 := ⟨_, rfl⟩
  obtain ⟨w4, e4⟩ : ∃ w4, w3.alloc (.cells #[.slice ao L.length cp] 22) = w4 := ⟨_, rfl⟩
  have s1 : w1.heap.size = w.heap.size + 1 := by rw [← e1]; simp
  have s2 : w2.heap.size = w.heap.size + 2 := by rw [← e2]; simp [s1]
  have s3 : w3.heap.size = w.heap.size + 3 := by rw [← e3]; simp [s2]
  have s4 : w4.heap.size = w.heap.size + 4 := by rw [← e4]; simp [s3]
  have b1 : Below w.heap.size w w4 := by
    rw [← e4, ← e3, ← e2, ← e1]
    exact ((((Below.refl _ w).alloc (Nat.le_refl _) _).alloc (by simp) _).alloc (by simp; omega) _).alloc (by simp; omega) _
  have X1 : w4.heap[w.heap.size + 1]? = some (.cells #[.int .i64 mn, .int .i64 ml] tMember (0, 0)) := by rw [← e4, ← e3]; refine heap_up (heap_up ?_); rw [← e2, ← s1]; exact World.alloc_heap_new _ _
  have X2 : w4.heap[w.heap.size + 1 + 1]? = some (.cells #[.bool false] 4 (0, 0)) := by rw [← e4]; refine heap_up ?_; rw [← e3, show w.heap.size + 1 + 1 = w2.heap.size by omega]; exact World.alloc_heap_new _ _
  have X3 : w4.heap[w.heap.size + 1 + 1 + 1]? = some (.cells #[.slice ao L.length cp] 22 (0, 0)) := by rw [← e4, show w.heap.size + 1 + 1 + 1 = w3.heap.size by omega]; exact World.alloc_heap_new _ _
  rw [e1, e2, e3, e4]
  clear e1 e2 e3 e4 s1 s2 s3 w1 w2 w3
  refine wpIn_rangeFunc_ownH rfl (by omega) (gf := 27) (lb := #[.pointer (some ⟨w.heap.size + 1 + 1 + 1, 0, none⟩)]) rfl trivial (enters_of Try.func27 (by kernel_rfl) rfl)
    (each_stops (id : MB → MB) _ (w.heap.size + 1 + 1 + 1) cp ao L hl w w4 (by omega) b1 (box1_cell X3) (by rw [List.map_id]; exact hM)) belowK_t (belowK_b (by omega)) (Below.refl _ _) (fun _ => rfl)
    (fun pre W => ((∀ y ∈ pre, y ≠ ⟨mn, ml⟩) ∧ Box2 W (w.heap.size + 1) ⟨mn, ml⟩ ∧ W.heap[w.heap.size + 1 + 1]? = some (.cells #[.bool false] 4 (0, 0))) ∧ Below w.heap.size w W)
    (fun c pre W => (c = .ret ∧ (⟨mn, ml⟩ : MB) ∈ pre ∧ W.heap[w.heap.size + 1 + 1]? = some (.cells #[.bool true] 4 (0, 0))) ∧ Below w.heap.size w W)
    (OwnFrom.and (Own.from (Own.and (own_pure _) (Own.and (Box2.own _ _) (box_own _ _ fun _ => rfl))) _) (ownFrom_below (Nat.le_refl _) (by omega)))
    (fun c => OwnFrom.and (Own.from (Own.and (own_pure _) (Own.and (own_pure _) (box_own _ _ fun _ => rfl))) _) (ownFrom_below (Nat.le_refl _) (by omega)))
    ⟨⟨fun y h => absurd h List.not_mem_nil, X1, X2⟩, b1⟩
    (fun x a' W => ∃ Bx, Box2 W Bx x ∧ a' = { tmps := #[.agg #[.int .i64 num, .slice ao L.length cp], .agg #[.int .i64 mn, .int .i64 ml], .pointer (some ⟨w.heap.size, 0, none⟩), .pointer (some ⟨w.heap.size + 1, 0, none⟩), .pointer (some ⟨w.heap.size + 1 + 1, 0, none⟩), .pointer (some ⟨Bx, 0, none⟩), .pointer (some ⟨w.heap.size, 1, none⟩), .slice ao L.length cp, .func (.func 27) #[] #[.pointer (some ⟨w.heap.size + 1 + 1 + 1, 0, none⟩)], x.v, undef, undef, undef], defers := [] })
    (fun x a' s X Y row hs hg hr => by obtain ⟨Bx, h1, h2⟩ := hs; exact ⟨Bx, Own.from (Box2.own (β := Unit) Bx fun _ => x) _ () X Y row h1 hg hr, h2⟩) ?assign ?body ?done ?stop
  case assign =>
    rintro l pre x W K ⟨⟨h1, h2, h3⟩, hB⟩ hK
    simp only [id, MB.v]
    gi_wp2
    exact hK _ _ ((KeepsOthers.alloc _ _).from _) ((Below.refl _ W).alloc hB.size _) ⟨⟨h1, heap_up h2, heap_up h3⟩, hB.alloc hB.size _⟩ ⟨W.heap.size, Box2.new W x, rfl⟩
  case body =>
    rintro l pre x a' W _ _ ⟨⟨h1, h2, h3⟩, hB⟩ ⟨Bx, hx, rfl⟩ hlt
    obtain ⟨c0, c1⟩ := hx.cells
    obtain ⟨d0, d1⟩ := h2.cells
    have f3 := box1_frozen h3
    have c3 := box1_cell h3
    by_cases hxm : x = ⟨mn, ml⟩
    · subst hxm
      simp only at c0 c1 d0 d1
      gi_wp2
      exact ⟨(KeepsOthers.setCell _ _ _).from _, ⟨rfl, List.mem_append.2 (.inr (List.mem_singleton.2 rfl)), box1_set _ h3⟩, hB.setCell (p := ⟨w.heap.size + 1 + 1, 0, none⟩) (by show _ ≤ w.heap.size + 1 + 1; omega) _⟩
    · gi_wp2
      all_goals first
        | (rename_i e1 e2; exact absurd (show x = ⟨mn, ml⟩ by obtain ⟨p, q⟩ := x; simp only at e1 e2; rw [e1, e2]) hxm)
        | exact ⟨KeepsFrom.refl _ _, Below.refl _ _, ⟨fun y hy => (List.mem_append.1 hy).elim (h1 y) (fun e => by rw [List.mem_singleton.1 e]; exact hxm), h2, h3⟩, hB⟩
  case done =>
    rintro D ys W hD rfl ⟨⟨h1, h2, h3⟩, hB⟩ hK
    have f3 := box1_frozen h3
    have c3 := box1_cell h3
    gi_wp2
    have hK' : (W.setCell ⟨w.heap.size + 1 + 1, 0, none⟩ (.bool false)).heap[D]? = some (.deferred (some [])) := heap_set_ne _ hK (by omega)
    refine ⟨by simp, .inl ⟨_, _, rfl, run_takeDeferred hK', ?_⟩⟩
    have hc5 := box1_cell (put_keeps (o2 := .deferred none) hK' (box1_set (.bool false) h3) rfl)
    refine ⟨.bool false, ?_, by rw [decide_eq_false (fun h => h1 _ h rfl)], below_put (hB.setCell (p := ⟨w.heap.size + 1 + 1, 0, none⟩) (by show _ ≤ w.heap.size + 1 + 1; omega) _) (by omega) hK'⟩
    simp [results, Try.f15, go_sem, hc5]
  case stop =>
    rintro D c pre W hD hpre ⟨⟨rfl, h1, h2⟩, hB⟩ hK
    gi_wp2
    refine ⟨by simp, .inl ⟨_, _, rfl, run_takeDeferred hK, ?_⟩⟩
    have hc5 := box1_cell (put_keeps (o2 := .deferred none) hK h2 rfl)
    refine ⟨.bool true, ?_, by rw [decide_eq_true (hpre.subset h1)], below_put hB (by omega) hK⟩
    simp [results, Try.f15, go_sem, hc5]
end Go.Proofs.Ytbkglpbkbfopjaa
