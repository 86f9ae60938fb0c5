/-
  The program's itemsOf (mkqe.py)
-/
import Derived.Test.YtjnbfopipmglgaaZHE
import Derived.Test.YtjnbfopipmglgaaZHH
import Derived.Maps.AppendAt
namespace Go.Proofs.Ytjnbfopipmglgaa
open Go.RowKit Go.Shelf

attribute [local go_sem] Oper.semAt_some
set_option linter.unusedSimpArgs false
set_option linter.unusedVariables false

abbrev tItems : TypeId := 49
def itemsUpto (num : Int) (pre : List RM) : List IT := ⟨3, num, ⟨#[]⟩⟩ :: (pre.map (·.val)).flatMap memItems
theorem itemsUpto_len (num : Int) (pre : List RM) : (itemsUpto num pre).length = 1 + 2 * pre.length := by
  have := itemsV_len ⟨num, pre.map (·.val)⟩
  simpa [itemsV, itemsUpto] using this
theorem itemsUpto_snoc (num : Int) (pre : List RM) (x : RM) : itCells (itemsUpto num (pre ++ [x])) = itCells (itemsUpto num pre) ++ [.int .i64 1, .int .u64 x.val.node, .string ⟨#[]⟩, .int .i64 3, .int .u64 x.val.life, .string ⟨#[]⟩] := by
  unfold itemsUpto
  rw [List.map_append, List.flatMap_append, ← List.cons_append, itCells_append]
  rfl
set_option maxRecDepth 100000 in
set_option maxHeartbeats 8000000 in
theorem pitems (num : Int) (L : List RM) (ao : Option Addr) (cp : Nat) (w : World) (hnum : 1 ≤ num ∧ num ≤ big) (hM : MemsAt w ao (L.map (·.val))) (hl : L.length ≤ 7) : Calls Try.prog 19 #[.agg #[.int .i64 num, .slice ao L.length cp]] w fun e w' => ∃ oo oc, e = .returned (.slice oo (1 + 2 * L.length) oc) ∧ w'.ownsRow w.heap.size tItem 3 (.slice oo (1 + 2 * L.length) oc) (1 + 2 * L.length) (itCells (itemsUpto num L)) ∧ Below w.heap.size w w' := by
  obtain ⟨i0, hi, hz0, hz1, hz2⟩ := info_parts infoIt
  have hn0 : (0 : Int) ≤ num := by omega
  have hn1 : num < 18446744073709551616 := by have hbig : big = 9007199254740991 := rfl; omega
  have hwn := u64_wrap hn0 hn1
  refine (callsIn_wide (n := 9)).1 ?_
  refine callsIn_of_wp_marks Try.func19 rfl trivial ?_ rfl
  simp only [Try.ntmps19, List.size_toArray, List.length_cons, List.length_nil, Nat.reduceAdd, Nat.reduceSub, Array.replicate_succ, Array.replicate_zero, List.push_toArray, List.append_toArray, List.nil_append, List.cons_append]
  gi_wp2_with (refine ⟨trivial, ?_⟩; gi_at_call 28; refine (each_in _ _ _ _ _).mono ?_; rintro e w' ⟨rfl, rfl⟩)
  obtain ⟨w1, e1⟩ : ∃ wn : World, w.alloc (.cells #[.int .i64 num, .slice ao L.length cp] tView) = wn := ⟨_, rfl⟩
  obtain ⟨w2, e2⟩ : ∃ wn : World, w1.alloc (.cells #[.int .i64 3, .int .u64 num, .string ⟨#[]⟩] tItem) = wn := ⟨_, rfl⟩
  obtain ⟨w3, e3⟩ : ∃ wn : World, w2.alloc (.cells #[.slice (some ⟨w.heap.size + 1, 0, none⟩) 1 1] tItems) = wn := ⟨_, rfl⟩
  obtain ⟨wz, e4⟩ : ∃ wn : World, w3.alloc (.cells #[.slice ao L.length cp] 22) = wn := ⟨_, rfl⟩
  have s1 : w1.heap.size = w.heap.size + 1 := by rw [← e1]; simp
  have s2 : w2.heap.size = w.heap.size + 2 := by rw [← e2]; simp [s1]
  have s3 : w3.heap.size = w.heap.size + 3 := by rw [← e3]; simp [s2]
  have s4 : wz.heap.size = w.heap.size + 4 := by rw [← e4]; simp [s3]
  have b1 : Below w.heap.size w wz := by
    rw [← e4, ← e3, ← e2, ← e1]
    exact ((((Below.refl _ w).alloc (Nat.le_refl _) _).alloc (by simp) _).alloc (by simp; omega) _).alloc (by simp; omega) _
  have X0 : wz.heap[w.heap.size]? = some (.cells #[.int .i64 num, .slice ao L.length cp] tView (0, 0)) := by rw [← e4, ← e3, ← e2]; refine heap_up (heap_up (heap_up ?_)); rw [← e1, show w.heap.size = w.heap.size by omega]; exact World.alloc_heap_new _ _
  have X1 : wz.heap[w.heap.size + 1]? = some (.cells #[.int .i64 3, .int .u64 num, .string ⟨#[]⟩] tItem (0, 0)) := by rw [← e4, ← e3]; refine heap_up (heap_up ?_); rw [← e2, show w.heap.size + 1 = w1.heap.size by omega]; exact World.alloc_heap_new _ _
  have X2 : wz.heap[w.heap.size + 1 + 1]? = some (.cells #[.slice (some ⟨w.heap.size + 1, 0, none⟩) 1 1] tItems (0, 0)) := by rw [← e4]; refine heap_up ?_; rw [← e3, show w.heap.size + 1 + 1 = w2.heap.size by omega]; exact World.alloc_heap_new _ _
  have X3 : wz.heap[w.heap.size + 1 + 1 + 1]? = some (.cells #[.slice ao L.length cp] 22 (0, 0)) := by rw [← e4, show w.heap.size + 1 + 1 + 1 = w3.heap.size by omega]; exact World.alloc_heap_new _ _
  rw [e1, e2, e3, e4]
  clear e1 e2 e3 e4 s1 s2 s3 w1 w2 w3
  refine wpIn_rangeFunc_ownH rfl (by omega) (gf := 47) (lb := #[.pointer (some ⟨w.heap.size + 1 + 1 + 1, 0, none⟩)]) rfl trivial (enters_of Try.func47 (by kernel_rfl) rfl)
    (each_stops (fun m : RM => m.val) _ (w.heap.size + 1 + 1 + 1) cp ao L (by omega) w wz (by omega) b1 (box1_cell X3) hM) belowK_t (belowK_b (by omega)) (Below.refl _ _) (fun _ => rfl)
    (fun pre W => (∃ v, Boxed W (w.heap.size + 1 + 1) tItems v ∧ W.ownsRow w.heap.size tItem 3 v (1 + 2 * pre.length) (itCells (itemsUpto num pre)) ∧ True) ∧ Below w.heap.size w W)
    (fun c pre W => False)
    (OwnFrom.and (Own.from (holdsRow_own w.heap.size (w.heap.size + 1 + 1) tItems tItem 3 (fun pre : List RM => 1 + 2 * pre.length) (fun pre => itCells (itemsUpto num pre)) (fun _ _ => True)) _) (ownFrom_below (Nat.le_refl _) (by omega)))
    (fun _ _ _ _ _ hs _ _ => hs)
    ⟨⟨_, X2, ⟨rfl, .inr ⟨w.heap.size + 1, 1, _, rfl, by omega, X1, by simp, by unfold maxLen; omega, rfl, rfl⟩⟩, trivial⟩, b1⟩
    (fun x a' W => ∃ Bx, Box2 W Bx x.val ∧ a' = { tmps := #[.agg #[.int .i64 num, .slice ao L.length cp], .pointer (some ⟨w.heap.size, 0, none⟩), .slice none 0 0, .pointer (some ⟨w.heap.size + 1 + 1, 0, none⟩), .pointer (some ⟨Bx, 0, none⟩), .pointer (some ⟨w.heap.size, 0, none⟩), .int .i64 num, .int .u64 num, .agg #[.int .i64 3, .int .u64 num, .string ⟨#[]⟩], .slice (some ⟨w.heap.size + 1, 0, none⟩) 1 1, .pointer (some ⟨w.heap.size, 1, none⟩), .slice ao L.length cp, .func (.func 47) #[] #[.pointer (some ⟨w.heap.size + 1 + 1 + 1, 0, none⟩)], x.val.v, undef, undef, undef, undef, undef, undef, undef, undef, undef, undef, undef, undef], defers := [] })
    (fun x a' s X Y row hs hg hr => by obtain ⟨Bx, h1, h2⟩ := hs; exact ⟨Bx, Own.from (Box2.own (β := Unit) Bx fun _ => x.val) _ () X Y row h1 hg hr, h2⟩) ?assign ?body ?done ?stop
  case assign =>
    rintro l pre x W K ⟨⟨v, h1, h2, _⟩, hB⟩ hK
    simp only [MB.v]
    gi_wp2
    exact hK _ _ ((KeepsOthers.alloc _ _).from _) ((Below.refl _ W).alloc hB.size _) ⟨⟨v, h1.alloc _, h2.alloc _, trivial⟩, hB.alloc hB.size _⟩ ⟨W.heap.size, Box2.new W x.val, rfl⟩
  case body =>
    rintro l pre ⟨x, hxr⟩ a' W _ _ ⟨⟨v, h1, h2, _⟩, hB⟩ ⟨Bx, hx, rfl⟩ hlt
    obtain ⟨c0, c1⟩ := hx.cells
    have c2 := h1.cell
    have HS := hide (itemsUpto_snoc num pre ⟨x, hxr⟩)
    obtain ⟨r1, r2, r3, r4⟩ := hxr
    have hbig : big = 9007199254740991 := rfl
    have hw1 : IntKind.u64.wrap x.node = x.node := u64_wrap r1 (by omega)
    have hw2 : IntKind.u64.wrap x.life = x.life := u64_wrap (by omega) (by omega)
    simp only at c0 c1 HS
    have hle : 2 ≤ W.heap.size := by have := hB.size; have := h1.lt; omega
    gi_wp2_with (gi_at_builtin; refine wpListIn_append_own _ rfl _ _ tItems rfl w.heap.size tItem i0 (.agg #[.int .i64 0, .int .u64 0, .string ⟨#[]⟩]) 3 32 Try.underlying49 hi hz0 hz1 hz2 rfl (by decide) _ _ _ rfl (h2.alloc _) ⟨W.heap.size, 0, none⟩ 2 2 [.int .i64 1, .int .u64 x.node, .string ⟨#[]⟩, .int .i64 3, .int .u64 x.life, .string ⟨#[]⟩] rfl rfl (fun j u hj => by
        have hb := World.alloc_heap_new W (.cells #[.int .i64 1, .int .u64 x.node, .string ⟨#[]⟩, .int .i64 3, .int .u64 x.life, .string ⟨#[]⟩] tItem)
        rw [Addr.add_lit]
        simp only [Nat.zero_add]
        exact box_cell hb j (by simpa using hj)) (by simp [Value.oneCell']) (by have : maxLen = 9223372036854775807 := rfl; omega) (by omega) (by have := hB.size; simp; omega) ?_; intro v' w1 hown' hgrow _; obtain ⟨g', cap', rfl⟩ := ownsRow_succ (k := 1 + 2 * pre.length + 1) hown'; obtain ⟨hv1, hv2, hr2, hk2, hb2⟩ := h1.appended (by decide) h2 hB.size (by omega) hown' hgrow; have hc1 := hv1.cell; have hf1 := hv1.frozen)
    have hr3 : (w1.setCell ⟨w.heap.size + 1 + 1, 0, none⟩ (.slice (some ⟨g', 0, none⟩) (1 + 2 * pre.length + 1 + 1) cap')).ownsRow w.heap.size tItem 3 (.slice (some ⟨g', 0, none⟩) (1 + 2 * pre.length + 1 + 1) cap') (1 + 2 * (pre ++ [(⟨x, r1, r2, r3, r4⟩ : RM)]).length) (itCells (itemsUpto num (pre ++ [(⟨x, r1, r2, r3, r4⟩ : RM)]))) := by
      rw [HS.out, List.length_append]
      exact hr2
    refine ⟨hk2.from _, hb2, ?_, hB.trans hb2⟩
    first | exact ⟨_, hv2, hr3, trivial⟩ | exact ⟨_, hv2, hr3⟩
  case done =>
    rintro D ys W hD rfl ⟨⟨v, h1, h2, _⟩, hB⟩ hK
    have hc := h1.cell
    obtain ⟨oo, oc, rfl⟩ := row_slice h2
    gi_wp2
    refine ⟨by simp, .inl ⟨_, _, rfl, run_takeDeferred hK, ?_⟩⟩
    exact ⟨_, results_tmp rfl _ _ _, oo, oc, rfl, ownsRow_putObj h2 _ hK rfl, below_put hB (by omega) hK⟩
  case stop =>
    rintro D c pre W hD hpre h hK
    exact h.elim
end Go.Proofs.Ytjnbfopipmglgaa
