/-
  carillonref12's Encode, as it runs (mkve.py).
-/
import Derived.Test.YtfcpclpaalekiaaZInv
import Derived.Test.YtfcpclpaalekiaaZPW3
import Derived.Maps.AppendAt
import Derived.Test.YtfcpclpaalekiaaZPN1
namespace Go.Proofs.Ytfcpclpaalekiaa
open Go.RowKit Go.Shelf
set_option maxHeartbeats 8000000
set_option maxRecDepth 100000
attribute [local go_sem] Oper.semAt_some
set_option linter.unusedSimpArgs false
set_option linter.unusedVariables false
abbrev tItems : TypeId := 60
def itemsUpto (num : Int) (pre : List RM) : List IT := ⟨3, num, ⟨#[]⟩⟩ :: (pre.map (·.val)).flatMap memItems
theorem itemsUpto_snoc (num : Int) (pre : List RM) (x : RM) : itCells (itemsUpto num (pre ++ [x])) = itCells (itemsUpto num pre) ++ [.int .i64 1, .int .u64 x.val.node, .string ⟨#[]⟩, .int .i64 3, .int .u64 x.val.life, .string ⟨#[]⟩] := by
  unfold itemsUpto
  rw [List.map_append, List.flatMap_append, ← List.cons_append, itCells_append]
  rfl
theorem pitems (num : Int) (L : List RM) (ao : Option Addr) (cp : Nat) (w : World) (hnum : 1 ≤ num ∧ num ≤ big) (hM : MemsAt w ao (L.map (·.val))) (hl : L.length ≤ 7) : Calls Try.prog 40 #[.agg #[.int .i64 num, .slice ao L.length cp]] w fun e w' => ∃ oo oc, e = .returned (.slice oo (1 + 2 * L.length) oc) ∧ w'.ownsRow w.heap.size tItem 3 (.slice oo (1 + 2 * L.length) oc) (1 + 2 * L.length) (itCells (itemsUpto num L)) ∧ Below w.heap.size w w' := by
  obtain ⟨i0, hi, hz0, hz1, hz2⟩ := info_parts infoIt
  have hn0 : (0 : Int) ≤ num := by omega
  have hn1 : num < 18446744073709551616 := by have hbig : big = 9007199254740991 := rfl; omega
  have hwn := u64_wrap hn0 hn1
  refine (callsIn_wide (n := 9)).1 ?_
  refine callsIn_of_wp_marks Try.func40 rfl trivial ?_ rfl
  simp only [Try.ntmps40, List.size_toArray, List.length_cons, List.length_nil, Nat.reduceAdd, Nat.reduceSub, Array.replicate_succ, Array.replicate_zero, List.push_toArray, List.append_toArray, List.nil_append, List.cons_append]
  gi_wp2_with (refine ⟨trivial, ?_⟩; gi_at_call 55; refine (each_in _ _ _ _ _).mono ?_; rintro e w' ⟨rfl, rfl⟩)
  obtain ⟨w1, e1⟩ : ∃ wn : World, w.alloc (.cells #[.int .i64 num, .slice ao L.length cp] tView) = wn := ⟨_, rfl⟩
  obtain ⟨w2, e2⟩ : ∃ wn : World, w1.alloc (.cells #[.int .i64 3, .int .u64 num, .string ⟨#[]⟩] tItem) = wn := ⟨_, rfl⟩
  obtain ⟨w3, e3⟩ : ∃ wn : World, w2.alloc (.cells #[.slice (some ⟨w.heap.size + 1, 0, none⟩) 1 1] tItems) = wn := ⟨_, rfl⟩
  obtain ⟨wz, e4⟩ : ∃ wn : World, w3.alloc (.cells #[.slice ao L.length cp] 33) = wn := ⟨_, rfl⟩
  have s1 : w1.heap.size = w.heap.size + 1 := by rw [← e1]; simp
  have s2 : w2.heap.size = w.heap.size + 2 := by rw [← e2]; simp [s1]
  have s3 : w3.heap.size = w.heap.size + 3 := by rw [← e3]; simp [s2]
  have s4 : wz.heap.size = w.heap.size + 4 := by rw [← e4]; simp [s3]
  have b1 : Below w.heap.size w wz := by
    rw [← e4, ← e3, ← e2, ← e1]
    exact ((((Below.refl _ w).alloc (Nat.le_refl _) _).alloc (by simp) _).alloc (by simp; omega) _).alloc (by simp; omega) _
  have X0 : wz.heap[w.heap.size]? = some (.cells #[.int .i64 num, .slice ao L.length cp] tView (0, 0)) := by rw [← e4, ← e3, ← e2]; refine heap_up (heap_up (heap_up ?_)); rw [← e1, show w.heap.size = w.heap.size by omega]; exact World.alloc_heap_new _ _
  have X1 : wz.heap[w.heap.size + 1]? = some (.cells #[.int .i64 3, .int .u64 num, .string ⟨#[]⟩] tItem (0, 0)) := by rw [← e4, ← e3]; refine heap_up (heap_up ?_); rw [← e2, show w.heap.size + 1 = w1.heap.size by omega]; exact World.alloc_heap_new _ _
  have X2 : wz.heap[w.heap.size + 1 + 1]? = some (.cells #[.slice (some ⟨w.heap.size + 1, 0, none⟩) 1 1] tItems (0, 0)) := by rw [← e4]; refine heap_up ?_; rw [← e3, show w.heap.size + 1 + 1 = w2.heap.size by omega]; exact World.alloc_heap_new _ _
  have X3 : wz.heap[w.heap.size + 1 + 1 + 1]? = some (.cells #[.slice ao L.length cp] 33 (0, 0)) := by rw [← e4, show w.heap.size + 1 + 1 + 1 = w3.heap.size by omega]; exact World.alloc_heap_new _ _
  rw [e1, e2, e3, e4]
  clear e1 e2 e3 e4 s1 s2 s3 w1 w2 w3
  refine wpIn_rangeFunc_ownH rfl (by omega) (gf := 73) (lb := #[.pointer (some ⟨w.heap.size + 1 + 1 + 1, 0, none⟩)]) rfl trivial (enters_of Try.func73 (by kernel_rfl) rfl)
    (each_stops (fun m : RM => m.val) _ (w.heap.size + 1 + 1 + 1) cp ao L (by omega) w wz (by omega) b1 (box1_cell X3) hM) belowK_t (belowK_b (by omega)) (Below.refl _ _) (fun _ => rfl)
    (fun pre W => (∃ v, Boxed W (w.heap.size + 1 + 1) tItems v ∧ W.ownsRow w.heap.size tItem 3 v (1 + 2 * pre.length) (itCells (itemsUpto num pre)) ∧ True) ∧ Below w.heap.size w W)
    (fun c pre W => False)
    (OwnFrom.and (Own.from (holdsRow_own w.heap.size (w.heap.size + 1 + 1) tItems tItem 3 (fun pre : List RM => 1 + 2 * pre.length) (fun pre => itCells (itemsUpto num pre)) (fun _ _ => True)) _) (ownFrom_below (Nat.le_refl _) (by omega)))
    (fun _ _ _ _ _ hs _ _ => hs)
    ⟨⟨_, X2, ⟨rfl, .inr ⟨w.heap.size + 1, 1, _, rfl, by omega, X1, by simp, by unfold maxLen; omega, rfl, rfl⟩⟩, trivial⟩, b1⟩
    (fun x a' W => ∃ Bx, Box2 W Bx x.val ∧ a' = { tmps := #[.agg #[.int .i64 num, .slice ao L.length cp], .pointer (some ⟨w.heap.size, 0, none⟩), .slice none 0 0, .pointer (some ⟨w.heap.size + 1 + 1, 0, none⟩), .pointer (some ⟨Bx, 0, none⟩), .pointer (some ⟨w.heap.size, 0, none⟩), .int .i64 num, .int .u64 num, .agg #[.int .i64 3, .int .u64 num, .string ⟨#[]⟩], .slice (some ⟨w.heap.size + 1, 0, none⟩) 1 1, .pointer (some ⟨w.heap.size, 1, none⟩), .slice ao L.length cp, .func (.func 73) #[] #[.pointer (some ⟨w.heap.size + 1 + 1 + 1, 0, none⟩)], x.val.v, undef, undef, undef, undef, undef, undef, undef, undef, undef, undef, undef, undef], defers := [] })
    (fun x a' s X Y row hs hg hr => by obtain ⟨Bx, h1, h2⟩ := hs; exact ⟨Bx, Own.from (Box2.own (β := Unit) Bx fun _ => x.val) _ () X Y row h1 hg hr, h2⟩) ?assign ?body ?done ?stop
  case assign =>
    rintro l pre x W K ⟨⟨v, h1, h2, _⟩, hB⟩ hK
    simp only [MB.v]
    gi_wp2
    exact hK _ _ ((KeepsOthers.alloc _ _).from _) ((Below.refl _ W).alloc hB.size _) ⟨⟨v, h1.alloc _, h2.alloc _, trivial⟩, hB.alloc hB.size _⟩ ⟨W.heap.size, Box2.new W x.val, rfl⟩
  case body =>
    rintro l pre ⟨x, hxr⟩ a' W _ _ ⟨⟨v, h1, h2, _⟩, hB⟩ ⟨Bx, hx, rfl⟩ hlt
    obtain ⟨c0, c1⟩ := hx.cells
    have c2 := h1.cell
    have HS := hide (itemsUpto_snoc num pre ⟨x, hxr⟩)
    obtain ⟨r1, r2, r3, r4⟩ := hxr
    have hbig : big = 9007199254740991 := rfl
    have hw1 : IntKind.u64.wrap x.node = x.node := u64_wrap r1 (by omega)
    have hw2 : IntKind.u64.wrap x.life = x.life := u64_wrap (by omega) (by omega)
    simp only at c0 c1 HS
    have hle : 2 ≤ W.heap.size := by have := hB.size; have := h1.lt; omega
    gi_wp2_with (gi_at_builtin; refine wpListIn_append_own _ rfl _ _ tItems rfl w.heap.size tItem i0 (.agg #[.int .i64 0, .int .u64 0, .string ⟨#[]⟩]) 3 32 Try.underlying60 hi hz0 hz1 hz2 rfl (by decide) _ _ _ rfl (h2.alloc _) ⟨W.heap.size, 0, none⟩ 2 2 [.int .i64 1, .int .u64 x.node, .string ⟨#[]⟩, .int .i64 3, .int .u64 x.life, .string ⟨#[]⟩] rfl rfl (fun j u hj => by
        have hb := World.alloc_heap_new W (.cells #[.int .i64 1, .int .u64 x.node, .string ⟨#[]⟩, .int .i64 3, .int .u64 x.life, .string ⟨#[]⟩] tItem)
        rw [Addr.add_lit]
        simp only [Nat.zero_add]
        exact box_cell hb j (by simpa using hj)) (by simp [Value.oneCell']) (by have : maxLen = 9223372036854775807 := rfl; omega) (by omega) (by have := hB.size; simp; omega) ?_; intro v' w1 hown' hgrow _; obtain ⟨g', cap', rfl⟩ := ownsRow_succ (k := 1 + 2 * pre.length + 1) hown'; obtain ⟨hv1, hv2, hr2, hk2, hb2⟩ := h1.appended (by decide) h2 hB.size (by omega) hown' hgrow; have hc1 := hv1.cell; have hf1 := hv1.frozen)
    have hr3 : (w1.setCell ⟨w.heap.size + 1 + 1, 0, none⟩ (.slice (some ⟨g', 0, none⟩) (1 + 2 * pre.length + 1 + 1) cap')).ownsRow w.heap.size tItem 3 (.slice (some ⟨g', 0, none⟩) (1 + 2 * pre.length + 1 + 1) cap') (1 + 2 * (pre ++ [(⟨x, r1, r2, r3, r4⟩ : RM)]).length) (itCells (itemsUpto num (pre ++ [(⟨x, r1, r2, r3, r4⟩ : RM)]))) := by
      rw [HS.out, List.length_append]
      exact hr2
    refine ⟨hk2.from _, hb2, ?_, hB.trans hb2⟩
    first | exact ⟨_, hv2, hr3, trivial⟩ | exact ⟨_, hv2, hr3⟩
  case done =>
    rintro D ys W hD rfl ⟨⟨v, h1, h2, _⟩, hB⟩ hK
    have hc := h1.cell
    obtain ⟨oo, oc, rfl⟩ := row_slice h2
    gi_wp2
    refine ⟨by simp, .inl ⟨_, _, rfl, run_takeDeferred hK, ?_⟩⟩
    exact ⟨_, results_tmp rfl _ _ _, oo, oc, rfl, ownsRow_putObj h2 _ hK rfl, below_put hB (by omega) hK⟩
  case stop =>
    rintro D c pre W hD hpre h hK
    exact h.elim
end Go.Proofs.Ytfcpclpaalekiaa
namespace Go.Proofs.Ytfcpclpaalekiaa
open Go.RowKit
attribute [local go_sem ↓] Go.wp_at_zero Go.wp_at_succ
set_option linter.unusedSimpArgs false
set_option linter.unusedVariables false
theorem rm_list (A : List MB) (h : ∀ m ∈ A, m.right) : ∃ A' : List RM, A'.map (·.val) = A := by
  induction A with
  | nil => exact ⟨[], rfl⟩
  | cons a A ih =>
    obtain ⟨B, hB⟩ := ih fun m hm => h m (List.mem_cons_of_mem _ hm)
    exact ⟨⟨a, h a List.mem_cons_self⟩ :: B, by rw [List.map_cons, hB]⟩
end Go.Proofs.Ytfcpclpaalekiaa
namespace Go.Proofs.Ytfcpclpaalekiaa
open Go.RowKit
set_option maxHeartbeats 16000000
set_option maxRecDepth 100000
attribute [local go_sem ↓] Go.wp_at_zero Go.wp_at_succ
set_option linter.unusedSimpArgs false
set_option linter.unusedVariables false
attribute [local go_sem ↓] Go.wp_at_zero Go.wp_at_succ
theorem ve_ret {w W : World} {a : Act} {v : Vve} {cd : ByteArray} {r : Bool} (hF : Fve a v) (h2 : v.v2 = .string cd) (h3 : v.v3 = .bool r) (hB : Below w.heap.size w W) {cd' : ByteArray} {r' : Bool} (h : cd = cd') (h' : r = r') :
    bodyPost Try.prog Try.f31 (fun e w' => e = .returned (.tuple #[.string cd', .bool r']) ∧ Below w.heap.size w w') .ret a W := by
  subst h h'
  have g2 := slot_get (hF.s2.trans h2)
  have g3 := slot_get (hF.s3.trans h3)
  refine bodyPost_ret (v := .tuple #[.string cd, .bool r]) ?_ hF.defers ⟨rfl, hB⟩
  simp [results, Try.results31, go_sem, g2, g3]
abbrev EncSays : Prop := ∀ (ao : Option Addr) (cap : Nat) (l : List IT) (w : World), ItsAt w ao l → (∀ x ∈ l, x.ok) → l.length ≤ maxLen → Calls Try.prog 32 #[.slice ao l.length cap] w fun e w' => e = .returned (.tuple #[.string ⟨(K.encF l).1.toArray⟩, .int .i64 (K.encF l).2]) ∧ Below w.heap.size w w'
theorem itemsV_ok {v : VW} (h : v.right) : ∀ x ∈ itemsV v, x.ok := by
  have hbig : big = 9007199254740991 := rfl
  intro x hx
  rcases List.mem_cons.1 hx with rfl | hx
  · have h1 := h.1
    have h2 := h.2.1
    exact ⟨by show (-9223372036854775808 : Int) ≤ 3; omega, by show (3 : Int) ≤ _; omega, by show 0 ≤ v.num; omega, by show v.num < _; omega, by show (0 : Nat) ≤ _; omega⟩
  · obtain ⟨m, hm, hx⟩ := List.mem_flatMap.1 hx
    obtain ⟨r1, r2, r3, r4⟩ := mem_right h m hm
    simp only [memItems, List.mem_cons, List.not_mem_nil, or_false] at hx
    rcases hx with rfl | rfl
    · exact ⟨by show (-9223372036854775808 : Int) ≤ 1; omega, by show (1 : Int) ≤ _; omega, r1, by show m.node < _; omega, by show (0 : Nat) ≤ _; omega⟩
    · exact ⟨by show (-9223372036854775808 : Int) ≤ 3; omega, by show (3 : Int) ≤ _; omega, by show 0 ≤ m.life; omega, by show m.life < _; omega, by show (0 : Nat) ≤ _; omega⟩
def itemsUp (v : VW) (i : Nat) : List IT := ⟨3, v.num, ⟨#[]⟩⟩ :: (v.mem.take i).flatMap memItems
theorem itemsUp_succ (v : VW) (i : Nat) (hi : i < v.mem.length) : itemsUp v (i + 1) = itemsUp v i ++ memItems v.mem[i] := by
  unfold itemsUp
  rw [List.take_add_one, List.getElem?_eq_getElem hi, List.flatMap_append]
  simp
theorem itemsUp_all (v : VW) : itemsUp v v.mem.length = itemsV v := by
  unfold itemsUp itemsV
  rw [List.take_length]
theorem rencV (HE : EncSays) (x : VW) (ao : Option Addr) (cp : Nat) (w : World) (hM : MemsAt w ao x.mem) :
    Calls Try.prog 31 #[x.v ao cp] w fun e w' => e = .returned (.tuple #[.string ⟨(if x.right then codeV x else []).toArray⟩, .bool (decide x.right)]) ∧ Below w.heap.size w w' := by
  have HM := hide hM
  have HEE := hide HE
  obtain ⟨T, hT⟩ : ∃ T : ByteArray, ⟨(if x.right then codeV x else []).toArray⟩ = T := ⟨_, rfl⟩
  rw [hT]
  have HT := hide hT
  obtain ⟨rr, hr⟩ : ∃ r, decide x.right = r := ⟨_, rfl⟩
  rw [hr]
  have HR := hide hr
  have X0 := hide (heap_alloc_new w (.cells #[.int .i64 x.num, .slice ao x.mem.length cp] tView))
  have HB := hide ((Below.refl w.heap.size w).alloc (Nat.le_refl _) (.cells #[.int .i64 x.num, .slice ao x.mem.length cp] tView))
  clear hM hT hr HE
  simp only [VW.v]
  go_enter Try.func31, Try.ntmps31
  go_upto_region 1 with fail
  rename_i Ko hKo
  generalize w.alloc (.cells #[.int .i64 x.num, .slice ao x.mem.length cp] tView) = w1 at *
  refine reg_mono (ve_r1 (x := x) (by kernel_rfl) _ (v := ⟨_, _, _, _, _, _, _⟩) ⟨rfl, rfl, rfl, rfl, rfl, rfl, rfl, rfl, rfl⟩ rfl X0.out (HM.out.below HB.out) ?_)
  intro a2 w2 F2 b2
  refine hKo _ _ ?_
  have D2 := (b2.block _ (heap_lt X0.out)).trans X0.out
  have B2 := HB.out.trans (b2.mono HB.out.size)
  refine wp_seq (wp_seq (reg_mono (ve_r2 (by kernel_rfl) _ F2 rfl ?_)))
  intro a3 F3 h12
  by_cases c1 : x.right
  · rw [decide_eq_true c1] at h12
    refine wp_cond_false h12 (wp_skip ?_)
    show Code.wp _ _ _ _ _
    have hnum : 1 ≤ x.num ∧ x.num ≤ 9007199254740991 := ⟨c1.1, c1.2.1⟩
    have hlen : x.mem.length ≤ 7 := c1.2.2.2.1
    refine wp_seq (reg_mono (ve_r4 (by kernel_rfl) _ F3 rfl D2 hnum ?_))
    intro a4 F4
    have R4 : (w2.alloc (.cells #[.int .i64 3, .int .u64 x.num, .string ⟨#[]⟩] tItem)).ownsRow w.heap.size tItem 3 (.slice (some ⟨w2.heap.size, 0, none⟩) (1 + 2 * 0) 1) (1 + 2 * 0) (itCells (itemsUp x 0)) :=
      ⟨rfl, .inr ⟨w2.heap.size, 1, _, rfl, B2.size, heap_alloc_new w2 _, by omega, by unfold maxLen; omega, rfl, rfl⟩⟩
    have D4 := box_alloc D2 (.cells #[.int .i64 3, .int .u64 x.num, .string ⟨#[]⟩] tItem)
    have B4 := B2.alloc B2.size (.cells #[.int .i64 3, .int .u64 x.num, .string ⟨#[]⟩] tItem)
    generalize w2.alloc (.cells #[.int .i64 3, .int .u64 x.num, .string ⟨#[]⟩] tItem) = w4 at *
    refine wp_seq (wp_seq (reg_mono (ve_r5 (by kernel_rfl) _ F4 ?_)))
    intro a5 F5
    refine wp_block (wp_loop (fun a W => ∃ i v oo oc, i ≤ x.mem.length ∧ Fve a v ∧ v.v1 = .pointer (some ⟨w.heap.size, 0, none⟩) ∧ v.v5 = .slice oo (1 + 2 * i) oc ∧ v.v6 = .int .i64 (i : Int) ∧ W.heap[w.heap.size]? = some (.cells #[.int .i64 x.num, .slice ao x.mem.length cp] tView (0, 0)) ∧ W.ownsRow w.heap.size tItem 3 (.slice oo (1 + 2 * i) oc) (1 + 2 * i) (itCells (itemsUp x i)) ∧ Below w.heap.size w W) (fun a _ => x.mem.length - (intOf (a.tmps.getD 6 undef)).toNat) ⟨0, _, _, _, Nat.zero_le _, F5, rfl, rfl, rfl, D4, R4, B4⟩ ?_)
    clear F2 F3 F4 F5 h12
    rintro a6 w6 ⟨i, v6, oo, oc, hi, F6, g1, g5, g6, D6, R6, B6⟩
    have hm6 : (intOf (a6.tmps.getD 6 undef)).toNat = i := by rw [F6.s6, g6]; simp [intOf]
    refine wp_seq (wp_seq (reg_mono (ve_r6 (by kernel_rfl) _ F6 g1 g6 D6 ?_)))
    intro a7 F7 h22
    by_cases hlt : i < x.mem.length
    · rw [decide_eq_true hlt] at h22
      refine wp_cond_true h22 (wp_skip ?_)
      show Code.wp _ _ _ _ _
      obtain ⟨b, off, hao, hb, y0, y1⟩ := HM.out i hlt
      refine wp_seq (wp_block (reg_all (ve_r8 (mn := x.mem[i].node) (ml := x.mem[i].life) (b := b) (off := off) (n := x.mem.length) (cp := cp) (by kernel_rfl) _ F7 g1 g5 g6 hlt (mem_right c1 _ (List.getElem_mem hlt)) R6 (by omega) B6.size ?_ ?_)))
      · intro W t
        have tb : Below w.heap.size w6 W := t.toBelow B6.size fun k hk e => by have := (R6.lt k e).1; omega
        have Bw := B6.trans tb
        have DW := t.at D6 fun e => it_not R6 e D6 rfl
        refine ⟨?_, (Bw.cell (p := ⟨b, _, none⟩) hb).trans y0, (Bw.cell (p := ⟨b, _, none⟩) hb).trans y1⟩
        rw [← hao]
        exact box_cell DW 1 rfl
      · intro a8 w8 oo8 oc8 F8 t8 R8
        show Code.wp _ _ _ _ _
        have tb : Below w.heap.size w6 w8 := t8.toBelow B6.size fun k hk e => by have := (R6.lt k e).1; omega
        refine reg_all (ve_r7 (by kernel_rfl) _ F8 g6 (by omega) ?_)
        intro a9 F9
        refine ⟨⟨i + 1, _, oo8, oc8, by omega, F9, g1, ?_, rfl, t8.at D6 fun e => it_not R6 e D6 rfl, ?_, B6.trans tb⟩, ?_⟩
        · show Value.slice oo8 (1 + 2 * i + 2) oc8 = _
          rw [show 1 + 2 * (i + 1) = 1 + 2 * i + 2 by omega]
        · rw [itemsUp_succ x i hlt, show 1 + 2 * (i + 1) = 1 + 2 * i + 2 by omega]
          exact R8
        · have hm9 : (intOf (a9.tmps.getD 6 undef)).toNat = i + 1 := by rw [F9.s6]; simp only [intOf]; omega
          rw [hm9, hm6]
          omega
    rw [decide_eq_false hlt] at h22
    refine wp_cond_false h22 (wp_exit ?_)
    show Code.wp _ _ _ _ _
    obtain rfl : i = x.mem.length := by omega
    rw [itemsUp_all] at R6
    have hle : (itemsV x).length = 1 + 2 * x.mem.length := itemsV_len x
    have hE := HEE.out oo oc (itemsV x) w6 (its_of_row R6 hle) (itemsV_ok c1) (by rw [hle]; unfold maxLen; omega)
    rw [encV c1, hle] at hE
    refine wp_seq (reg_mono (ve_r9 (by kernel_rfl) _ F7 g5 hE ?_))
    intro a8 w8 F8 b8
    refine wp_seq (reg_mono (ve_r10 (by kernel_rfl) _ F8 rfl ?_))
    intro a9 F9
    refine wp_ret ?_
    exact ve_ret F9 rfl rfl (B6.trans (b8.mono B6.size)) (by rw [← HT.out, if_pos c1]) (by rw [← HR.out, decide_eq_true c1])
  · rw [decide_eq_false c1] at h12
    refine wp_cond_true h12 (wp_seq (reg_mono (ve_r3 (by kernel_rfl) _ F3 ?_)))
    intro a4 F4
    refine wp_ret ?_
    exact ve_ret F4 rfl rfl B2 (by rw [← HT.out, if_neg c1]) (by rw [← HR.out, decide_eq_false c1])
end Go.Proofs.Ytfcpclpaalekiaa
