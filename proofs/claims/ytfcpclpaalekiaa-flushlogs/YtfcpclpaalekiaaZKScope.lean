/-
  A scope in which the run jumps to one of two labels, the second one entered from above: what holds at each jump, and a measure that every pass lowers.
-/
import Derived.Test.YtfcpclpaalekiaaZPN1
import Derived.Test.YtfcpclpaalekiaaZPW4
import Derived.Maps.AppendAt
import Derived.Test.YtfcpclpaalekiaaZKW3
import Derived.Scope
import Derived.WalkMore
namespace Go.Proofs.Ytfcpclpaalekiaa
open Go.RowKit Go.Shelf
set_option maxHeartbeats 8000000
set_option maxRecDepth 100000
attribute [local go_sem] Oper.semAt_some
set_option linter.unusedSimpArgs false
set_option linter.unusedVariables false
abbrev tItems : TypeId := 60
def itemsUpto (num : Int) (pre : List RM) : List IT := ⟨3, num, ⟨#[]⟩⟩ :: (pre.map (·.val)).flatMap memItems
theorem itemsUpto_snoc (num : Int) (pre : List RM) (x : RM) : itCells (itemsUpto num (pre ++ [x])) = itCells (itemsUpto num pre) ++ [.int .i64 1, .int .u64 x.val.node, .string ⟨#[]⟩, .int .i64 3, .int .u64 x.val.life, .string ⟨#[]⟩] := by
  unfold itemsUpto
  rw [List.map_append, List.flatMap_append, ← List.cons_append, itCells_append]
  rfl
theorem pitems (num : Int) (L : List RM) (ao : Option Addr) (cp : Nat) (w : World) (hnum : 1 ≤ num ∧ num ≤ big) (hM : MemsAt w ao (L.map (·.val))) (hl : L.length ≤ 7) : Calls Try.prog 40 #[.agg #[.int .i64 num, .slice ao L.length cp]] w fun e w' => ∃ oo oc, e = .returned (.slice oo (1 + 2 * L.length) oc) ∧ w'.ownsRow w.heap.size tItem 3 (.slice oo (1 + 2 * L.length) oc) (1 + 2 * L.length) (itCells (itemsUpto num L)) ∧ Below w.heap.size w w' := by
  obtain ⟨i0, hi, hz0, hz1, hz2⟩ := info_parts infoIt
  have hn0 : (0 : Int) ≤ num := by omega
  have hn1 : num < 18446744073709551616 := by have hbig : big = 9007199254740991 := rfl; omega
  have hwn := u64_wrap hn0 hn1
  refine (callsIn_wide (n := 9)).1 ?_
  refine callsIn_of_wp_marks Try.func40 rfl trivial ?_ rfl
  simp only [Try.ntmps40, List.size_toArray, List.length_cons, List.length_nil, Nat.reduceAdd, Nat.reduceSub, Array.replicate_succ, Array.replicate_zero, List.push_toArray, List.append_toArray, List.nil_append, List.cons_append]
  gi_wp2_with (refine ⟨trivial, ?_⟩; gi_at_call 55; refine (each_in _ _ _ _ _).mono ?_; rintro e w' ⟨rfl, rfl⟩)
  obtain ⟨w1, e1⟩ : ∃ wn : World, w.alloc (.cells #[.int .i64 num, .slice ao L.length cp] tView) = wn := ⟨_, rfl⟩
  obtain ⟨w2, e2⟩ : ∃ wn : World, w1.alloc (.cells #[.int .i64 3, .int .u64 num, .string ⟨#[]⟩] tItem) = wn := ⟨_, rfl⟩
  obtain ⟨w3, e3⟩ : ∃ wn : World, w2.alloc (.cells #[.slice (some ⟨w.heap.size + 1, 0, none⟩) 1 1] tItems) = wn := ⟨_, rfl⟩
  obtain ⟨wz, e4⟩ : ∃ wn : World, w3.alloc (.cells #[.slice ao L.length cp] 33) = wn := ⟨_, rfl⟩
  have s1 : w1.heap.size = w.heap.size + 1 := by rw [← e1]; simp
  have s2 : w2.heap.size = w.heap.size + 2 := by rw [← e2]; simp [s1]
  have s3 : w3.heap.size = w.heap.size + 3 := by rw [← e3]; simp [s2]
  have s4 : wz.heap.size = w.heap.size + 4 := by rw [← e4]; simp [s3]
  have b1 : Below w.heap.size w wz := by
    rw [← e4, ← e3, ← e2, ← e1]
    exact ((((Below.refl _ w).alloc (Nat.le_refl _) _).alloc (by simp) _).alloc (by simp; omega) _).alloc (by simp; omega) _
  have X0 : wz.heap[w.heap.size]? = some (.cells #[.int .i64 num, .slice ao L.length cp] tView (0, 0)) := by rw [← e4, ← e3, ← e2]; refine heap_up (heap_up (heap_up ?_)); rw [← e1, show w.heap.size = w.heap.size by omega]; exact World.alloc_heap_new _ _
  have X1 : wz.heap[w.heap.size + 1]? = some (.cells #[.int .i64 3, .int .u64 num, .string ⟨#[]⟩] tItem (0, 0)) := by rw [← e4, ← e3]; refine heap_up (heap_up ?_); rw [← e2, show w.heap.size + 1 = w1.heap.size by omega]; exact World.alloc_heap_new _ _
  have X2 : wz.heap[w.heap.size + 1 + 1]? = some (.cells #[.slice (some ⟨w.heap.size + 1, 0, none⟩) 1 1] tItems (0, 0)) := by rw [← e4]; refine heap_up ?_; rw [← e3, show w.heap.size + 1 + 1 = w2.heap.size by omega]; exact World.alloc_heap_new _ _
  have X3 : wz.heap[w.heap.size + 1 + 1 + 1]? = some (.cells #[.slice ao L.length cp] 33 (0, 0)) := by rw [← e4, show w.heap.size + 1 + 1 + 1 = w3.heap.size by omega]; exact World.alloc_heap_new _ _
  rw [e1, e2, e3, e4]
  clear e1 e2 e3 e4 s1 s2 s3 w1 w2 w3
  refine wpIn_rangeFunc_ownH rfl (by omega) (gf := 73) (lb := #[.pointer (some ⟨w.heap.size + 1 + 1 + 1, 0, none⟩)]) rfl trivial (enters_of Try.func73 (by kernel_rfl) rfl)
    (each_stops (fun m : RM => m.val) _ (w.heap.size + 1 + 1 + 1) cp ao L (by omega) w wz (by omega) b1 (box1_cell X3) hM) belowK_t (belowK_b (by omega)) (Below.refl _ _) (fun _ => rfl)
    (fun pre W => (∃ v, Boxed W (w.heap.size + 1 + 1) tItems v ∧ W.ownsRow w.heap.size tItem 3 v (1 + 2 * pre.length) (itCells (itemsUpto num pre)) ∧ True) ∧ Below w.heap.size w W)
    (fun c pre W => False)
    (OwnFrom.and (Own.from (holdsRow_own w.heap.size (w.heap.size + 1 + 1) tItems tItem 3 (fun pre : List RM => 1 + 2 * pre.length) (fun pre => itCells (itemsUpto num pre)) (fun _ _ => True)) _) (ownFrom_below (Nat.le_refl _) (by omega)))
    (fun _ _ _ _ _ hs _ _ => hs)
    ⟨⟨_, X2, ⟨rfl, .inr ⟨w.heap.size + 1, 1, _, rfl, by omega, X1, by simp, by unfold maxLen; omega, rfl, rfl⟩⟩, trivial⟩, b1⟩
    (fun x a' W => ∃ Bx, Box2 W Bx x.val ∧ a' = { tmps := #[.agg #[.int .i64 num, .slice ao L.length cp], .pointer (some ⟨w.heap.size, 0, none⟩), .slice none 0 0, .pointer (some ⟨w.heap.size + 1 + 1, 0, none⟩), .pointer (some ⟨Bx, 0, none⟩), .pointer (some ⟨w.heap.size, 0, none⟩), .int .i64 num, .int .u64 num, .agg #[.int .i64 3, .int .u64 num, .string ⟨#[]⟩], .slice (some ⟨w.heap.size + 1, 0, none⟩) 1 1, .pointer (some ⟨w.heap.size, 1, none⟩), .slice ao L.length cp, .func (.func 73) #[] #[.pointer (some ⟨w.heap.size + 1 + 1 + 1, 0, none⟩)], x.val.v, undef, undef, undef, undef, undef, undef, undef, undef, undef, undef, undef, undef], defers := [] })
    (fun x a' s X Y row hs hg hr => by obtain ⟨Bx, h1, h2⟩ := hs; exact ⟨Bx, Own.from (Box2.own (β := Unit) Bx fun _ => x.val) _ () X Y row h1 hg hr, h2⟩) ?assign ?body ?done ?stop
  case assign =>
    rintro l pre x W K ⟨⟨v, h1, h2, _⟩, hB⟩ hK
    simp only [MB.v]
    gi_wp2
    exact hK _ _ ((KeepsOthers.alloc _ _).from _) ((Below.refl _ W).alloc hB.size _) ⟨⟨v, h1.alloc _, h2.alloc _, trivial⟩, hB.alloc hB.size _⟩ ⟨W.heap.size, Box2.new W x.val, rfl⟩
  case body =>
    rintro l pre ⟨x, hxr⟩ a' W _ _ ⟨⟨v, h1, h2, _⟩, hB⟩ ⟨Bx, hx, rfl⟩ hlt
    obtain ⟨c0, c1⟩ := hx.cells
    have c2 := h1.cell
    have HS := hide (itemsUpto_snoc num pre ⟨x, hxr⟩)
    obtain ⟨r1, r2, r3, r4⟩ := hxr
    have hbig : big = 9007199254740991 := rfl
    have hw1 : IntKind.u64.wrap x.node = x.node := u64_wrap r1 (by omega)
    have hw2 : IntKind.u64.wrap x.life = x.life := u64_wrap (by omega) (by omega)
    simp only at c0 c1 HS
    have hle : 2 ≤ W.heap.size := by have := hB.size; have := h1.lt; omega
    gi_wp2_with (gi_at_builtin; refine wpListIn_append_own _ rfl _ _ tItems rfl w.heap.size tItem i0 (.agg #[.int .i64 0, .int .u64 0, .string ⟨#[]⟩]) 3 32 Try.underlying60 hi hz0 hz1 hz2 rfl (by decide) _ _ _ rfl (h2.alloc _) ⟨W.heap.size, 0, none⟩ 2 2 [.int .i64 1, .int .u64 x.node, .string ⟨#[]⟩, .int .i64 3, .int .u64 x.life, .string ⟨#[]⟩] rfl rfl (fun j u hj => by
        have hb := World.alloc_heap_new W (.cells #[.int .i64 1, .int .u64 x.node, .string ⟨#[]⟩, .int .i64 3, .int .u64 x.life, .string ⟨#[]⟩] tItem)
        rw [Addr.add_lit]
        simp only [Nat.zero_add]
        exact box_cell hb j (by simpa using hj)) (by simp [Value.oneCell']) (by have : maxLen = 9223372036854775807 := rfl; omega) (by omega) (by have := hB.size; simp; omega) ?_; intro v' w1 hown' hgrow _; obtain ⟨g', cap', rfl⟩ := ownsRow_succ (k := 1 + 2 * pre.length + 1) hown'; obtain ⟨hv1, hv2, hr2, hk2, hb2⟩ := h1.appended (by decide) h2 hB.size (by omega) hown' hgrow; have hc1 := hv1.cell; have hf1 := hv1.frozen)
    have hr3 : (w1.setCell ⟨w.heap.size + 1 + 1, 0, none⟩ (.slice (some ⟨g', 0, none⟩) (1 + 2 * pre.length + 1 + 1) cap')).ownsRow w.heap.size tItem 3 (.slice (some ⟨g', 0, none⟩) (1 + 2 * pre.length + 1 + 1) cap') (1 + 2 * (pre ++ [(⟨x, r1, r2, r3, r4⟩ : RM)]).length) (itCells (itemsUpto num (pre ++ [(⟨x, r1, r2, r3, r4⟩ : RM)]))) := by
      rw [HS.out, List.length_append]
      exact hr2
    refine ⟨hk2.from _, hb2, ?_, hB.trans hb2⟩
    first | exact ⟨_, hv2, hr3, trivial⟩ | exact ⟨_, hv2, hr3⟩
  case done =>
    rintro D ys W hD rfl ⟨⟨v, h1, h2, _⟩, hB⟩ hK
    have hc := h1.cell
    obtain ⟨oo, oc, rfl⟩ := row_slice h2
    gi_wp2
    refine ⟨by simp, .inl ⟨_, _, rfl, run_takeDeferred hK, ?_⟩⟩
    exact ⟨_, results_tmp rfl _ _ _, oo, oc, rfl, ownsRow_putObj h2 _ hK rfl, below_put hB (by omega) hK⟩
  case stop =>
    rintro D c pre W hD hpre h hK
    exact h.elim
end Go.Proofs.Ytfcpclpaalekiaa
namespace Go.Proofs.Ytfcpclpaalekiaa
open Go.RowKit
attribute [local go_sem ↓] Go.wp_at_zero Go.wp_at_succ
set_option linter.unusedSimpArgs false
set_option linter.unusedVariables false
theorem rm_list (A : List MB) (h : ∀ m ∈ A, m.right) : ∃ A' : List RM, A'.map (·.val) = A := by
  induction A with
  | nil => exact ⟨[], rfl⟩
  | cons a A ih =>
    obtain ⟨B, hB⟩ := ih fun m hm => h m (List.mem_cons_of_mem _ hm)
    exact ⟨⟨a, h a List.mem_cons_self⟩ :: B, by rw [List.map_cons, hB]⟩
end Go.Proofs.Ytfcpclpaalekiaa
namespace Go.Proofs.Ytfcpclpaalekiaa
open Go.RowKit
attribute [local go_sem ↓] Go.wp_at_zero Go.wp_at_succ
set_option linter.unusedSimpArgs false
set_option linter.unusedVariables false
attribute [local go_sem ↓] Go.wp_at_zero Go.wp_at_succ
theorem itemsV_ok {v : VW} (h : v.right) : ∀ x ∈ itemsV v, x.ok := by
  have hbig : big = 9007199254740991 := rfl
  intro x hx
  rcases List.mem_cons.1 hx with rfl | hx
  · have h1 := h.1
    have h2 := h.2.1
    exact ⟨by show (-9223372036854775808 : Int) ≤ 3; omega, by show (3 : Int) ≤ _; omega, by show 0 ≤ v.num; omega, by show v.num < _; omega, by show (0 : Nat) ≤ _; omega⟩
  · obtain ⟨m, hm, hx⟩ := List.mem_flatMap.1 hx
    obtain ⟨r1, r2, r3, r4⟩ := mem_right h m hm
    simp only [memItems, List.mem_cons, List.not_mem_nil, or_false] at hx
    rcases hx with rfl | rfl
    · exact ⟨by show (-9223372036854775808 : Int) ≤ 1; omega, by show (1 : Int) ≤ _; omega, r1, by show m.node < _; omega, by show (0 : Nat) ≤ _; omega⟩
    · exact ⟨by show (-9223372036854775808 : Int) ≤ 3; omega, by show (3 : Int) ≤ _; omega, by show 0 ≤ m.life; omega, by show m.life < _; omega, by show (0 : Nat) ≤ _; omega⟩
end Go.Proofs.Ytfcpclpaalekiaa
namespace Go.Proofs.Ytfcpclpaalekiaa
open Go.RowKit
attribute [local go_sem ↓] Go.wp_at_zero Go.wp_at_succ
set_option linter.unusedSimpArgs false
set_option linter.unusedVariables false
structure Vvd where
  v0 : Value
  v2 : Value
  v3 : Value
  v4 : Value
  v5 : Value
  v6 : Value
  v7 : Value
  v8 : Value
structure Fvd (a : Act) (v : Vvd) : Prop where
  size : a.tmps.size = 69
  defers : a.defers = []
  s0 : a.tmps.getD 0 undef = v.v0
  s2 : a.tmps.getD 2 undef = v.v2
  s3 : a.tmps.getD 3 undef = v.v3
  s4 : a.tmps.getD 4 undef = v.v4
  s5 : a.tmps.getD 5 undef = v.v5
  s6 : a.tmps.getD 6 undef = v.v6
  s7 : a.tmps.getD 7 undef = v.v7
  s8 : a.tmps.getD 8 undef = v.v8
end Go.Proofs.Ytfcpclpaalekiaa
namespace Go.Proofs.Ytfcpclpaalekiaa
open Go.RowKit
attribute [local go_sem ↓] Go.wp_at_zero Go.wp_at_succ
set_option linter.unusedSimpArgs false
set_option linter.unusedVariables false
end Go.Proofs.Ytfcpclpaalekiaa
namespace Go.Proofs.Ytfcpclpaalekiaa
open Go.RowKit
attribute [local go_sem ↓] Go.wp_at_zero Go.wp_at_succ
set_option linter.unusedSimpArgs false
set_option linter.unusedVariables false
end Go.Proofs.Ytfcpclpaalekiaa
namespace Go.Proofs.Ytfcpclpaalekiaa
open Go.RowKit
attribute [local go_sem ↓] Go.wp_at_zero Go.wp_at_succ
set_option linter.unusedSimpArgs false
set_option linter.unusedVariables false
abbrev EncodeSays : Prop := ∀ (x : VW) (ao : Option Addr) (cp : Nat) (w : World), MemsAt w ao x.mem → x.mem.length ≤ 4611686018427387903 → Calls Try.prog 27 #[x.v ao cp] w fun e w' => e = .returned (.tuple #[.string ⟨(if x.right then codeV x else []).toArray⟩, .int .i64 (if x.right then 0 else 1)]) ∧ Below w.heap.size w w'
abbrev DecodeSays : Prop := ∀ (t : ByteArray) (w : World), t.size ≤ 9223372036854775807 → Calls Try.prog 34 #[.string t] w fun e w' => NextGave w w' e (decV t.data.toList)
theorem itemB_len (x : IT) (h : K.faultF x = 0) : (K.itemB x).length ≤ 100008 := by
  have hw : K.widthN x.k ≤ 8 := by unfold K.widthN; split <;> (try split) <;> omega
  have hs : x.s.size ≤ 100000 := by rcases K.fault_shape x h with ⟨_, e, _⟩ | ⟨_, _, e⟩ <;> omega
  unfold K.itemB
  rw [List.length_append, Lib.beBytes_length, show x.s.data.toList.length = x.s.size by simp]
  omega
theorem itemsB_len (l : List IT) (h : ∀ x ∈ l, K.faultF x = 0) : (l.flatMap K.itemB).length ≤ 100008 * l.length := by
  induction l with
  | nil => simp
  | cons a l ih =>
    have h1 := itemB_len a (h a (by simp))
    have h2 := ih fun x hx => h x (by simp [hx])
    rw [List.flatMap_cons, List.length_append, List.length_cons]
    omega
theorem codeV_len {v : VW} (h : v.right) : (codeV v).length ≤ 2000000 := by
  have h1 := itemsB_len (itemsV v) fun x hx => (itemsV_fault h x hx).1
  have h2 := itemsV_len v
  have h3 := h.2.2.2.1
  unfold codeV
  omega
structure Vlb where
  v1 : Value
  v2 : Value
  v4 : Value
  v5 : Value
  v6 : Value
  v7 : Value
  v8 : Value
  v9 : Value
  v10 : Value
  v11 : Value
  v12 : Value
  v13 : Value
  v14 : Value
structure Flb (a : Act) (v : Vlb) : Prop where
  size : a.tmps.size = 66
  defers : a.defers = []
  s1 : a.tmps.getD 1 undef = v.v1
  s2 : a.tmps.getD 2 undef = v.v2
  s4 : a.tmps.getD 4 undef = v.v4
  s5 : a.tmps.getD 5 undef = v.v5
  s6 : a.tmps.getD 6 undef = v.v6
  s7 : a.tmps.getD 7 undef = v.v7
  s8 : a.tmps.getD 8 undef = v.v8
  s9 : a.tmps.getD 9 undef = v.v9
  s10 : a.tmps.getD 10 undef = v.v10
  s11 : a.tmps.getD 11 undef = v.v11
  s12 : a.tmps.getD 12 undef = v.v12
  s13 : a.tmps.getD 13 undef = v.v13
  s14 : a.tmps.getD 14 undef = v.v14
end Go.Proofs.Ytfcpclpaalekiaa
namespace Go.Proofs.Ytfcpclpaalekiaa.K
open Go.RowKit
set_option maxHeartbeats 400000
theorem readItem_short (c : UInt8) (k : Int) (z : Nat) (s : ByteArray) (w : World)
    (HK : Hid (∀ w, Calls Try.prog 77 #[.string { data := #[98, 119, 108, 116] }, .int .u8 (c.toNat : Int)] w fun e w' => e = .returned (.int .i64 (k - 1)) ∧ w' = w))
    (HW : Hid (∀ w, Calls Try.prog 42 #[.int .i64 k] w fun e w' => e = .returned (.int .i64 z) ∧ w' = w))
    (k0 : 0 ≤ k) (k4 : k ≤ 4) (h : s.size < z) (_hz : z ≤ 8) :
    Calls Try.prog 68 #[.int .u8 (c.toNat : Int), .string s] w fun e w' => e = .returned (.tuple #[It.zero.v, .string ⟨#[]⟩, .int .i64 2]) ∧ Below w.heap.size w w' := by
  go_enter Try.func68, Try.ntmps68
  go_wp2_with fail
  refine (HK.out _).mono ?_
  rintro e w' ⟨rfl, rfl⟩
  go_wp2_with fail
  refine (HW.out _).mono ?_
  rintro e w' ⟨rfl, rfl⟩
  go_wp2
  refine bodyPost_ret (v := .tuple #[.agg #[.int .i64 0, .int .u64 0, .string ⟨#[]⟩], .string ⟨#[]⟩, .int .i64 2]) (by simp [results, Try.results68, go_sem]) rfl ⟨rfl, ?_⟩
  exact (Below.refl _ _).alloc (Nat.le_refl _) _
theorem below3 {w w1 : World} {B : Nat} (hb : Below B w w1) (b : Nat) (h : B ≤ b) (v0 v1 v2 : Value) :
    Below B w (((w1.setCell ⟨b, 0, none⟩ v0).setCell ⟨b, 1, none⟩ v1).setCell ⟨b, 2, none⟩ v2) :=
  ((hb.setCell (p := ⟨b, 0, none⟩) h _).setCell (p := ⟨b, 1, none⟩) h _).setCell (p := ⟨b, 2, none⟩) h _
theorem num_ok (s : ByteArray) (z : Nat) (hz : z ≤ 8) : (s.extract 0 z).size ≤ 8 := by simp; omega
theorem readItem_num (c : UInt8) (k : Int) (z : Nat) (s : ByteArray) (w : World) (_hs : s.size ≤ maxLen)
    (HK : Hid (∀ w, Calls Try.prog 77 #[.string { data := #[98, 119, 108, 116] }, .int .u8 (c.toNat : Int)] w fun e w' => e = .returned (.int .i64 (k - 1)) ∧ w' = w))
    (HW : Hid (∀ w, Calls Try.prog 42 #[.int .i64 k] w fun e w' => e = .returned (.int .i64 z) ∧ w' = w))
    (k0 : 0 ≤ k) (k4 : k < 4) (h : z ≤ s.size) (hz : z ≤ 8) :
    Calls Try.prog 68 #[.int .u8 (c.toNat : Int), .string s] w fun e w' => e = .returned (.tuple #[It.v ⟨k, Lib.beNat (s.extract 0 z).data.toList, ⟨#[]⟩⟩, .string (s.extract z s.size), .int .i64 0]) ∧ Below w.heap.size w w' := by
  unfold maxLen at _hs
  have kne : (k == 4) = false := beq_eq_false_iff_ne.2 (by omega)
  have HN : Hid (∀ w, Calls Try.prog 79 #[.string (s.extract 0 z)] w fun e w' => e = .returned (.int .u64 (Lib.beNat (s.extract 0 z).data.toList)) ∧ w' = w) := fun w => number_any _ w (num_ok s z hz)
  generalize Lib.beNat (s.extract 0 z).data.toList = m at HN ⊢
  go_enter Try.func68, Try.ntmps68
  go_wp2_with fail
  refine (HK.out _).mono ?_
  rintro e w' ⟨rfl, rfl⟩
  go_wp2_with fail
  refine (HW.out _).mono ?_
  rintro e w' ⟨rfl, rfl⟩
  go_wp2
  go_quiet ((go_at_call 79; exact Calls.quiet_of_same (HN.out _)))
  go_wp2
  refine bodyPost_ret (v := .tuple #[It.v ⟨k, m, ⟨#[]⟩⟩, .string (s.extract z s.size), .int .i64 0]) (by simp [results, Try.results68, go_sem, It.v]) rfl ⟨rfl, ?_⟩
  exact below3 (below_drewN ((Below.refl _ _).alloc (Nat.le_refl _) _) nq) _ (Nat.le_refl _) _ _ _
theorem readItem_text (c : UInt8) (z : Nat) (s : ByteArray) (w : World) (hs : s.size ≤ maxLen)
    (HK : Hid (∀ w, Calls Try.prog 77 #[.string { data := #[98, 119, 108, 116] }, .int .u8 (c.toNat : Int)] w fun e w' => e = .returned (.int .i64 3) ∧ w' = w))
    (HW : Hid (∀ w, Calls Try.prog 42 #[.int .i64 4] w fun e w' => e = .returned (.int .i64 z) ∧ w' = w))
    (h : z ≤ s.size) (hz : z ≤ 8) :
    Calls Try.prog 68 #[.int .u8 (c.toNat : Int), .string s] w fun e w' => e = .returned (.tuple #[(textG (Lib.beNat (s.extract 0 z).data.toList) (s.extract z s.size)).1.v, .string (textG (Lib.beNat (s.extract 0 z).data.toList) (s.extract z s.size)).2.1, .int .i64 (textG (Lib.beNat (s.extract 0 z).data.toList) (s.extract z s.size)).2.2]) ∧ Below w.heap.size w w' := by
  have HT : Hid (∀ (n : Nat) (w : World), Calls Try.prog 80 #[.int .u64 n, .string (s.extract z s.size)] w fun e w' => e = .returned (.tuple #[(textG n (s.extract z s.size)).1.v, .string (textG n (s.extract z s.size)).2.1, .int .i64 (textG n (s.extract z s.size)).2.2]) ∧ Below w.heap.size w w') := fun n w => readText_any n _ w (by simp; omega)
  unfold maxLen at hs
  have HN : Hid (∀ w, Calls Try.prog 79 #[.string (s.extract 0 z)] w fun e w' => e = .returned (.int .u64 (Lib.beNat (s.extract 0 z).data.toList)) ∧ w' = w) := fun w => number_any _ w (num_ok s z hz)
  generalize Lib.beNat (s.extract 0 z).data.toList = m at HN ⊢
  have HT1 := HT.out m
  clear HT
  generalize textG m (s.extract z s.size) = r at HT1 ⊢
  obtain ⟨⟨rk, rn, rs⟩, rr, re⟩ := r
  have HT : Hid (∀ (w : World), Calls Try.prog 80 #[.int .u64 m, .string (s.extract z s.size)] w fun e w' => e = .returned (.tuple #[.agg #[.int .i64 rk, .int .u64 rn, .string rs], .string rr, .int .i64 re]) ∧ Below w.heap.size w w') := HT1
  clear HT1
  go_enter Try.func68, Try.ntmps68
  go_wp2_with fail
  refine (HK.out _).mono ?_
  rintro e w' ⟨rfl, rfl⟩
  go_wp2_with fail
  refine (HW.out _).mono ?_
  rintro e w' ⟨rfl, rfl⟩
  go_wp2
  go_quiet ((go_at_call 79; exact Calls.quiet_of_same (HN.out _)))
  go_wp2_with fail
  refine (HT.out _).mono ?_
  rintro e w' ⟨rfl, hb⟩
  have hz1 := hb.size
  obtain ⟨hc, hf⟩ := bcell hb
  simp at hz1 hc hf
  have c0 := hc w.heap.size 0 (by omega)
  have c1 := hc w.heap.size 1 (by omega)
  have c2 := hc w.heap.size 2 (by omega)
  have f0 := hf w.heap.size 0 (by omega)
  have f1 := hf w.heap.size 1 (by omega)
  have f2 := hf w.heap.size 2 (by omega)
  clear hc hf
  simp at c0 c1 c2 f0 f1 f2
  go_wp2
  refine bodyPost_ret (v := .tuple #[.agg #[.int .i64 rk, .int .u64 rn, .string rs], .string rr, .int .i64 re]) (by simp [results, Try.results68, go_sem, c0, c1, c2]) rfl ⟨rfl, ?_⟩
  have hb1 : Below w.heap.size w w' := (below_drewN ((Below.refl _ _).alloc (Nat.le_refl _) _) nq).trans (hb.mono (by simp))
  exact below3 hb1 _ (Nat.le_refl _) _ _ _
theorem widthN_le (k : Int) : widthN k ≤ 8 := by
  unfold widthN
  split
  · omega
  · split <;> omega
theorem readItem_any (c : UInt8) (s : ByteArray) (w : World) (hs : s.size ≤ maxLen) :
    Calls Try.prog 68 #[.int .u8 (c.toNat : Int), .string s] w fun e w' => e = .returned (.tuple #[(itemG (kindOfL c) (widthN (kindOfL c)) s).1.v, .string (itemG (kindOfL c) (widthN (kindOfL c)) s).2.1, .int .i64 (itemG (kindOfL c) (widthN (kindOfL c)) s).2.2]) ∧ Below w.heap.size w w' := by
  have k0 := kindOfL_ge c
  have k4 := kindOfL_le c
  have HK := fun w => letterIdx c w
  have HW := fun w => width_any (kindOfL c) w
  have hz := widthN_le (kindOfL c)
  generalize widthN (kindOfL c) = z at *
  generalize kindOfL c = k at *
  unfold itemG
  by_cases h : s.size < z
  · rw [if_pos h]; exact readItem_short c k z s w HK HW k0 k4 h hz
  · rw [if_neg h]
    by_cases h4 : k = 4
    · subst h4
      rw [if_pos rfl]; exact readItem_text c z s w hs HK HW (by omega) hz
    · rw [if_neg h4]; exact readItem_num c k z s w hs HK HW k0 (by omega) (by omega) hz
theorem itemG_eq (c : UInt8) (s : ByteArray) :
    (itemG (kindOfL c) (widthN (kindOfL c)) s).1 = (itemF c s.data.toList).1 ∧ (itemG (kindOfL c) (widthN (kindOfL c)) s).2.1.data.toList = (itemF c s.data.toList).2.1 ∧ (itemG (kindOfL c) (widthN (kindOfL c)) s).2.2 = (itemF c s.data.toList).2.2 := by
  unfold itemG itemF textG
  have e0 : s.data.toList.length = s.size := by simp
  have e1 : ∀ z, (s.extract 0 z).data.toList = s.data.toList.take z := fun z => by rw [Lib.extract_data]; simp
  have e2 : ∀ z, (s.extract z s.size).data.toList = s.data.toList.drop z := fun z => Lib.extract_to_end s z
  have e3 : ∀ z, (s.extract z s.size).size = (s.data.toList.drop z).length := fun z => by rw [← e2]; simp
  rw [e0]
  by_cases h : s.size < widthN (kindOfL c)
  · simp [h]
  · rw [if_neg h, if_neg h]
    by_cases h4 : kindOfL c = 4
    · rw [if_pos h4, if_pos h4, h4]
      have w4 : widthN 4 = 4 := rfl
      rw [w4, e1, e3]
      by_cases h5 : 100000 < Lib.beNat (s.data.toList.take 4)
      · simp [h5]
      · rw [if_neg h5, if_neg h5]
        by_cases h6 : (s.data.toList.drop 4).length < Lib.beNat (s.data.toList.take 4)
        · rw [if_pos h6, if_pos h6]; simp
        · rw [if_neg h6, if_neg h6]
          refine ⟨?_, ?_, rfl⟩
          · simp only [It.mk.injEq, true_and]
            rw [Lib.extract_eq, e2]; simp
          · show ((s.extract 4 s.size).extract _ _).data.toList = _
            rw [← e3, Lib.extract_to_end, e2]
    · rw [if_neg h4, if_neg h4, e1]
      exact ⟨rfl, e2 _, rfl⟩
end Go.Proofs.Ytfcpclpaalekiaa.K
namespace Go.Proofs.Ytfcpclpaalekiaa.K
def jump2 (J0 J1 : Act → World → Prop) (Q : Exit → Act → World → Prop) : Exit → Act → World → Prop
  | .goto l, a, w => (l = 0 ∧ J0 a w) ∨ (l = 1 ∧ J1 a w)
  | e, a, w => Q e a w
section
variable {P : Program} {a : Act} {w : World} {Q : Exit → Act → World → Prop}
theorem wp_scope_two {c r0 r1 : Code} (J0 J1 : Act → World → Prop) (m0 m1 : Act → World → Nat) (h0 : findLabel c 0 = some (.seq .skip r0)) (h1 : findLabel c 1 = some (.seq .skip r1))
    (pass0 : ∀ a w, J0 a w → r0.wp P (jump2 (fun a' w' => J0 a' w' ∧ m0 a' w' < m0 a w) (fun a' w' => J1 a' w' ∧ m1 a' w' < m0 a w) Q) a w)
    (pass1 : ∀ a w, J1 a w → r1.wp P (jump2 (fun a' w' => J0 a' w' ∧ m0 a' w' < m1 a w) (fun a' w' => J1 a' w' ∧ m1 a' w' < m1 a w) Q) a w)
    (first : (∀ a w, J1 a w → r1.wp P (jump2 J0 J1 Q) a w) → c.wp P (jump2 J0 J1 Q) a w) : (Code.scope c).wp P Q a w := by
  have skip : ∀ (r : Code) (R : Exit → Act → World → Prop) a w, r.wp P R a w → (Code.seq .skip r).wp P R a w := fun r R a w h => wp_seq (wp_skip h)
  have first' := first fun a w h => wp_mono (pass1 a w h) fun e a w q => by
    cases e with
    | goto l => exact q.elim (fun x => Or.inl ⟨x.1, x.2.1⟩) (fun x => Or.inr ⟨x.1, x.2.1⟩)
    | _ => exact q
  intro b k cs
  have hg0 : gotoIn 0 (.inScope c :: k) = some (.code (.seq .skip r0) :: .inScope c :: k) := by simp [gotoIn, h0]
  have hg1 : gotoIn 1 (.inScope c :: k) = some (.code (.seq .skip r1) :: .inScope c :: k) := by simp [gotoIn, h1]
  have key : ∀ n a w, (m0 a w = n → J0 a w → ∃ e a' w', Q e a' w' ∧ Arrives P (lone (b.at a (.code (.seq .skip r0) :: .inScope c :: k)) cs w) b k cs e a' w') ∧
      (m1 a w = n → J1 a w → ∃ e a' w', Q e a' w' ∧ Arrives P (lone (b.at a (.code (.seq .skip r1) :: .inScope c :: k)) cs w) b k cs e a' w') := by
    intro n
    induction n using Nat.strongRecOn with
    | _ n ih =>
      intro a w
      constructor
      · intro hn hJ
        obtain ⟨e, a₁, w₁, hq, harr⟩ := skip _ _ _ _ (pass0 a w hJ) b (.inScope c :: k) cs
        cases e with
        | normal => exact ⟨.normal, a₁, w₁, hq, Steps.trans harr (.one step_inScope)⟩
        | exit id => exact ⟨.exit id, a₁, w₁, hq, fun k' hk => harr k' (by simp [exitTo, hk])⟩
        | goto l' =>
          rcases hq with ⟨rfl, hJ', hlt⟩ | ⟨rfl, hJ', hlt⟩
          · obtain ⟨e₂, a₂, w₂, hq₂, harr₂⟩ := (ih _ (by omega) a₁ w₁).1 rfl hJ'
            exact ⟨e₂, a₂, w₂, hq₂, .of_steps (harr _ hg0) harr₂⟩
          · obtain ⟨e₂, a₂, w₂, hq₂, harr₂⟩ := (ih _ (by omega) a₁ w₁).2 rfl hJ'
            exact ⟨e₂, a₂, w₂, hq₂, .of_steps (harr _ hg1) harr₂⟩
        | ret => exact ⟨_, a₁, w₁, hq, harr⟩
        | panic ch => exact ⟨_, a₁, w₁, hq, harr⟩
        | outgrown => exact ⟨_, a₁, w₁, hq, harr⟩
      · intro hn hJ
        obtain ⟨e, a₁, w₁, hq, harr⟩ := skip _ _ _ _ (pass1 a w hJ) b (.inScope c :: k) cs
        cases e with
        | normal => exact ⟨.normal, a₁, w₁, hq, Steps.trans harr (.one step_inScope)⟩
        | exit id => exact ⟨.exit id, a₁, w₁, hq, fun k' hk => harr k' (by simp [exitTo, hk])⟩
        | goto l' =>
          rcases hq with ⟨rfl, hJ', hlt⟩ | ⟨rfl, hJ', hlt⟩
          · obtain ⟨e₂, a₂, w₂, hq₂, harr₂⟩ := (ih _ (by omega) a₁ w₁).1 rfl hJ'
            exact ⟨e₂, a₂, w₂, hq₂, .of_steps (harr _ hg0) harr₂⟩
          · obtain ⟨e₂, a₂, w₂, hq₂, harr₂⟩ := (ih _ (by omega) a₁ w₁).2 rfl hJ'
            exact ⟨e₂, a₂, w₂, hq₂, .of_steps (harr _ hg1) harr₂⟩
        | ret => exact ⟨_, a₁, w₁, hq, harr⟩
        | panic ch => exact ⟨_, a₁, w₁, hq, harr⟩
        | outgrown => exact ⟨_, a₁, w₁, hq, harr⟩
  obtain ⟨e, a₁, w₁, hq, harr⟩ := first' b (.inScope c :: k) cs
  cases e with
  | normal => exact ⟨.normal, a₁, w₁, hq, .head step_scope (Steps.trans harr (.one step_inScope))⟩
  | exit id => exact ⟨.exit id, a₁, w₁, hq, fun k' hk => .head step_scope (harr k' (by simp [exitTo, hk]))⟩
  | goto l' =>
    rcases hq with ⟨rfl, hJ'⟩ | ⟨rfl, hJ'⟩
    · obtain ⟨e₂, a₂, w₂, hq₂, harr₂⟩ := (key _ a₁ w₁).1 rfl hJ'
      exact ⟨e₂, a₂, w₂, hq₂, .of_steps (.head step_scope (harr _ hg0)) harr₂⟩
    · obtain ⟨e₂, a₂, w₂, hq₂, harr₂⟩ := (key _ a₁ w₁).2 rfl hJ'
      exact ⟨e₂, a₂, w₂, hq₂, .of_steps (.head step_scope (harr _ hg1)) harr₂⟩
  | ret => exact ⟨_, a₁, w₁, hq, .of_steps (.one step_scope) harr⟩
  | panic ch => exact ⟨_, a₁, w₁, hq, .of_steps (.one step_scope) harr⟩
  | outgrown => exact ⟨_, a₁, w₁, hq, .of_steps (.one step_scope) harr⟩
end
end Go.Proofs.Ytfcpclpaalekiaa.K
