/-
  The document's own text as bytes, as it runs.
-/
import Derived.Test.YtlfodldlkchmoaaGreatZRB
import Derived.Test.YtlfodldlkchmoaaGreatZKW13
import Derived.ProofKit
import Derived.OpenShut
import Derived.ShutString
import Derived.ChangeOld
import Derived.SizedLaws
import Derived.Deep.Slices
import Derived.Deep.Strs
import Derived.Test.YtlfodldlkchmoaaGreatZKPure5
import Derived.Laws.AppendOwnNone
import Derived.LoopN
import Derived.Laws.BytesString
import Derived.Laws.IdiomStrings
import Derived.Deep.RegionHeld
namespace Go.Proofs.YtlfodldlkchmoaaGreat
open Go.RowKit
set_option maxHeartbeats 8000000
set_option maxRecDepth 100000
attribute [local go_sem ↓] Go.wp_at_zero Go.wp_at_succ
set_option linter.unusedSimpArgs false
set_option linter.unusedVariables false
def manyR (k n : Int) : Bool := if k = 5 then decide (1 ≤ n) && decide (n ≤ 50) else if k = 10 ∨ k = 11 then decide (0 ≤ n) && decide (n < 7) else if k = 3 then true else decide (0 ≤ n)
theorem right_ref (x : CM) : x.right = ((kindOk x.kind && decide (0 ≤ x.node ∧ x.node ≤ 6 ∧ 0 ≤ x.ask ∧ x.ask ≤ 9007199254740991 ∧ 0 ≤ x.seq ∧ x.seq ≤ 9007199254740991 ∧ -1 ≤ x.n ∧ x.n ≤ 9007199254740991)) && (((hasTopic x.kind == wordB x.topic) && ((hasTopic x.kind || x.topic.size == 0) && ((hasName x.kind == wordB x.name) && (hasName x.kind || x.name.size == 0)))) && (((decide (x.kind = 2) || (x.seq == 0 && (x.key.size == 0 && x.val.size == 0))) && (decide (x.key.size ≤ 100) && decide (x.val.size ≤ 1000))) && (if hasN x.kind then manyR x.kind x.n else x.n == 0)))) := by
  obtain ⟨k, t, m, s, y, v, n, o, a⟩ := x
  have ht0 : wordB t = true → 1 ≤ t.size := fun h => by have := (wordL_out h).1; rwa [size_listC] at this
  have hm0 : wordB m = true → 1 ≤ m.size := fun h => by have := (wordL_out h).1; rwa [size_listC] at this
  unfold CM.right fitsB
  simp only
  by_cases hk : k = 1 ∨ k = 2 ∨ k = 3 ∨ k = 4 ∨ k = 5 ∨ k = 6 ∨ k = 7 ∨ k = 8 ∨ k = 9 ∨ k = 10 ∨ k = 11
  · unfold textB keyB valB
    generalize wordB t = wt at *
    generalize wordB m = wm at *
    generalize t.size = ts at *
    generalize m.size = ms at *
    generalize y.size = ys at *
    generalize v.size = vs at *
    rw [Bool.eq_iff_iff]
    rcases hk with rfl | rfl | rfl | rfl | rfl | rfl | rfl | rfl | rfl | rfl | rfl <;> cases wt <;> cases wm <;> simp [nodeB, greatB, kindOk, hasTopic, hasName, seqB, manyB, hasN, manyR] at ht0 hm0 ⊢ <;> omega
  · have e5 : kindOk k = false := by unfold kindOk; simp; omega
    rw [e5]
    simp
theorem rright (x : CM) (hx : x.ok) (w : World) :
    Calls Tryz.prog 45 #[x.v] w fun e w' => e = .returned (.bool x.right) ∧ Below w.heap.size w w' := by
  have hE := right_ref x
  obtain ⟨k, t, m, s, y, v, n, o, a⟩ := x
  have h6 := hx.y
  have h7 := hx.v
  have hN := rneed k
  have hW1 := rword t hx.t
  have hW2 := rword m hx.m
  have i1 := @empty_list t
  have i2 := @empty_list m
  have i3 := @empty_list y
  have i4 := @empty_list v
  simp only at h6 h7 hE hN hW1 hW2
  have i0 : (s != 0) = !(s == 0) := rfl
  generalize hb2 : (kindOk k && decide (0 ≤ o ∧ o ≤ 6 ∧ 0 ≤ a ∧ a ≤ 9007199254740991 ∧ 0 ≤ s ∧ s ≤ 9007199254740991 ∧ -1 ≤ n ∧ n ≤ 9007199254740991)) = b2 at hE
  generalize hb6 : ((hasTopic k == wordB t) && ((hasTopic k || t.size == 0) && ((hasName k == wordB m) && (hasName k || m.size == 0)))) = b6 at hE
  generalize hb8 : ((decide (k = 2) || (s == 0 && (y.size == 0 && v.size == 0))) && (decide (y.size ≤ 100) && decide (v.size ≤ 1000))) = b8 at hE
  generalize CM.right _ = rr at *
  go_enter Tryz.func45, Tryz.ntmps45
  refine wp_seq (reg_mono (rr_r0 (x := ⟨k, t, m, s, y, v, n, o, a⟩) (by kernel_rfl) _ (v := ⟨_, _, _, _, _, _, _, _, _, _, _, _, _, _, _, _, _, _⟩) ⟨rfl, rfl, rfl, rfl, rfl, rfl, rfl, rfl, rfl, rfl, rfl, rfl, rfl, rfl, rfl, rfl, rfl, rfl, rfl, rfl⟩ rfl ?_))
  intro a1 w1 b F1 D1 B1
  refine wp_seq (reg_mono (rr_r1 (by kernel_rfl) _ F1 rfl D1 hN ?_))
  intro a2 F2
  refine wp_seq (wp_seq (reg_mono (rr_r2 (bb := !b2) (by kernel_rfl) _ F2 rfl rfl D1 (by rw [← hb2]) ?_)))
  intro a3 F3
  cases b2 with
  | false =>
    refine wp_cond_true F3.s60 ?_
    refine wp_seq (reg_mono (rr_r3 (by kernel_rfl) _ F3 ?_))
    intro a4 F4
    refine wp_ret ?_
    exact rr_ret (R := fun e w' => e = .returned (.bool rr) ∧ Below w.heap.size w w') F4 rfl ⟨by rw [hE]; rfl, B1⟩
  | true =>
  refine wp_cond_false F3.s60 (wp_skip ?_)
  refine wp_seq (reg_mono (rr_r4 (by kernel_rfl) _ F3 rfl D1 hW1 ?_))
  intro a4 F4
  refine wp_seq (reg_mono (rr_r5 (by kernel_rfl) _ F4 rfl D1 hW2 ?_))
  intro a5 F5
  refine wp_seq (wp_seq (reg_mono (rr_r6 (bb := !b6) (by kernel_rfl) _ F5 rfl rfl rfl rfl rfl D1 i1 i2 (by rw [← hb6]) ?_)))
  intro a6 F6
  cases b6 with
  | false =>
    refine wp_cond_true F6.s92 ?_
    refine wp_seq (reg_mono (rr_r7 (by kernel_rfl) _ F6 ?_))
    intro a7 F7
    refine wp_ret ?_
    exact rr_ret (R := fun e w' => e = .returned (.bool rr) ∧ Below w.heap.size w w') F7 rfl ⟨by rw [hE]; rfl, B1⟩
  | true =>
  refine wp_cond_false F6.s92 (wp_skip ?_)
  refine wp_seq (wp_seq (reg_mono (rr_r8 (bb := !b8) (by kernel_rfl) _ F6 rfl rfl D1 i0 i3 i4 h6 h7 (by rw [← hb8]) ?_)))
  intro a7 F7
  cases b8 with
  | false =>
    refine wp_cond_true F7.s121 ?_
    refine wp_seq (reg_mono (rr_r9 (by kernel_rfl) _ F7 ?_))
    intro a8 F8
    refine wp_ret ?_
    exact rr_ret (R := fun e w' => e = .returned (.bool rr) ∧ Below w.heap.size w w') F8 rfl ⟨by rw [hE]; rfl, B1⟩
  | true =>
  refine wp_cond_false F7.s121 (wp_skip ?_)
  obtain ⟨hn, hhn⟩ : ∃ hn, hasN k = hn := ⟨_, rfl⟩
  refine wp_seq (wp_seq (reg_mono (rr_r10 (p := hn) (by kernel_rfl) _ F7 (by rw [← hhn]) ?_)))
  intro a8 F8
  cases hn with
  | false =>
    refine wp_cond_true F8.s123 ?_
    refine wp_seq (reg_mono (rr_r11 (bb := n == 0) (by kernel_rfl) _ F8 rfl D1 rfl ?_))
    intro a9 F9
    refine wp_ret ?_
    exact rr_ret (R := fun e w' => e = .returned (.bool rr) ∧ Below w.heap.size w w') F9 rfl ⟨by rw [hE, hhn]; rfl, B1⟩
  | true =>
  rw [hhn] at hE
  have hE : rr = manyR k n := hE
  refine wp_cond_false F8.s123 (wp_skip ?_)
  refine wp_seq (wp_seq (reg_mono (rr_r12 (by kernel_rfl) _ F8 rfl D1 ?_)))
  intro a9 F9
  refine wp_block ?_
  obtain ⟨k5, hk5⟩ : ∃ q, (k == 5) = q := ⟨_, rfl⟩
  refine wp_seq (reg_mono (rr_r13 (by kernel_rfl) _ F9 rfl hk5 ?_))
  intro a10 F10
  cases k5 with
  | true =>
    have hk : k = 5 := by simpa using hk5
    refine wp_cond_true F10.s129 ?_
    refine wp_seq (reg_mono (rr_r14 (bb := rr) (by kernel_rfl) _ F10 rfl D1 (by rw [hE]; unfold manyR; rw [if_pos hk]) ?_))
    intro a11 F11
    refine wp_ret ?_
    exact rr_ret (R := fun e w' => e = .returned (.bool rr) ∧ Below w.heap.size w w') F11 rfl ⟨rfl, B1⟩
  | false =>
  have hk : k ≠ 5 := by simpa using hk5
  refine wp_cond_false F10.s129 ?_
  refine wp_mid (fun a' W => (∃ v, Frr a' v ∧ v.v1 = .pointer (some ⟨b, 0, none⟩) ∧ v.v128 = .int .i64 k ∧ v.v139 = .bool (decide (k = 10 ∨ k = 11))) ∧ W = w1) ?ten ?_
  case ten =>
    obtain ⟨k10, hk10⟩ : ∃ q, (k == 10) = q := ⟨_, rfl⟩
    refine wp_seq (reg_mono (rr_r15 (by kernel_rfl) _ F10 rfl hk10 ?_))
    intro a11 F11
    cases k10 with
    | true =>
      have h10 : k = 10 := by simpa using hk10
      refine wp_cond_true F11.s139 (wp_skip ?_)
      exact ⟨⟨_, F11, rfl, rfl, congrArg Value.bool (decide_eq_true (Or.inl h10)).symm⟩, rfl⟩
    | false =>
      have h10 : k ≠ 10 := by simpa using hk10
      refine wp_cond_false F11.s139 ?_
      obtain ⟨k11, hk11⟩ : ∃ q, (k == 11) = q := ⟨_, rfl⟩
      refine reg_mono (rr_r16 (by kernel_rfl) _ F11 rfl hk11 ?_)
      intro a12 F12
      refine ⟨⟨_, F12, rfl, rfl, ?_⟩, rfl⟩
      show Value.bool k11 = _
      rw [← hk11]
      congr 1
      rw [Bool.eq_iff_iff]
      simp
      omega
  rintro a11 W ⟨⟨v11, F11, p1, p128, p139⟩, rfl⟩
  by_cases ht : k = 10 ∨ k = 11
  · rw [decide_eq_true ht] at p139
    refine wp_cond_true (F11.s139.trans p139) ?_
    refine wp_seq (reg_mono (rr_r17 (bb := rr) (by kernel_rfl) _ F11 p1 D1 (by rw [hE]; unfold manyR; rw [if_neg hk, if_pos ht]) ?_))
    intro a12 F12
    refine wp_ret ?_
    exact rr_ret (R := fun e w' => e = .returned (.bool rr) ∧ Below w.heap.size w w') F12 rfl ⟨rfl, B1⟩
  · rw [decide_eq_false ht] at p139
    refine wp_cond_false (F11.s139.trans p139) ?_
    obtain ⟨k3, hk3⟩ : ∃ q, (k == 3) = q := ⟨_, rfl⟩
    refine wp_seq (reg_mono (rr_r18 (by kernel_rfl) _ F11 p128 hk3 ?_))
    intro a12 F12
    cases k3 with
    | true =>
      have h3 : k = 3 := by simpa using hk3
      refine wp_cond_true F12.s150 ?_
      refine wp_seq (reg_mono (rr_r19 (by kernel_rfl) _ F12 ?_))
      intro a13 F13
      refine wp_ret ?_
      exact rr_ret (R := fun e w' => e = .returned (.bool rr) ∧ Below w.heap.size w w') F13 rfl ⟨by rw [hE]; unfold manyR; rw [if_neg hk, if_neg ht, if_pos h3], B1⟩
    | false =>
      have h3 : k ≠ 3 := by simpa using hk3
      refine wp_cond_false F12.s150 (wp_skip ?_)
      show Code.wp _ _ _ _ _
      refine wp_seq (reg_mono (rr_r20 (bb := rr) (by kernel_rfl) _ F12 p1 D1 (by rw [hE]; unfold manyR; rw [if_neg hk, if_neg ht, if_neg h3]) ?_))
      intro a13 F13
      refine wp_ret ?_
      exact rr_ret F13 rfl ⟨rfl, B1⟩
end Go.Proofs.YtlfodldlkchmoaaGreat
namespace Go.Proofs.YtlfodldlkchmoaaGreat.K
open Go.ChangeShapes Go.WideShapes Go.ChangeAt Go.RowKit Go.Deep
set_option maxRecDepth 100000
theorem Tryz.cellsInt : Tryz.prog.cellsOf 3 = 1 := by kernel_rfl
theorem Tryz.cellsString : Tryz.prog.cellsOf 9 = 1 := by kernel_rfl
theorem addr_add (b off n : Nat) : (⟨b, off, none⟩ : Addr).add n = ⟨b, off + n, none⟩ := by
  unfold Addr.add
  split
  · rename_i h; subst h; rfl
  · rfl
end Go.Proofs.YtlfodldlkchmoaaGreat.K
namespace Go.Proofs.YtlfodldlkchmoaaGreat.K
open Go.ChangeShapes Go.WideShapes Go.ChangeAt Go.RowKit
set_option maxRecDepth 100000
theorem own : ownKnob Tryz.prog.godebug = none := by kernel_rfl
theorem laidOut : laidOutB Tryz.prog = true := by kernel_rfl
end Go.Proofs.YtlfodldlkchmoaaGreat.K
namespace Go.Proofs.YtlfodldlkchmoaaGreat.K
open Go.RowKit
set_option maxRecDepth 100000
end Go.Proofs.YtlfodldlkchmoaaGreat.K
namespace Go.Proofs.YtlfodldlkchmoaaGreat.K
open Go.RowKit
set_option maxHeartbeats 2000000
set_option maxRecDepth 100000
def rwF (k : Int) : Int := if k = 1 then 1 else if k = 2 then 4 else if k = 3 then 8 else 0
theorem rwidth_any (k : Int) (w : World) :
    Calls Tryz.prog 123 #[.int .i64 k] w fun e w' => e = .returned (.int .i64 (rwF k)) ∧ w' = w := by
  by_cases h1 : k = 1
  · subst h1
    go_enter Tryz.func123, Tryz.ntmps123
    go_wp2
    go_ret
    exact ⟨rfl, rfl⟩
  · by_cases h2 : k = 2
    · subst h2
      go_enter Tryz.func123, Tryz.ntmps123
      go_wp2
      go_ret
      exact ⟨rfl, rfl⟩
    · by_cases h3 : k = 3
      · subst h3
        go_enter Tryz.func123, Tryz.ntmps123
        go_wp2
        go_ret
        exact ⟨rfl, rfl⟩
      · have a1 : (k == 1) = false := beq_eq_false_iff_ne.2 h1
        have a2 : (k == 2) = false := beq_eq_false_iff_ne.2 h2
        have a3 : (k == 3) = false := beq_eq_false_iff_ne.2 h3
        have hw : rwF k = 0 := by simp [rwF, h1, h2, h3]
        rw [hw]
        clear hw h1 h2 h3
        go_enter Tryz.func123, Tryz.ntmps123
        go_wp2
        go_ret
        exact ⟨rfl, rfl⟩
theorem conv_nums (w : World) (ns : List Nat) (k : Nat) (hk : ns.length = k) :
    (convert 177 9 (.slice (some ⟨w.heap.size, 0, none⟩) k k)).run Tryz.prog (w.alloc (.cells (ns.map fun n => Value.int .u8 ((n % 256 : Nat) : Int)).toArray 5)) =
      .ok (.string ⟨(ns.map fun n => (n % 256).toUInt8).toArray⟩) (w.alloc (.cells (ns.map fun n => Value.int .u8 ((n % 256 : Nat) : Int)).toArray 5)) := by
  subst hk
  have h := run_convert_bytes_back (P := Tryz.prog) (w.alloc (.cells (ns.map fun n => Value.int .u8 ((n % 256 : Nat) : Int)).toArray 5)) 177 9 5 ⟨w.heap.size, 0, none⟩ ns.length (ns.map fun n => (n % 256).toUInt8) Tryz.underlying177 Tryz.underlying5 Tryz.underlying9 ?_
  · rw [List.length_map] at h
    exact h
  · intro j hj
    rw [List.length_map] at hj
    rw [addr_add]
    have e : (w.alloc (.cells (ns.map fun n => Value.int .u8 ((n % 256 : Nat) : Int)).toArray 5)).heap[w.heap.size]? = some (.cells (ns.map fun n => Value.int .u8 ((n % 256 : Nat) : Int)).toArray 5) := by
      show (w.heap.push _)[w.heap.size]? = _
      simp
    rw [Lib.cell_of_heap e, Nat.zero_add]
    simp only [List.getElem?_toArray, List.getElem?_map, List.getElem_map]
    rw [List.getElem?_eq_getElem hj, Lib.toUInt8_mod]
    rfl
theorem be_1 (v : Nat) : Lib.beBytes 1 v = [v].map fun n => (n % 256).toUInt8 := by
  simp [Lib.beBytes, Lib.leBytes]
theorem num_1 (v : Nat) (w : World) (_hv : v < 18446744073709551616) :
    Calls Tryz.prog 124 #[.int .u64 v, .int .i64 1] w fun e w' => e = .returned (.string ⟨(Lib.beBytes 1 v).toArray⟩) ∧ Below w.heap.size w w' := by
  have hmk : ∀ w, (Instr.makeSlice 177 (.int .i64 1) (.int .i64 1)).run Tryz.prog w = .ok (.slice (some ⟨w.heap.size, 0, none⟩) 1 1) (w.alloc (.cells #[.int .u8 0] 5)) := fun _ => by kernel_rfl
  have hcv := conv_nums w [v] 1 rfl
  rw [← be_1] at hcv
  simp only [List.map_cons, List.map_nil, Int.natCast_emod, Int.cast_ofNat_Int] at hcv
  generalize Lib.beBytes 1 v = L at hcv ⊢
  go_enter Tryz.func124, Tryz.ntmps124
  go_wp2
  refine wp_loop_rounds 2 ?_
  rw [rounds_succ]; go_wp2
  rw [rounds_succ]; go_wp2
  go_ret
  exact ⟨rfl, (Below.refl _ _).alloc (Nat.le_refl _) _⟩
theorem be_4 (v : Nat) : Lib.beBytes 4 v = [v / 256 / 256 / 256, v / 256 / 256, v / 256, v].map fun n => (n % 256).toUInt8 := by
  simp [Lib.beBytes, Lib.leBytes]
theorem num_4 (v : Nat) (w : World) (_hv : v < 18446744073709551616) :
    Calls Tryz.prog 124 #[.int .u64 v, .int .i64 4] w fun e w' => e = .returned (.string ⟨(Lib.beBytes 4 v).toArray⟩) ∧ Below w.heap.size w w' := by
  have hmk : ∀ w, (Instr.makeSlice 177 (.int .i64 4) (.int .i64 4)).run Tryz.prog w = .ok (.slice (some ⟨w.heap.size, 0, none⟩) 4 4) (w.alloc (.cells #[.int .u8 0, .int .u8 0, .int .u8 0, .int .u8 0] 5)) := fun _ => by kernel_rfl
  have hcv := conv_nums w [v / 256 / 256 / 256, v / 256 / 256, v / 256, v] 4 rfl
  rw [← be_4] at hcv
  simp only [List.map_cons, List.map_nil, Int.natCast_emod, Int.natCast_ediv, Int.cast_ofNat_Int] at hcv
  generalize Lib.beBytes 4 v = L at hcv ⊢
  go_enter Tryz.func124, Tryz.ntmps124
  go_wp2
  refine wp_loop_rounds 5 ?_
  rw [rounds_succ]; go_wp2
  rw [rounds_succ]; go_wp2
  rw [rounds_succ]; go_wp2
  rw [rounds_succ]; go_wp2
  rw [rounds_succ]; go_wp2
  go_ret
  exact ⟨rfl, (Below.refl _ _).alloc (Nat.le_refl _) _⟩
theorem be_8 (v : Nat) : Lib.beBytes 8 v = [v / 256 / 256 / 256 / 256 / 256 / 256 / 256, v / 256 / 256 / 256 / 256 / 256 / 256, v / 256 / 256 / 256 / 256 / 256, v / 256 / 256 / 256 / 256, v / 256 / 256 / 256, v / 256 / 256, v / 256, v].map fun n => (n % 256).toUInt8 := by
  simp [Lib.beBytes, Lib.leBytes]
theorem num_8 (v : Nat) (w : World) (_hv : v < 18446744073709551616) :
    Calls Tryz.prog 124 #[.int .u64 v, .int .i64 8] w fun e w' => e = .returned (.string ⟨(Lib.beBytes 8 v).toArray⟩) ∧ Below w.heap.size w w' := by
  have hmk : ∀ w, (Instr.makeSlice 177 (.int .i64 8) (.int .i64 8)).run Tryz.prog w = .ok (.slice (some ⟨w.heap.size, 0, none⟩) 8 8) (w.alloc (.cells #[.int .u8 0, .int .u8 0, .int .u8 0, .int .u8 0, .int .u8 0, .int .u8 0, .int .u8 0, .int .u8 0] 5)) := fun _ => by kernel_rfl
  have hcv := conv_nums w [v / 256 / 256 / 256 / 256 / 256 / 256 / 256, v / 256 / 256 / 256 / 256 / 256 / 256, v / 256 / 256 / 256 / 256 / 256, v / 256 / 256 / 256 / 256, v / 256 / 256 / 256, v / 256 / 256, v / 256, v] 8 rfl
  rw [← be_8] at hcv
  simp only [List.map_cons, List.map_nil, Int.natCast_emod, Int.natCast_ediv, Int.cast_ofNat_Int] at hcv
  generalize Lib.beBytes 8 v = L at hcv ⊢
  go_enter Tryz.func124, Tryz.ntmps124
  go_wp2
  refine wp_loop_rounds 9 ?_
  rw [rounds_succ]; go_wp2
  rw [rounds_succ]; go_wp2
  rw [rounds_succ]; go_wp2
  rw [rounds_succ]; go_wp2
  rw [rounds_succ]; go_wp2
  rw [rounds_succ]; go_wp2
  rw [rounds_succ]; go_wp2
  rw [rounds_succ]; go_wp2
  rw [rounds_succ]; go_wp2
  go_ret
  exact ⟨rfl, (Below.refl _ _).alloc (Nat.le_refl _) _⟩
end Go.Proofs.YtlfodldlkchmoaaGreat.K
namespace Go.Proofs.YtlfodldlkchmoaaGreat.K
open Go.RowKit
set_option maxHeartbeats 800000
set_option maxRecDepth 100000
theorem one_kind (k n : Int) (s : ByteArray) (w : World) (hk : kindB k = false) :
    Calls Tryz.prog 92 #[.agg #[.int .i64 k, .int .u64 n, .string s]] w fun e w' => e = .returned (.tuple #[.string ⟨#[]⟩, .int .i64 1]) ∧ Below w.heap.size w w' := by
  have h1 : k ≠ 1 ∧ k ≠ 2 ∧ k ≠ 3 ∧ k ≠ 4 := by
    refine ⟨?_, ?_, ?_, ?_⟩ <;> (rintro rfl; simp [kindB] at hk)
  have e0 : rwF k = 0 := by simp [rwF, h1]
  have h4 : (k != 4) = true := by rw [bne_iff_ne]; exact h1.2.2.2
  have HW : Hid (∀ w, Calls Tryz.prog 123 #[.int .i64 k] w fun e w' => e = .returned (.int .i64 0) ∧ w' = w) := fun w => by rw [← e0]; exact rwidth_any k w
  clear h1 e0 hk
  go_enter Tryz.func92, Tryz.ntmps92
  go_wp2_with (go_at_call 123; refine (HW.out _).mono ?_; rintro e w' ⟨rfl, rfl⟩)
  go_ret2
  exact ⟨rfl, (Below.refl _ _).alloc (Nat.le_refl _) _⟩
theorem one_text_n (n : Int) (s : ByteArray) (w : World) (hn : (n != 0) = true) :
    Calls Tryz.prog 92 #[.agg #[.int .i64 4, .int .u64 n, .string s]] w fun e w' => e = .returned (.tuple #[.string ⟨#[]⟩, .int .i64 1]) ∧ Below w.heap.size w w' := by
  have HW : Hid (∀ w, Calls Tryz.prog 123 #[.int .i64 4] w fun e w' => e = .returned (.int .i64 0) ∧ w' = w) := fun w => rwidth_any 4 w
  go_enter Tryz.func92, Tryz.ntmps92
  go_wp2_with (go_at_call 123; refine (HW.out _).mono ?_; rintro e w' ⟨rfl, rfl⟩)
  go_ret2
  exact ⟨rfl, (Below.refl _ _).alloc (Nat.le_refl _) _⟩
theorem one_text_long (s : ByteArray) (w : World) (hl : 100000 < s.size) (_hs : s.size ≤ 9223372036854775807) :
    Calls Tryz.prog 92 #[.agg #[.int .i64 4, .int .u64 0, .string s]] w fun e w' => e = .returned (.tuple #[.string ⟨#[]⟩, .int .i64 3]) ∧ Below w.heap.size w w' := by
  have HW : Hid (∀ w, Calls Tryz.prog 123 #[.int .i64 4] w fun e w' => e = .returned (.int .i64 0) ∧ w' = w) := fun w => rwidth_any 4 w
  go_enter Tryz.func92, Tryz.ntmps92
  go_wp2_with (go_at_call 123; refine (HW.out _).mono ?_; rintro e w' ⟨rfl, rfl⟩)
  go_ret2
  exact ⟨rfl, (Below.refl _ _).alloc (Nat.le_refl _) _⟩
theorem one_num1_s (n : Int) (s : ByteArray) (w : World) (hs : s.toList.isEmpty = false) :
    Calls Tryz.prog 92 #[.agg #[.int .i64 1, .int .u64 n, .string s]] w fun e w' => e = .returned (.tuple #[.string ⟨#[]⟩, .int .i64 1]) ∧ Below w.heap.size w w' := by
  have HW : Hid (∀ w, Calls Tryz.prog 123 #[.int .i64 1] w fun e w' => e = .returned (.int .i64 1) ∧ w' = w) := fun w => rwidth_any 1 w
  go_enter Tryz.func92, Tryz.ntmps92
  go_wp2_with (go_at_call 123; refine (HW.out _).mono ?_; rintro e w' ⟨rfl, rfl⟩)
  go_ret2
  exact ⟨rfl, (Below.refl _ _).alloc (Nat.le_refl _) _⟩
theorem one_num1_n (n : Int) (s : ByteArray) (w : World) (hs : s.toList.isEmpty = true) (_h0 : 0 ≤ n) (hn : 256 ≤ n) :
    Calls Tryz.prog 92 #[.agg #[.int .i64 1, .int .u64 n, .string s]] w fun e w' => e = .returned (.tuple #[.string ⟨#[]⟩, .int .i64 1]) ∧ Below w.heap.size w w' := by
  have HW : Hid (∀ w, Calls Tryz.prog 123 #[.int .i64 1] w fun e w' => e = .returned (.int .i64 1) ∧ w' = w) := fun w => rwidth_any 1 w
  have hn2 : (n / 256 != 0) = true := by rw [bne_iff_ne]; omega
  go_enter Tryz.func92, Tryz.ntmps92
  go_wp2_with (go_at_call 123; refine (HW.out _).mono ?_; rintro e w' ⟨rfl, rfl⟩)
  go_ret2
  exact ⟨rfl, (Below.refl _ _).alloc (Nat.le_refl _) _⟩
theorem one_num1_ok (m : Nat) (s : ByteArray) (w : World) (hs : s.toList.isEmpty = true) (hn : m < 256) :
    Calls Tryz.prog 92 #[.agg #[.int .i64 1, .int .u64 m, .string s]] w fun e w' => e = .returned (.tuple #[.string ⟨(Lib.beBytes 1 m).toArray⟩, .int .i64 0]) ∧ Below w.heap.size w w' := by
  have HW : Hid (∀ w, Calls Tryz.prog 123 #[.int .i64 1] w fun e w' => e = .returned (.int .i64 1) ∧ w' = w) := fun w => rwidth_any 1 w
  have hn2 : ((m : Int) / 256 != 0) = false := by simp; omega
  have HN := hide (fun w => num_1 m w (by omega))
  go_enter Tryz.func92, Tryz.ntmps92
  go_wp2_with (go_at_call 123; refine (HW.out _).mono ?_; rintro e w' ⟨rfl, rfl⟩)
  refine (HN.out _).mono ?_
  rintro e w2 ⟨rfl, hb⟩
  have B2 := hide (((Below.refl _ _).alloc (Nat.le_refl _) _).trans (hb.mono (by simp)))
  clear hb
  go_wp2
  go_ret2
  exact ⟨rfl, B2.out⟩
theorem one_num2_s (n : Int) (s : ByteArray) (w : World) (hs : s.toList.isEmpty = false) :
    Calls Tryz.prog 92 #[.agg #[.int .i64 2, .int .u64 n, .string s]] w fun e w' => e = .returned (.tuple #[.string ⟨#[]⟩, .int .i64 1]) ∧ Below w.heap.size w w' := by
  have HW : Hid (∀ w, Calls Tryz.prog 123 #[.int .i64 2] w fun e w' => e = .returned (.int .i64 4) ∧ w' = w) := fun w => rwidth_any 2 w
  go_enter Tryz.func92, Tryz.ntmps92
  go_wp2_with (go_at_call 123; refine (HW.out _).mono ?_; rintro e w' ⟨rfl, rfl⟩)
  go_ret2
  exact ⟨rfl, (Below.refl _ _).alloc (Nat.le_refl _) _⟩
theorem one_num2_n (n : Int) (s : ByteArray) (w : World) (hs : s.toList.isEmpty = true) (_h0 : 0 ≤ n) (hn : 4294967296 ≤ n) :
    Calls Tryz.prog 92 #[.agg #[.int .i64 2, .int .u64 n, .string s]] w fun e w' => e = .returned (.tuple #[.string ⟨#[]⟩, .int .i64 1]) ∧ Below w.heap.size w w' := by
  have HW : Hid (∀ w, Calls Tryz.prog 123 #[.int .i64 2] w fun e w' => e = .returned (.int .i64 4) ∧ w' = w) := fun w => rwidth_any 2 w
  have hn2 : (n / 4294967296 != 0) = true := by rw [bne_iff_ne]; omega
  go_enter Tryz.func92, Tryz.ntmps92
  go_wp2_with (go_at_call 123; refine (HW.out _).mono ?_; rintro e w' ⟨rfl, rfl⟩)
  go_ret2
  exact ⟨rfl, (Below.refl _ _).alloc (Nat.le_refl _) _⟩
theorem one_num2_ok (m : Nat) (s : ByteArray) (w : World) (hs : s.toList.isEmpty = true) (hn : m < 4294967296) :
    Calls Tryz.prog 92 #[.agg #[.int .i64 2, .int .u64 m, .string s]] w fun e w' => e = .returned (.tuple #[.string ⟨(Lib.beBytes 4 m).toArray⟩, .int .i64 0]) ∧ Below w.heap.size w w' := by
  have HW : Hid (∀ w, Calls Tryz.prog 123 #[.int .i64 2] w fun e w' => e = .returned (.int .i64 4) ∧ w' = w) := fun w => rwidth_any 2 w
  have hn2 : ((m : Int) / 4294967296 != 0) = false := by simp; omega
  have HN := hide (fun w => num_4 m w (by omega))
  go_enter Tryz.func92, Tryz.ntmps92
  go_wp2_with (go_at_call 123; refine (HW.out _).mono ?_; rintro e w' ⟨rfl, rfl⟩)
  refine (HN.out _).mono ?_
  rintro e w2 ⟨rfl, hb⟩
  have B2 := hide (((Below.refl _ _).alloc (Nat.le_refl _) _).trans (hb.mono (by simp)))
  clear hb
  go_wp2
  go_ret2
  exact ⟨rfl, B2.out⟩
theorem one_num3_s (n : Int) (s : ByteArray) (w : World) (hs : s.toList.isEmpty = false) :
    Calls Tryz.prog 92 #[.agg #[.int .i64 3, .int .u64 n, .string s]] w fun e w' => e = .returned (.tuple #[.string ⟨#[]⟩, .int .i64 1]) ∧ Below w.heap.size w w' := by
  have HW : Hid (∀ w, Calls Tryz.prog 123 #[.int .i64 3] w fun e w' => e = .returned (.int .i64 8) ∧ w' = w) := fun w => rwidth_any 3 w
  go_enter Tryz.func92, Tryz.ntmps92
  go_wp2_with (go_at_call 123; refine (HW.out _).mono ?_; rintro e w' ⟨rfl, rfl⟩)
  go_ret2
  exact ⟨rfl, (Below.refl _ _).alloc (Nat.le_refl _) _⟩
theorem one_num3_ok (m : Nat) (s : ByteArray) (w : World) (hs : s.toList.isEmpty = true) (hn : m < 18446744073709551616) :
    Calls Tryz.prog 92 #[.agg #[.int .i64 3, .int .u64 m, .string s]] w fun e w' => e = .returned (.tuple #[.string ⟨(Lib.beBytes 8 m).toArray⟩, .int .i64 0]) ∧ Below w.heap.size w w' := by
  have HW : Hid (∀ w, Calls Tryz.prog 123 #[.int .i64 3] w fun e w' => e = .returned (.int .i64 8) ∧ w' = w) := fun w => rwidth_any 3 w
  have HN := hide (fun w => num_8 m w (by omega))
  go_enter Tryz.func92, Tryz.ntmps92
  go_wp2_with (go_at_call 123; refine (HW.out _).mono ?_; rintro e w' ⟨rfl, rfl⟩)
  refine (HN.out _).mono ?_
  rintro e w2 ⟨rfl, hb⟩
  have B2 := hide (((Below.refl _ _).alloc (Nat.le_refl _) _).trans (hb.mono (by simp)))
  clear hb
  go_wp2
  go_ret2
  exact ⟨rfl, B2.out⟩
end Go.Proofs.YtlfodldlkchmoaaGreat.K
namespace Go.Proofs.YtlfodldlkchmoaaGreat.K
open Go.RowKit
set_option maxHeartbeats 400000
set_option maxRecDepth 100000
theorem one_text_ok (s : ByteArray) (w : World) (hl : s.size ≤ 100000) :
    Calls Tryz.prog 92 #[.agg #[.int .i64 4, .int .u64 0, .string s]] w fun e w' => e = .returned (.tuple #[.string ⟨(Lib.beBytes 4 s.size ++ s.data.toList).toArray⟩, .int .i64 0]) ∧ Below w.heap.size w w' := by
  have HW : Hid (∀ w, Calls Tryz.prog 123 #[.int .i64 4] w fun e w' => e = .returned (.int .i64 0) ∧ w' = w) := fun w => rwidth_any 4 w
  have HN : Hid (∀ w, Calls Tryz.prog 124 #[.int .u64 (IntKind.u64.wrap (s.size : Int)), .int .i64 4] w fun e w' => e = .returned (.string ⟨(Lib.beBytes 4 s.size).toArray⟩) ∧ Below w.heap.size w w') := by
    intro w
    rw [wraps_u64 _ (by omega) (by omega)]
    exact num_4 s.size w (by omega)
  have hN : (⟨(Lib.beBytes 4 s.size).toArray⟩ : ByteArray).size ≤ 4 := by
    show (Lib.beBytes 4 s.size).toArray.size ≤ 4
    rw [List.size_toArray, Lib.beBytes_length]
    exact Nat.le_refl _
  have e1 : (⟨(Lib.beBytes 4 s.size ++ s.data.toList).toArray⟩ : ByteArray) = ⟨(Lib.beBytes 4 s.size).toArray⟩ ++ s := by
    have h := ByteArray.mk_append_mk (Lib.beBytes 4 s.size) s.data.toList
    rw [mk_back] at h
    exact h.symm
  rw [e1]
  clear e1
  generalize (⟨(Lib.beBytes 4 s.size).toArray⟩ : ByteArray) = N at HN hN ⊢
  go_enter Tryz.func92, Tryz.ntmps92
  go_wp2_with (go_at_call 123; refine (HW.out _).mono ?_; rintro e w' ⟨rfl, rfl⟩)
  go_region_held (fun w' => w'.cell? ⟨w.heap.size, 2, none⟩ = some (.string s)) (go_keep) ((go_at_call 124; refine (HN.out _).mono ?_; rintro e w2 ⟨rfl, hb⟩; have c2 : w2.cell? ⟨w.heap.size, 2, none⟩ = some (.string s) := by (rw [hb.cell (p := ⟨w.heap.size, 2, none⟩) (by simp)]; simp)))
  have B2 := hide (((Below.refl _ _).alloc (Nat.le_refl _) _).drew.trans (hb.mono (by simp)))
  clear hb c2
  go_wp2
  go_ret2
  exact ⟨rfl, B2.out⟩
end Go.Proofs.YtlfodldlkchmoaaGreat.K
