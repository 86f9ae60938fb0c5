/-
  The program's Decode (mkqv.py)
-/
import Derived.Test.YtfcpclpaalekiaaZQH
import Derived.Test.YtfcpclpaalekiaaZKScope
import Derived.Test.YtfcpclpaalekiaaZV3
import Derived.Test.YtfcpclpaalekiaaZQF
import Derived.Test.YtfcpclpaalekiaaZKW8
namespace Go.Proofs.Ytfcpclpaalekiaa
open Go.RowKit
set_option maxHeartbeats 8000000
set_option maxRecDepth 100000
attribute [local go_sem ↓] Go.wp_at_zero Go.wp_at_succ
set_option linter.unusedSimpArgs false
set_option linter.unusedVariables false
theorem ecoded_in (ao : Option Addr) (n cp : Nat) (w : World) : Calls Try.prog 70 #[.slice ao n cp] w fun e w' => e = .returned (.func (.func 82) #[] #[.pointer (some ⟨w.heap.size, 0, none⟩)]) ∧ w' = w.alloc (.cells #[.slice ao n cp] 60) := by
  go_enter Try.func70, Try.ntmps70
  go_wp2
  go_ret
  exact ⟨rfl, rfl⟩
theorem frame_vo (t : Array Value) (h : t.size = 13) : ∃ u : Nat → Value, t = List.toArray (u 0 :: u 1 :: u 2 :: u 3 :: u 4 :: u 5 :: u 6 :: u 7 :: u 8 :: u 9 :: u 10 :: u 11 :: u 12 :: []) := by
  refine ⟨fun i => t.getD i undef, ?_⟩
  refine Eq.trans (b := ((List.range 13).map fun i => t.getD i undef).toArray) ?_ rfl
  apply Array.ext
  · simp [h]
  · intro k h1 h2
    simp [Array.getD, h1]
structure Vvo where
  v0 : Value
  v2 : Value
structure Fvo (a : Act) (v : Vvo) : Prop where
  size : a.tmps.size = 13
  defers : a.defers = []
  s0 : a.tmps.getD 0 undef = v.v0
  s2 : a.tmps.getD 2 undef = v.v2
theorem frx_vo {a : Act} {v0 v2 : Value} (h : Fvo a ⟨v0, v2⟩) : ∃ u : Nat → Value, a = ⟨List.toArray (v0 :: u 1 :: v2 :: u 3 :: u 4 :: u 5 :: u 6 :: u 7 :: u 8 :: u 9 :: u 10 :: u 11 :: u 12 :: []), []⟩ := by
  obtain ⟨t', d'⟩ := a
  obtain ⟨hs, hd, q0, q2⟩ := h
  obtain ⟨u, hu⟩ := frame_vo t' hs
  simp only at hd q0 q2
  subst hu hd
  have e0 : u 0 = v0 := q0
  have e2 : u 2 = v2 := q2
  refine ⟨u, ?_⟩
  rw [e0, e2]
theorem vo_r1 {K : Act → World → Prop} {c : Code} (hc : regOf (Try.f51.body.getD .skip) 1 = some c) (a : Act) {v : Vvo} {wq : World} {b off n oc m rb B : Nat} {num : Int} {L : List MB} {ao1 : Option Addr} (hF : Fvo a v) (h0v : v.v0 = .slice (some ⟨b, off, none⟩) n oc) (h2v : v.v2 = .pointer (some ⟨rb, 0, none⟩)) (hao1 : ao1 = if oc = 1 then some ⟨b, off, none⟩ else some ⟨b, off + 3, none⟩) (hn : 1 ≤ n) (hnc : n ≤ oc) (hbl : b < wq.heap.size) (hy0 : wq.cell? ⟨b, off + 1, none⟩ = some (.int .u64 num)) (hR : wq.heap[rb]? = some (.cells #[.int .i64 0, .slice none 0 0] tView (0, 0))) (hrb : B ≤ rb) (hB : B ≤ wq.heap.size) (hC : ∀ W Bc, Below wq.heap.size wq W → W.heap[Bc]? = some (.cells #[.slice ao1 (n - 1) (oc - 1)] 60 (0, 0)) → Calls Try.prog 69 #[.func (.func 82) #[] #[.pointer (some ⟨Bc, 0, none⟩)]] W fun e w' => ∃ ro rc, e = .returned (.slice ro m rc) ∧ w'.ownsRow wq.heap.size tMember 2 (.slice ro m rc) m (mbCells L) ∧ Below W.heap.size W w')
    (hQ : ∀ a' w' ro rc, Fvo a' v → w'.heap[rb]? = some (.cells #[.int .i64 (IntKind.i64.wrap num), .slice ro m rc] tView (0, 0)) → w'.ownsRow wq.heap.size tMember 2 (.slice ro m rc) m (mbCells L) → Below B wq w' → K a' w') :
    Code.wp Try.prog c (Exit.then K fun _ _ _ => False) a wq := by
  have HQ := hide hQ
  clear hQ
  obtain ⟨v0, v2⟩ := v
  simp only at h0v h2v HQ
  subst h0v h2v
  obtain ⟨u, rfl⟩ := frx_vo hF
  clear hF
  simp only [Try.f51, Option.getD_some, regOf] at hc
  injection hc with hc
  subst hc
  generalize u 1 = u1
  generalize u 3 = u3
  generalize u 4 = u4
  generalize u 5 = u5
  generalize u 6 = u6
  generalize u 7 = u7
  generalize u 8 = u8
  generalize u 9 = u9
  generalize u 10 = u10
  generalize u 11 = u11
  generalize u 12 = u12
  clear u
  have HC := hide hC
  have HE := hide (fun W : World => ecoded_in ao1 (n - 1) (oc - 1) W)
  have KE := hide (enters_of Try.func70 (by kernel_rfl) rfl)
  have KC := hide (enters_of Try.func69 (by kernel_rfl) rfl)
  have e1 : (1 : Int) ≤ (n : Int) := by omega
  have e2 : (n : Int) ≤ (oc : Int) := by omega
  have e3 : (0 : Int) < (n : Int) := by omega
  have e4 : 0 < n := by omega
  clear hC
  refine wp_region_last 10 rfl (by kernel_rfl) rfl rfl (by kernel_rfl) ?_
  intro ops' hops'
  simp only [idle, List.setIfInBounds_toArray, List.set_cons_succ, List.set_cons_zero] at hops'
  subst hops'
  refine wpAny_phi (ns := 13) (uses := (fun i => match i with | 0 => [3] | 1 => [4] | 2 => [5] | 3 => [6] | 4 => [7] | 5 => [8] | 6 => [9] | 7 => [10] | 8 => [11] | 9 => [12] | 10 => [] | _ => [])) (by kernel_rfl) (by kernel_rfl) (fun _ w w' => Below w.heap.size w w') (fun w => Below wq.heap.size wq w) (fun _ _ _ h r => h.trans (r.mono h.size)) ((Below.refl _ _).drew) (fun i => match i with | 0 => fun s w => s 3 = .slice (some ⟨b, off, none⟩) n oc | 1 => fun s w => s 4 = .pointer (some ⟨b, off, none⟩) | 2 => fun s w => s 5 = .pointer (some ⟨b, off + 1, none⟩) | 3 => fun s w => s 6 = .int .u64 num | 4 => fun s w => s 7 = .int .i64 (IntKind.i64.wrap num) | 5 => fun s w => s 8 = .slice (some ⟨b, off, none⟩) n oc | 6 => fun s w => s 9 = .slice ao1 (n - 1) (oc - 1) | 7 => fun s w => ∃ Bc, s 10 = .func (.func 82) #[] #[.pointer (some ⟨Bc, 0, none⟩)] ∧ w.heap[Bc]? = some (.cells #[.slice ao1 (n - 1) (oc - 1)] 60 (0, 0)) | 8 => fun s w => ∃ ro rc, s 11 = .slice ro m rc ∧ w.ownsRow wq.heap.size tMember 2 (.slice ro m rc) m (mbCells L) | 9 => fun s w => ∃ ro rc, s 12 = .agg #[.int .i64 (IntKind.i64.wrap num), .slice ro m rc] ∧ w.ownsRow wq.heap.size tMember 2 (.slice ro m rc) m (mbCells L) | 10 => fun s w => True | _ => fun _ _ => True) ?phc ?phh ?pstep ?pdone
  case phc =>
    intro i s s' w hx h
    match i, hx, h with
    | 0, hx, h =>
      have e3 := hx 3 (by simp)
      first | exact (show _ from by simp only [← e3] at *; exact h) | (simp only [e3] at h; exact h)
    | 1, hx, h =>
      have e4 := hx 4 (by simp)
      first | exact (show _ from by simp only [← e4] at *; exact h) | (simp only [e4] at h; exact h)
    | 2, hx, h =>
      have e5 := hx 5 (by simp)
      first | exact (show _ from by simp only [← e5] at *; exact h) | (simp only [e5] at h; exact h)
    | 3, hx, h =>
      have e6 := hx 6 (by simp)
      first | exact (show _ from by simp only [← e6] at *; exact h) | (simp only [e6] at h; exact h)
    | 4, hx, h =>
      have e7 := hx 7 (by simp)
      first | exact (show _ from by simp only [← e7] at *; exact h) | (simp only [e7] at h; exact h)
    | 5, hx, h =>
      have e8 := hx 8 (by simp)
      first | exact (show _ from by simp only [← e8] at *; exact h) | (simp only [e8] at h; exact h)
    | 6, hx, h =>
      have e9 := hx 9 (by simp)
      first | exact (show _ from by simp only [← e9] at *; exact h) | (simp only [e9] at h; exact h)
    | 7, hx, h =>
      have e10 := hx 10 (by simp)
      first | exact (show _ from by simp only [← e10] at *; exact h) | (simp only [e10] at h; exact h)
    | 8, hx, h =>
      have e11 := hx 11 (by simp)
      first | exact (show _ from by simp only [← e11] at *; exact h) | (simp only [e11] at h; exact h)
    | 9, hx, h =>
      have e12 := hx 12 (by simp)
      first | exact (show _ from by simp only [← e12] at *; exact h) | (simp only [e12] at h; exact h)
    | 10, hx, h =>
      exact h
    | (n + 11), _, h => exact h
  case phh =>
    intro i j s w w' hij h hb r
    match i, hij, h with
    | 0, hij, h =>
      exact h
    | 1, hij, h =>
      exact h
    | 2, hij, h =>
      exact h
    | 3, hij, h =>
      exact h
    | 4, hij, h =>
      exact h
    | 5, hij, h =>
      exact h
    | 6, hij, h =>
      exact h
    | 7, hij, h =>
      obtain ⟨Bc, h1, h2⟩ := h
      exact ⟨Bc, h1, (r.block _ (heap_lt h2)).trans h2⟩
    | 8, hij, h =>
      obtain ⟨ro, rc, h1, h2⟩ := h
      exact ⟨ro, rc, h1, below_row r h2⟩
    | 9, hij, h =>
      obtain ⟨ro, rc, h1, h2⟩ := h
      exact ⟨ro, rc, h1, below_row r h2⟩
    | 10, hij, h =>
      exact h
    | (n + 11), _, h => exact h
  case pstep =>
    intro i o ho a' w' hsa hb hd
    match i, ho with
    | 0, ho =>
      obtain rfl := Option.some.inj ho
      try dsimp only at hd
      have g0 : a'.tmps.getD 0 undef = .slice (some ⟨b, off, none⟩) n oc := hsa.rest 0 (by rfl)
      refine wpOp_of rfl rfl ?_
      refine op_run (v := .slice (some ⟨b, off, none⟩) n oc) (w' := w') ?_ ⟨_, rfl, slots_put (ns := 13) (hsa.size.trans rfl) (by decide), Below.refl _ _⟩
      simp only [execOp, Act.eval, List.map_toArray, List.map_cons, List.map_nil, g0]; first | (go_simp; done) | rfl
    | 1, ho =>
      obtain rfl := Option.some.inj ho
      try dsimp only at hd
      have d0 : a'.tmps.getD 3 undef = .slice (some ⟨b, off, none⟩) n oc := hd 0 (by rfl)
      refine wpOp_of rfl rfl ?_
      refine op_run (v := .pointer (some ⟨b, off, none⟩)) (w' := w') ?_ ⟨_, rfl, slots_put (ns := 13) (hsa.size.trans rfl) (by decide), Below.refl _ _⟩
      simp only [execOp, Act.eval, List.map_toArray, List.map_cons, List.map_nil, d0]; first | (go_simp; done) | rfl
    | 2, ho =>
      obtain rfl := Option.some.inj ho
      try dsimp only at hd
      have d1 : a'.tmps.getD 4 undef = .pointer (some ⟨b, off, none⟩) := hd 1 (by rfl)
      refine wpOp_of rfl rfl ?_
      refine op_run (v := .pointer (some ⟨b, off + 1, none⟩)) (w' := w') ?_ ⟨_, rfl, slots_put (ns := 13) (hsa.size.trans rfl) (by decide), Below.refl _ _⟩
      simp only [execOp, Act.eval, List.map_toArray, List.map_cons, List.map_nil, d1]; first | (go_simp; done) | rfl
    | 3, ho =>
      obtain rfl := Option.some.inj ho
      try dsimp only at hd
      have d2 : a'.tmps.getD 5 undef = .pointer (some ⟨b, off + 1, none⟩) := hd 2 (by rfl)
      have y0 := (hb.cell (p := ⟨b, off + 1, none⟩) hbl).trans hy0
      refine wpOp_of rfl rfl ?_
      refine op_run (v := .int .u64 num) (w' := w') ?_ ⟨_, rfl, slots_put (ns := 13) (hsa.size.trans rfl) (by decide), Below.refl _ _⟩
      simp only [execOp, Act.eval, List.map_toArray, List.map_cons, List.map_nil, d2, y0]; first | (go_simp; done) | rfl
    | 4, ho =>
      obtain rfl := Option.some.inj ho
      try dsimp only at hd
      have d3 : a'.tmps.getD 6 undef = .int .u64 num := hd 3 (by rfl)
      refine wpOp_of rfl rfl ?_
      refine op_run (v := .int .i64 (IntKind.i64.wrap num)) (w' := w') ?_ ⟨_, rfl, slots_put (ns := 13) (hsa.size.trans rfl) (by decide), Below.refl _ _⟩
      simp only [execOp, Act.eval, List.map_toArray, List.map_cons, List.map_nil, d3]; first | (go_simp; done) | rfl
    | 5, ho =>
      obtain rfl := Option.some.inj ho
      try dsimp only at hd
      have g0 : a'.tmps.getD 0 undef = .slice (some ⟨b, off, none⟩) n oc := hsa.rest 0 (by rfl)
      refine wpOp_of rfl rfl ?_
      refine op_run (v := .slice (some ⟨b, off, none⟩) n oc) (w' := w') ?_ ⟨_, rfl, slots_put (ns := 13) (hsa.size.trans rfl) (by decide), Below.refl _ _⟩
      simp only [execOp, Act.eval, List.map_toArray, List.map_cons, List.map_nil, g0]; first | (go_simp; done) | rfl
    | 6, ho =>
      obtain rfl := Option.some.inj ho
      try dsimp only at hd
      have d5 : a'.tmps.getD 8 undef = .slice (some ⟨b, off, none⟩) n oc := hd 5 (by rfl)
      refine wpOp_of rfl rfl ?_
      refine op_run (v := .slice ao1 (n - 1) (oc - 1)) (w' := w') ?_ ⟨_, rfl, ?_, ?_⟩
      · by_cases h1 : oc = 1
        · rw [if_pos h1] at hao1
          subst hao1
          simp only [execOp, Act.eval, Option.map_some, Option.map_none, d5]
          go_simp
        · rw [if_neg h1] at hao1
          subst hao1
          simp only [execOp, Act.eval, Option.map_some, Option.map_none, d5]
          go_simp
      · try dsimp only
        exact (slots_put (ns := 13) (hsa.size.trans rfl) (by decide))
      · exact Below.refl _ _
    | 7, ho =>
      obtain rfl := Option.some.inj ho
      try dsimp only at hd
      have d6 : a'.tmps.getD 9 undef = .slice ao1 (n - 1) (oc - 1) := hd 6 (by rfl)
      refine wpOp_of rfl rfl ?_
      refine op_call 70 _ _ rfl KE.out [.slice ao1 (n - 1) (oc - 1)] (by simp only [List.map, Act.eval, d6]) (HE.out w') ?_
      rintro e w'' ⟨rfl, rfl⟩
      refine ⟨_, rfl, _, rfl, ?_, ?_⟩
      · try dsimp only
        exact ⟨w'.heap.size, (slots_put (ns := 13) (hsa.size.trans rfl) (by decide)), World.alloc_heap_new _ _⟩
      · exact (Below.refl _ _).alloc (Nat.le_refl _) _
    | 8, ho =>
      obtain rfl := Option.some.inj ho
      try dsimp only at hd
      have d7 : ∃ Bc, a'.tmps.getD 10 undef = .func (.func 82) #[] #[.pointer (some ⟨Bc, 0, none⟩)] ∧ w'.heap[Bc]? = some (.cells #[.slice ao1 (n - 1) (oc - 1)] 60 (0, 0)) := hd 7 (by rfl)
      obtain ⟨Bc, d7, h2⟩ := d7
      refine wpOp_of rfl rfl ?_
      refine op_call 69 _ _ rfl KC.out [.func (.func 82) #[] #[.pointer (some ⟨Bc, 0, none⟩)]] (by simp only [List.map, Act.eval, d7]) (HC.out w' Bc hb h2) ?_
      rintro e w'' ⟨ro, rc, rfl, h4, h5⟩
      refine ⟨_, rfl, _, rfl, ?_, ?_⟩
      · try dsimp only
        exact ⟨ro, rc, (slots_put (ns := 13) (hsa.size.trans rfl) (by decide)), h4⟩
      · exact h5
    | 9, ho =>
      obtain rfl := Option.some.inj ho
      try dsimp only at hd
      have d4 : a'.tmps.getD 7 undef = .int .i64 (IntKind.i64.wrap num) := hd 4 (by rfl)
      have d8 : ∃ ro rc, a'.tmps.getD 11 undef = .slice ro m rc ∧ w'.ownsRow wq.heap.size tMember 2 (.slice ro m rc) m (mbCells L) := hd 8 (by rfl)
      obtain ⟨ro, rc, d8, h4⟩ := d8
      refine wpOp_of rfl rfl ?_
      refine op_run (v := .agg #[.int .i64 (IntKind.i64.wrap num), .slice ro m rc]) (w' := w') ?_ ⟨_, rfl, ?_, ?_⟩
      · simp only [execOp, Act.eval, List.map_toArray, List.map_cons, List.map_nil, d4, d8]; first | (go_simp; done) | rfl
      · try dsimp only
        exact ⟨ro, rc, (slots_put (ns := 13) (hsa.size.trans rfl) (by decide)), h4⟩
      · exact Below.refl _ _
    | 10, ho =>
      obtain rfl := Option.some.inj ho
      try dsimp only at hd
      refine wpOp_of rfl rfl ?_
      refine op_run (v := undef) (w' := w') ?_ ⟨_, rfl, ?_, ?_⟩
      · rfl
      · try dsimp only
        trivial
      · exact Below.refl _ _
    | (n + 11), ho => exact absurd ho (by simp)
  case pdone =>
    intro a' w' hsa hb hd
    have d9 : ∃ ro rc, a'.tmps.getD 12 undef = .agg #[.int .i64 (IntKind.i64.wrap num), .slice ro m rc] ∧ w'.ownsRow wq.heap.size tMember 2 (.slice ro m rc) m (mbCells L) := hd 9 (by decide)
    obtain ⟨ro, rc, d9, h4⟩ := d9
    have d2b : a'.tmps.getD 2 undef = .pointer (some ⟨rb, 0, none⟩) := hsa.rest 2 (by rfl)
    intro K2 hK2
    have h6 := (hb.block _ (heap_lt hR)).trans hR
    have q0 := box_cell h6 0 rfl
    have q1 := box_cell h6 1 rfl
    have f0 := box_free h6 0
    have f1 := box_free h6 1
    refine op_skip (w' := (w'.setCell ⟨rb, 0, none⟩ (.int .i64 (IntKind.i64.wrap num))).setCell ⟨rb, 1, none⟩ (.slice ro m rc)) ?_ (hK2 _ _ ?_)
    · simp only [execOp, Act.eval, d9, d2b]
      first | (go_simp; done) | (go_simp; rfl)
    refine HQ.out _ _ ro rc ⟨hsa.size.trans rfl, hsa.defers.trans rfl, hsa.rest 0 (by rfl), hsa.rest 2 (by rfl)⟩ ?_ ?_ ?_
    · have h1 := box_set (box_set h6 0 (.int .i64 (IntKind.i64.wrap num))) 1 (.slice ro m rc)
      simpa using h1
    · refine h4.kept (grownBy_set2 _ _ _ _) (row_not_view h4 h6)
    · exact (hb.mono (by omega)).setCell (p := ⟨rb, 0, none⟩) hrb _ |>.setCell (p := ⟨rb, 1, none⟩) hrb _
end Go.Proofs.Ytfcpclpaalekiaa
namespace Go.Proofs.Ytfcpclpaalekiaa
open Go.RowKit
set_option maxHeartbeats 16000000
set_option maxRecDepth 100000
attribute [local go_sem ↓] Go.wp_at_zero Go.wp_at_succ
set_option linter.unusedSimpArgs false
set_option linter.unusedVariables false
theorem vo_ret {W : World} {a : Act} {v : Vvo} {rb : Nat} {num : Int} {n : Nat} {R : Ending → World → Prop} {ro : Option Addr} {rc : Nat} (hF : Fvo a v) (h2 : v.v2 = .pointer (some ⟨rb, 0, none⟩)) (hR : W.heap[rb]? = some (.cells #[.int .i64 num, .slice ro n rc] tView (0, 0))) (h : R (.returned (.agg #[.int .i64 num, .slice ro n rc])) W) :
    bodyPost Try.prog Try.f51 R .ret a W := by
  have g2 := slot_get (hF.s2.trans h2)
  have c0 := box_cell hR 0 rfl
  have c1 := box_cell hR 1 rfl
  refine bodyPost_ret (v := .agg #[.int .i64 num, .slice ro n rc]) ?_ hF.defers h
  simp [results, Try.results51, go_sem, g2, c0, c1]
def wrV (v : VW) : VW := ⟨IntKind.i64.wrap v.num, v.mem.map wrM⟩
theorem wrap_small {n : Int} (h0 : 0 ≤ n) (h1 : n < 9223372036854775808) : IntKind.i64.wrap n = n := by rw [IntKind.wrap_i64]; omega
theorem wrap_big {n : Int} (h0 : 9223372036854775808 ≤ n) (h1 : n < 18446744073709551616) : IntKind.i64.wrap n < 0 := by rw [IntKind.wrap_i64]; omega
theorem wrap_back {n : Int} (h0 : 0 ≤ n) (h1 : n < 18446744073709551616) (h2 : 0 ≤ IntKind.i64.wrap n) : IntKind.i64.wrap n = n := by
  by_cases h : n < 9223372036854775808
  · exact wrap_small h0 h
  · have := wrap_big (n := n) (by omega) h1
    omega
def VW.inU (v : VW) : Prop := (0 ≤ v.num ∧ v.num < 18446744073709551616) ∧ ∀ m ∈ v.mem, (0 ≤ m.node ∧ m.node < 18446744073709551616) ∧ 0 ≤ m.life ∧ m.life < 18446744073709551616
theorem inU_items {v : VW} (h : ∀ x ∈ itemsV v, x.ok) : v.inU := by
  refine ⟨?_, fun m hm => ?_⟩
  · obtain ⟨_, _, h1, h2, _⟩ := h ⟨3, v.num, ⟨#[]⟩⟩ List.mem_cons_self
    exact ⟨h1, h2⟩
  · obtain ⟨_, _, h1, h2, _⟩ := h ⟨1, m.node, ⟨#[]⟩⟩ (List.mem_cons_of_mem _ (List.mem_flatMap.2 ⟨m, hm, by simp [memItems]⟩))
    obtain ⟨_, _, h3, h4, _⟩ := h ⟨3, m.life, ⟨#[]⟩⟩ (List.mem_cons_of_mem _ (List.mem_flatMap.2 ⟨m, hm, by simp [memItems]⟩))
    exact ⟨⟨h1, h2⟩, h3, h4⟩
theorem wrV_same {v : VW} (hu : v.inU) (h : (wrV v).right ∨ v.right) : wrV v = v := by
  have hbig : big = 9007199254740991 := rfl
  obtain ⟨⟨u1, u2⟩, u3⟩ := hu
  have hnum : IntKind.i64.wrap v.num = v.num := by
    rcases h with h | h
    · exact wrap_back u1 u2 (by have := h.1; simp only [wrV] at this; omega)
    · exact wrap_small u1 (by have := h.2.1; omega)
  have hmem : v.mem.map wrM = v.mem := by
    refine (List.map_congr_left fun m hm => ?_).trans (List.map_id _)
    obtain ⟨⟨a1, a2⟩, a3, a4⟩ := u3 m hm
    show (⟨IntKind.i64.wrap m.node, IntKind.i64.wrap m.life⟩ : MB) = ⟨m.node, m.life⟩
    rcases h with h | h
    · obtain ⟨r1, r2, r3, r4⟩ := mem_right h (wrM m) (List.mem_map.2 ⟨m, hm, rfl⟩)
      simp only [wrM] at r1 r2 r3 r4
      rw [wrap_back a1 a2 r1, wrap_back a3 a4 (by omega)]
    · obtain ⟨r1, r2, r3, r4⟩ := mem_right h m hm
      rw [wrap_small a1 (by omega), wrap_small a3 (by omega)]
  obtain ⟨n, l⟩ := v
  simp only [wrV] at *
  rw [hnum, hmem]
theorem itemsV_get (v : VW) (i : Nat) (hi : i < v.mem.length) : (itemsV v)[1 + 2 * i]? = some ⟨1, v.mem[i].node, ⟨#[]⟩⟩ ∧ (itemsV v)[2 + 2 * i]? = some ⟨3, v.mem[i].life, ⟨#[]⟩⟩ := by
  obtain ⟨num, L⟩ := v
  have key : ∀ (L : List MB) (i : Nat) (hi : i < L.length), (L.flatMap memItems)[2 * i]? = some ⟨1, L[i].node, ⟨#[]⟩⟩ ∧ (L.flatMap memItems)[2 * i + 1]? = some ⟨3, L[i].life, ⟨#[]⟩⟩ := by
    intro L
    induction L with
    | nil => intro i hi; cases hi
    | cons m L ih =>
      intro i hi
      cases i with
      | zero => exact ⟨rfl, rfl⟩
      | succ i =>
        have := ih i (by simpa using hi)
        rw [show 2 * (i + 1) = 2 * i + 2 by omega]
        exact this
  have := key L i hi
  refine ⟨?_, ?_⟩
  · rw [show 1 + 2 * i = 2 * i + 1 by omega]
    exact this.1
  · rw [show 2 + 2 * i = (2 * i + 1) + 1 by omega]
    exact this.2
theorem it_cell1 {w : World} {B g n cp : Nat} {L : List K.It} (h : w.ownsRow B tItem 3 (.slice (some ⟨g, 0, none⟩) n cp) n (itCells L)) {i : Nat} {x : K.It} (hx : L[i]? = some x) : w.cell? ⟨g, i * 3 + 1, none⟩ = some (.int .u64 x.n) := by
  obtain ⟨hi, rfl⟩ := List.getElem?_eq_some_iff.1 hx
  have := h.cells (g := g) rfl (i * 3 + 1) (.int .u64 L[i].n) (by rw [itCells_get L i 1 hi (by omega)]; rfl)
  rw [Addr.add_lit] at this
  simpa using this
theorem pviewof (V : VW) (oo : Option Addr) (oc : Nat) (w : World) (B : Nat) (h : w.ownsRow B tItem 3 (.slice oo (itemsV V).length oc) (itemsV V).length (itCells (itemsV V))) (hq : V.mem.length ≤ 1000) :
    Calls Try.prog 51 #[.slice oo (itemsV V).length oc] w fun e w' => ∃ ro rc, e = .returned ((wrV V).v ro rc) ∧ w'.ownsRow w.heap.size tMember 2 (.slice ro (wrV V).mem.length rc) (wrV V).mem.length (mbCells (wrV V).mem) ∧ Below w.heap.size w w' := by
  have hlen := itemsV_len V
  obtain ⟨g, rfl, hnc⟩ : ∃ g, oo = some ⟨g, 0, none⟩ ∧ (itemsV V).length ≤ oc := by
    rcases h.2 with ⟨_, h2⟩ | ⟨g, cap, cur, hv, hg, hh, h3, _⟩
    · omega
    · injection hv with h1 _ h4
      exact ⟨g, h1, by omega⟩
  have hgl : g < w.heap.size := by
    rcases h.2 with ⟨_, h2⟩ | ⟨g2, cap, cur, hv, hg, hh, h3, _⟩
    · omega
    · injection hv with h1 _ h4
      cases h1
      exact heap_lt hh
  have hml : (wrV V).mem.length = V.mem.length := by simp [wrV]
  have HX := hide (heap_alloc_new w (.cells #[.int .i64 0, .slice none 0 0] tView))
  have HB := hide ((Below.refl w.heap.size w).alloc (Nat.le_refl _) (.cells #[.int .i64 0, .slice none 0 0] tView))
  have H0 := hide (it_cell1 h (i := 0) (x := ⟨3, V.num, ⟨#[]⟩⟩) rfl)
  have HM := hide (fun i (hi : i < V.mem.length) => (⟨it_cell1 h (itemsV_get V i hi).1, it_cell1 h (itemsV_get V i hi).2⟩ : w.cell? ⟨g, (1 + 2 * i) * 3 + 1, none⟩ = some (.int .u64 V.mem[i].node) ∧ w.cell? ⟨g, (2 + 2 * i) * 3 + 1, none⟩ = some (.int .u64 V.mem[i].life)))
  have HS : Hid ((w.alloc (.cells #[.int .i64 0, .slice none 0 0] tView)).heap.size = w.heap.size + 1) := by show _ = _; simp
  rw [hml]
  generalize (itemsV V).length = n at *
  clear h
  go_enter Try.func51, Try.ntmps51
  go_upto_region 1 with fail
  rename_i Ko hKo
  generalize w.alloc (.cells #[.int .i64 0, .slice none 0 0] tView) = w1 at *
  refine reg_mono (vo_r1 (L := V.mem.map wrM) (m := V.mem.length) (B := w.heap.size) (num := V.num) (ao1 := if oc = 1 then some ⟨g, 0, none⟩ else some ⟨g, 0 + 3, none⟩) (by kernel_rfl) _ (v := ⟨_, _⟩) ⟨rfl, rfl, rfl, rfl⟩ rfl rfl rfl (by omega) hnc (by have := HB.out.size; omega) ((HB.out.cell (p := ⟨g, _, none⟩) hgl).trans H0.out) HX.out (Nat.le_refl _) HB.out.size (fun W Bc hW hBc => ?_) ?_)
  · have hW2 : Below w.heap.size w W := HB.out.trans (hW.mono HB.out.size)
    refine (pcollectG (id : MB → MB) (fun ys => ys = V.mem.map wrM) V.mem.length W.heap.size _ (by omega) _ (enters_of Try.func82 (by kernel_rfl) rfl) W (Nat.le_refl _) (ecoded_gives V.mem Bc (oc - 1) g 3 (if oc = 1 then some ⟨g, 0, none⟩ else some ⟨g, 0 + 3, none⟩) hq (by omega) (fun hp => by rw [if_neg (by omega)]) W (by rw [show 2 * V.mem.length = n - 1 by omega]; exact hBc) (fun i hi X hX => ?_))).mono ?_
    · have hX2 : Below w.heap.size w X := hW2.trans (hX.mono hW2.size)
      obtain ⟨y0, y1⟩ := HM.out i hi
      refine ⟨?_, ?_⟩
      · rw [show 3 + i * 6 + 1 = (1 + 2 * i) * 3 + 1 by omega]
        exact (hX2.cell (p := ⟨g, _, none⟩) hgl).trans y0
      · rw [show 3 + i * 6 + 4 = (2 + 2 * i) * 3 + 1 by omega]
        exact (hX2.cell (p := ⟨g, _, none⟩) hgl).trans y1
    · rintro e w' ⟨xs, ro, rc, rfl, rfl, h3, h4⟩
      rw [List.map_id, List.length_map] at h3
      rw [List.length_map]
      exact ⟨ro, rc, rfl, ownsRow_base h3 hW.size, h4⟩
  intro a2 w2 ro rc F2 R2 row2 b2
  refine hKo _ _ (wp_ret ?_)
  refine vo_ret F2 rfl R2 ⟨ro, rc, ?_, ownsRow_base row2 (by have := HB.out.size; omega), HB.out.trans b2⟩
  show _ = Ending.returned (.agg #[.int .i64 (wrV V).num, .slice ro (wrV V).mem.length rc])
  rw [hml]
  rfl
end Go.Proofs.Ytfcpclpaalekiaa
namespace Go.Proofs.Ytfcpclpaalekiaa
open Go.RowKit
set_option maxHeartbeats 16000000
set_option maxRecDepth 100000
attribute [local go_sem ↓] Go.wp_at_zero Go.wp_at_succ
set_option linter.unusedSimpArgs false
set_option linter.unusedVariables false
theorem pd_end {w W : World} {b : Nat} {z0 z1 : Value} {r : VW × Int} {ro : Option Addr} {rc n : Nat} {num : Int} {a : Act} (hR : W.heap[b]? = some (.cells #[z0, z1] tView (0, 0))) (hrow : W.ownsRow w.heap.size tMember 2 (.slice ro r.1.mem.length rc) r.1.mem.length (mbCells r.1.mem)) (hB : Below w.heap.size w W) (hb : w.heap.size ≤ b) (e1 : r.1.num = num) (e2 : r.1.mem.length = n) (h2 : a.tmps.getD 2 undef = .pointer (some ⟨b, 0, none⟩)) (h3 : a.tmps.getD 3 undef = .int .i64 r.2) (hd : a.defers = [] := by rfl) :
    bodyPost Try.prog Try.f34 (fun e w' => NextGave w w' e r) .ret a ((W.setCell ⟨b, 0, none⟩ (.int .i64 num)).setCell ⟨b, 1, none⟩ (.slice ro n rc)) := by
  subst e1 e2
  have G := box_set (box_set hR 0 (.int .i64 r.1.num)) 1 (.slice ro r.1.mem.length rc)
  have g0 := box_cell G 0 rfl
  have g1 := box_cell G 1 rfl
  have k2 := slot_get h2
  have k3 := slot_get h3
  refine bodyPost_ret (v := .tuple #[.agg #[.int .i64 r.1.num, .slice ro r.1.mem.length rc], .int .i64 r.2]) ?_ hd ⟨⟨ro, rc, rfl, hrow.kept (grownBy_set2 _ _ _ _) (row_not_view hrow hR)⟩, (hB.setCell (p := ⟨b, 0, none⟩) hb _).setCell (p := ⟨b, 1, none⟩) hb _⟩
  simp [results, Try.results34, go_sem, k2, k3, g0, g1]
theorem pdecode : DecodeSays := by
  intro t w hs
  obtain ⟨R, hR⟩ : ∃ R, K.decF shapeV t.data.toList = R := ⟨_, rfl⟩
  have HD := hide (fun W => K.decode_any ⟨#[108, 42, 98, 108]⟩ t W (by unfold maxLen; decide) (by unfold maxLen; omega) R hR)
  have X0 := heap_alloc_new w (.cells #[.int .i64 0, .slice none 0 0] tView)
  have HX := hide X0
  have HB := hide ((Below.refl w.heap.size w).alloc (Nat.le_refl _) (.cells #[.int .i64 0, .slice none 0 0] tView))
  clear X0
  obtain ⟨T, hT⟩ : ∃ T, decV t.data.toList = T := ⟨_, rfl⟩
  rw [hT]
  have HT : Hid ((if R.2 ≠ 0 then (⟨0, []⟩, R.2) else if (viewOf R.1).right then (viewOf R.1, 0) else (⟨0, []⟩, 10)) = T) := by
    show _ = _
    rw [← hT]
    unfold decV
    rw [hR]
  by_cases h0 : R.2 = 0
  · obtain ⟨v1, _, v3, v4, _⟩ := decF_view (s := t.data.toList) (by rw [hR]; exact h0)
    rw [hR] at v1 v3 v4
    obtain ⟨V, hV⟩ : ∃ V, viewOf R.1 = V := ⟨_, rfl⟩
    rw [hV] at HT v1
    have hlen := itemsV_len V
    have hq : V.mem.length ≤ 1000 := by rw [v1] at hlen; omega
    have HI : V.inU := inU_items (by rw [v1]; exact v3)
    have HP : Hid (∀ (oo : Option Addr) (oc B : Nat) (W : World), W.ownsRow B tItem 3 (.slice oo R.1.length oc) R.1.length (itCells R.1) → Calls Try.prog 51 #[.slice oo R.1.length oc] W fun e w' => ∃ ro rc, e = .returned ((wrV V).v ro rc) ∧ w'.ownsRow W.heap.size tMember 2 (.slice ro (wrV V).mem.length rc) (wrV V).mem.length (mbCells (wrV V).mem) ∧ Below W.heap.size W w') := fun oo oc B W h => by
      have := pviewof V oo oc W B (by rw [v1]; exact h) hq
      rw [v1] at this
      exact this
    have hml : (wrV V).mem.length ≤ 1000 := by simp [wrV]; exact hq
    have HR : Hid (∀ (ro : Option Addr) (rc B : Nat) (W : World), W.ownsRow B tMember 2 (.slice ro (wrV V).mem.length rc) (wrV V).mem.length (mbCells (wrV V).mem) → Calls Try.prog 39 #[(wrV V).v ro rc] W fun e w' => e = .returned (.bool (decide (wrV V).right)) ∧ Below W.heap.size W w') := fun ro rc B W h => pright (wrV V) ro rc W (mems_of_row h rfl) (by omega)
    rw [h0] at HD HT
    rw [if_neg (fun e => e rfl)] at HT
    obtain ⟨r, hr⟩ : ∃ r, decide (wrV V).right = r := ⟨_, rfl⟩
    rw [hr] at HR
    have HT2 : Hid (r = true → (wrV V, 0) = T) := fun e => by
      have h1 : (wrV V).right := of_decide_eq_true (hr.trans e)
      have h2 := wrV_same HI (.inl h1)
      rw [h2] at h1 ⊢
      rw [← HT.out, if_pos h1]
    have HT3 : Hid (r = false → (⟨0, []⟩, 10) = T) := fun e => by
      have h1 : ¬ V.right := fun h => by
        have h2 := wrV_same HI (.inr h)
        have : decide (wrV V).right = true := by rw [h2]; exact decide_eq_true h
        rw [hr, e] at this
        cases this
      rw [← HT.out, if_neg h1]
    simp only [VW.v] at HP HR
    clear hT hR HT HI hq hlen v1 v3 v4 hV hr h0 hml
    have B0 := hide hs
    cases r
    · have HL : Hid ((wrV V).mem.length = (wrV V).mem.length) := rfl
      generalize hn9 : (wrV V).mem.length = n9 at *
      have HN9 := hide hn9
      clear hn9
      generalize hnu : (wrV V).num = nu at *
      have HNU := hide hnu
      clear hnu
      go_enter Try.func34, Try.ntmps34
      go_wp2_with (first
        | (go_at_call 33; refine (HD.out _).mono ?_; rintro e w2 ⟨vv, rfl, h2, b2⟩; obtain ⟨oo, oc, rfl⟩ := row_slice h2; have R2 := hide h2; have B2 : Hid (Below w.heap.size w w2) := HB.out.trans (b2.mono HB.out.size); have X2 := hide ((b2.block _ (heap_lt HX.out)).trans HX.out); clear b2 h2)
        | (go_at_call 51; refine (HP.out _ _ _ _ R2.out).mono ?_; rintro e w3 ⟨ro, rc, rfl, h3, b3⟩; have R3 := hide h3; have B3 : Hid (Below w.heap.size w w3) := B2.out.trans (b3.mono B2.out.size); have X3 := hide ((b3.block _ (heap_lt X2.out)).trans X2.out); have N3 := hide (heap_alloc_new w3 (.cells #[.int .i64 nu, .slice ro n9 rc] tView)); have R4 := hide (h3.alloc (.cells #[.int .i64 nu, .slice ro n9 rc] tView)); clear b3 h3)
        | (go_at_call 39; refine (HR.out _ _ _ _ R4.out).mono ?_; rintro e w5 ⟨rfl, b5⟩; have R5 := hide (ownsRow_base (below_row b5 R4.out) B2.out.size); have B5 : Hid (Below w.heap.size w w5) := (B3.out.alloc B3.out.size _).trans (b5.mono (by have := B3.out.size; simp; omega)); have X5 := hide ((b5.block _ (heap_lt (heap_up X3.out))).trans (heap_up X3.out)); have N5 := hide ((b5.block _ (heap_lt N3.out)).trans N3.out); clear b5; have x0 := box_cell X5.out 0 rfl; have x1 := box_cell X5.out 1 rfl; have f0 := box_free X5.out 0; have f1 := box_free X5.out 1; have n0 := box_cell N5.out 0 rfl; have n1 := box_cell N5.out 1 rfl))
      rw [← HT3.out (by simp)]
      exact pd_end X5.out (r := (⟨0, []⟩, 10)) (World.ownsRow_nil _ _ _ _) B5.out (Nat.le_refl _) rfl rfl rfl rfl
    · have HL : Hid ((wrV V).mem.length = (wrV V).mem.length) := rfl
      generalize hn9 : (wrV V).mem.length = n9 at *
      have HN9 := hide hn9
      clear hn9
      generalize hnu : (wrV V).num = nu at *
      have HNU := hide hnu
      clear hnu
      go_enter Try.func34, Try.ntmps34
      go_wp2_with (first
        | (go_at_call 33; refine (HD.out _).mono ?_; rintro e w2 ⟨vv, rfl, h2, b2⟩; obtain ⟨oo, oc, rfl⟩ := row_slice h2; have R2 := hide h2; have B2 : Hid (Below w.heap.size w w2) := HB.out.trans (b2.mono HB.out.size); have X2 := hide ((b2.block _ (heap_lt HX.out)).trans HX.out); clear b2 h2)
        | (go_at_call 51; refine (HP.out _ _ _ _ R2.out).mono ?_; rintro e w3 ⟨ro, rc, rfl, h3, b3⟩; have R3 := hide h3; have B3 : Hid (Below w.heap.size w w3) := B2.out.trans (b3.mono B2.out.size); have X3 := hide ((b3.block _ (heap_lt X2.out)).trans X2.out); have N3 := hide (heap_alloc_new w3 (.cells #[.int .i64 nu, .slice ro n9 rc] tView)); have R4 := hide (h3.alloc (.cells #[.int .i64 nu, .slice ro n9 rc] tView)); clear b3 h3)
        | (go_at_call 39; refine (HR.out _ _ _ _ R4.out).mono ?_; rintro e w5 ⟨rfl, b5⟩; have R5 := hide (ownsRow_base (below_row b5 R4.out) B2.out.size); have B5 : Hid (Below w.heap.size w w5) := (B3.out.alloc B3.out.size _).trans (b5.mono (by have := B3.out.size; simp; omega)); have X5 := hide ((b5.block _ (heap_lt (heap_up X3.out))).trans (heap_up X3.out)); have N5 := hide ((b5.block _ (heap_lt N3.out)).trans N3.out); clear b5; have x0 := box_cell X5.out 0 rfl; have x1 := box_cell X5.out 1 rfl; have f0 := box_free X5.out 0; have f1 := box_free X5.out 1; have n0 := box_cell N5.out 0 rfl; have n1 := box_cell N5.out 1 rfl))
      rw [← HT2.out (by simp)]
      exact pd_end X5.out (r := (wrV V, 0)) (by rw [HN9.out]; exact R5.out) B5.out (Nat.le_refl _) (by rw [HNU.out]) (by rw [HN9.out]) rfl rfl
  · rw [if_pos h0] at HT
    have hz : R.2 ≠ 0 := h0
    clear hT hR h0
    generalize R.1 = L at *
    generalize R.2 = z at *
    go_enter Try.func34, Try.ntmps34
    go_wp2_with (go_at_call 33; refine (HD.out _).mono ?_; rintro e w2 ⟨vv, rfl, h2, b2⟩; obtain ⟨oo, oc, rfl⟩ := row_slice h2; have B2 : Hid (Below w.heap.size w w2) := HB.out.trans (b2.mono HB.out.size); have X2 := hide ((b2.block _ (heap_lt HX.out)).trans HX.out); clear b2 h2; have x0 := box_cell X2.out 0 rfl; have x1 := box_cell X2.out 1 rfl; have f0 := box_free X2.out 0; have f1 := box_free X2.out 1)
    rw [← HT.out]
    refine bodyPost_ret (v := .tuple #[.agg #[.int .i64 0, .slice none 0 0], .int .i64 z]) ?_ rfl ⟨⟨none, 0, rfl, World.ownsRow_nil _ _ _ _⟩, (B2.out.setCell (p := ⟨w.heap.size, 0, none⟩) (Nat.le_refl _) _).setCell (p := ⟨w.heap.size, 1, none⟩) (Nat.le_refl _) _⟩
    have g0 := box_cell (box_set (box_set X2.out 0 (.int .i64 0)) 1 (.slice none 0 0)) 0 rfl
    have g1 := box_cell (box_set (box_set X2.out 0 (.int .i64 0)) 1 (.slice none 0 0)) 1 rfl
    simp [results, Try.results34, go_sem, g0, g1]
end Go.Proofs.Ytfcpclpaalekiaa
