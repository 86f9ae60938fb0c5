/-
  A topic's items; recordItems, producerItems, headItems, as they run (mkub.py).
-/
import Derived.Test.YtfoomgdlbkjaeaaGreatZKPure
import Derived.Test.YtfoomgdlbkjaeaaGreatZYCl
import Derived.Test.YtfoomgdlbkjaeaaGreatZKAppI
namespace Go.Proofs.YtfoomgdlbkjaeaaGreat.Y
open Go.RowKit
set_option maxHeartbeats 8000000
set_option maxRecDepth 100000
attribute [local go_sem ↓] Go.wp_at_zero Go.wp_at_succ
set_option linter.unusedSimpArgs false
set_option linter.unusedVariables false
structure PU where
  name : ByteArray
  seq : Int
  off : Int
def itemsY (r : Rec) : List K.It := [⟨3, r.off, ⟨#[]⟩⟩, ⟨4, 0, r.prod⟩, ⟨3, r.seq, ⟨#[]⟩⟩, ⟨4, 0, r.key⟩, ⟨4, 0, r.val⟩]
def itemsPr (p : PU) : List K.It := [⟨4, 0, p.name⟩, ⟨3, p.seq, ⟨#[]⟩⟩, ⟨3, p.off, ⟨#[]⟩⟩]
def itemsHd (nm : ByteArray) (lo fi ct : Int) : List K.It := [⟨4, 0, nm⟩, ⟨3, lo, ⟨#[]⟩⟩, ⟨3, fi, ⟨#[]⟩⟩, ⟨3, ct, ⟨#[]⟩⟩]
theorem row_of_box {w : World} {B g n : Nat} {cs : Array Value} {t : TypeId} {z : Nat} (hg : B ≤ g) (hh : w.heap[g]? = some (.cells cs t (0, 0))) (hn : n ≤ maxLen) (hs : cs.size = n * z) : w.ownsRow B t z (.slice (some ⟨g, 0, none⟩) n n) n cs.toList :=
  ⟨by simpa using hs, .inr ⟨g, n, cs, rfl, hg, hh, Nat.le_refl _, hn, hs, by rw [List.take_of_length_le]; simp [hs]⟩⟩
theorem alloc2 (w : World) (x y : Obj) : ((w.alloc x).alloc y).heap[w.heap.size + 1]? = some y := by
  have := heap_alloc_new (w.alloc x) y
  rw [show (w.alloc x).heap.size = w.heap.size + 1 by simp] at this
  exact this
theorem trecitems (r : Rec) (o1 : 0 ≤ r.off) (o2 : r.off ≤ 9223372036854775807) (s1 : 0 ≤ r.seq) (s2 : r.seq ≤ 9223372036854775807) (w : World) :
    Calls Tryz.prog 40 #[r.v] w fun e w' => ∃ ao cp, e = .returned (.slice ao (itemsY r).length cp) ∧ w'.ownsRow w.heap.size 83 3 (.slice ao (itemsY r).length cp) (itemsY r).length (K.itemCells (itemsY r)) ∧ Below w.heap.size w w' := by
  obtain ⟨xo, xp, xs, xk, xv⟩ := r
  simp only [Rec.v] at *
  have e1 : IntKind.u64.wrap xo = xo := by rw [IntKind.wrap_u64]; omega
  have e2 : IntKind.u64.wrap xs = xs := by rw [IntKind.wrap_u64]; omega
  have hb := hide ((Below.refl w.heap.size w).alloc (Nat.le_refl _) (.cells #[.int .i64 xo, .string xp, .int .i64 xs, .string xk, .string xv] 39))
  go_enter Tryz.func40, Tryz.ntmps40
  go_wp2
  go_ret
  have R := row_of_box (B := w.heap.size) (n := 5) (z := 3) (Nat.le_succ _) (alloc2 w (.cells #[.int .i64 xo, .string xp, .int .i64 xs, .string xk, .string xv] 39) (.cells #[.int .i64 3, .int .u64 xo, .string ⟨#[]⟩, .int .i64 4, .int .u64 0, .string xp, .int .i64 3, .int .u64 xs, .string ⟨#[]⟩, .int .i64 4, .int .u64 0, .string xk, .int .i64 4, .int .u64 0, .string xv] 83)) (by unfold maxLen; omega) rfl
  exact ⟨_, _, rfl, R, hb.out.alloc hb.out.size _⟩
theorem tproditems (p : PU) (o1 : 0 ≤ p.off) (o2 : p.off ≤ 9223372036854775807) (s1 : 0 ≤ p.seq) (s2 : p.seq ≤ 9223372036854775807) (w : World) :
    Calls Tryz.prog 39 #[.agg #[.string p.name, .int .i64 p.off, .int .i64 p.seq]] w fun e w' => ∃ ao cp, e = .returned (.slice ao (itemsPr p).length cp) ∧ w'.ownsRow w.heap.size 83 3 (.slice ao (itemsPr p).length cp) (itemsPr p).length (K.itemCells (itemsPr p)) ∧ Below w.heap.size w w' := by
  obtain ⟨nm, sq, of⟩ := p
  simp only at *
  have e1 : IntKind.u64.wrap of = of := by rw [IntKind.wrap_u64]; omega
  have e2 : IntKind.u64.wrap sq = sq := by rw [IntKind.wrap_u64]; omega
  have hb := hide ((Below.refl w.heap.size w).alloc (Nat.le_refl _) (.cells #[.string nm, .int .i64 of, .int .i64 sq] 75))
  go_enter Tryz.func39, Tryz.ntmps39
  go_wp2
  go_ret
  have R := row_of_box (B := w.heap.size) (n := 3) (z := 3) (Nat.le_succ _) (alloc2 w (.cells #[.string nm, .int .i64 of, .int .i64 sq] 75) (.cells #[.int .i64 4, .int .u64 0, .string nm, .int .i64 3, .int .u64 sq, .string ⟨#[]⟩, .int .i64 3, .int .u64 of, .string ⟨#[]⟩] 83)) (by unfold maxLen; omega) rfl
  exact ⟨_, _, rfl, R, hb.out.alloc hb.out.size _⟩
theorem frame_hi (t : Array Value) (h : t.size = 28) : ∃ u : Nat → Value, t = List.toArray (u 0 :: u 1 :: u 2 :: u 3 :: u 4 :: u 5 :: u 6 :: u 7 :: u 8 :: u 9 :: u 10 :: u 11 :: u 12 :: u 13 :: u 14 :: u 15 :: u 16 :: u 17 :: u 18 :: u 19 :: u 20 :: u 21 :: u 22 :: u 23 :: u 24 :: u 25 :: u 26 :: u 27 :: []) := by
  refine ⟨fun i => t.getD i undef, ?_⟩
  refine Eq.trans (b := ((List.range 28).map fun i => t.getD i undef).toArray) ?_ rfl
  apply Array.ext
  · simp [h]
  · intro k h1 h2
    simp [Array.getD, h1]
structure Vhi where
  v0 : Value
  v2 : Value
structure Fhi (a : Act) (v : Vhi) : Prop where
  size : a.tmps.size = 28
  defers : a.defers = []
  s0 : a.tmps.getD 0 undef = v.v0
  s2 : a.tmps.getD 2 undef = v.v2
theorem frx_hi {a : Act} {v0 v2 : Value} (h : Fhi a ⟨v0, v2⟩) : ∃ u : Nat → Value, a = ⟨List.toArray (v0 :: u 1 :: v2 :: u 3 :: u 4 :: u 5 :: u 6 :: u 7 :: u 8 :: u 9 :: u 10 :: u 11 :: u 12 :: u 13 :: u 14 :: u 15 :: u 16 :: u 17 :: u 18 :: u 19 :: u 20 :: u 21 :: u 22 :: u 23 :: u 24 :: u 25 :: u 26 :: u 27 :: []), []⟩ := by
  obtain ⟨t', d'⟩ := a
  obtain ⟨hs, hd, q0, q2⟩ := h
  obtain ⟨u, hu⟩ := frame_hi t' hs
  simp only at hd q0 q2
  subst hu hd
  have e0 : u 0 = v0 := q0
  have e2 : u 2 = v2 := q2
  refine ⟨u, ?_⟩
  rw [e0, e2]
theorem hi_r0 {K : Act → World → Prop} {c : Code} (hc : regOf (Tryz.f36.body.getD .skip) 0 = some c) (a : Act) {v : Vhi} {wq : World}  (hF : Fhi a v) (hQ : ∀ a', Fhi a' { v with v2 := .slice none 0 0 } → K a' wq) :
    Code.wp Tryz.prog c (Exit.then K fun _ _ _ => False) a wq := by
  have HQ := hide hQ
  clear hQ
  obtain ⟨v0, v2⟩ := v
  obtain ⟨u, rfl⟩ := frx_hi hF
  clear hF
  simp only [Tryz.f36, Option.getD_some, regOf] at hc
  injection hc with hc
  subst hc
  go_wp2
  exact HQ.out _ ⟨rfl, rfl, rfl, rfl⟩
theorem hi_r1 {K : Act → World → Prop} {c : Code} (hc : regOf (Tryz.f36.body.getD .skip) 1 = some c) (a : Act) {v : Vhi} {wq : World} {tb mb : Nat} {nm : ByteArray} {lo fi ct : Int} {rv : Value} (hF : Fhi a v) (h0v : v.v0 = .pointer (some ⟨tb, 0, none⟩)) (hB : wq.heap[tb]? = some (.cells #[.string nm, .int .i64 lo, .int .i64 fi, rv, .map (some mb)] 52 (0, 0))) (hL : ∀ W, Below wq.heap.size wq W → ∀ ty, (Builtin.len_ #[50] ty #[.map (some mb)]).run Tryz.prog W = .ok (.int .i64 ct) W) (l1 : 0 ≤ lo) (l2 : lo ≤ 9223372036854775807) (f1 : 0 ≤ fi) (f2 : fi ≤ 9223372036854775807) (c1 : 0 ≤ ct) (c2 : ct ≤ 9223372036854775807)
    (hQ : ∀ a' w' g, Fhi a' { v with v2 := .slice (some ⟨g, 0, none⟩) 4 4 } → wq.heap.size ≤ g → w'.heap[g]? = some (.cells #[.int .i64 4, .int .u64 0, .string nm, .int .i64 3, .int .u64 lo, .string ⟨#[]⟩, .int .i64 3, .int .u64 fi, .string ⟨#[]⟩, .int .i64 3, .int .u64 ct, .string ⟨#[]⟩] 83 (0, 0)) → Below wq.heap.size wq w' → K a' w') :
    Code.wp Tryz.prog c (Exit.then K fun _ _ _ => False) a wq := by
  have HQ := hide hQ
  clear hQ
  obtain ⟨v0, v2⟩ := v
  simp only at h0v HQ
  subst h0v
  obtain ⟨u, rfl⟩ := frx_hi hF
  clear hF
  simp only [Tryz.f36, Option.getD_some, regOf] at hc
  injection hc with hc
  subst hc
  generalize u 1 = u1
  generalize u 3 = u3
  generalize u 4 = u4
  generalize u 5 = u5
  generalize u 6 = u6
  generalize u 7 = u7
  generalize u 8 = u8
  generalize u 9 = u9
  generalize u 10 = u10
  generalize u 11 = u11
  generalize u 12 = u12
  generalize u 13 = u13
  generalize u 14 = u14
  generalize u 15 = u15
  generalize u 16 = u16
  generalize u 17 = u17
  generalize u 18 = u18
  generalize u 19 = u19
  generalize u 20 = u20
  generalize u 21 = u21
  generalize u 22 = u22
  generalize u 23 = u23
  generalize u 24 = u24
  generalize u 25 = u25
  generalize u 26 = u26
  generalize u 27 = u27
  clear u
  have WK : Hid ((IntKind.u64.wrap lo) = lo ∧ (IntKind.u64.wrap fi) = fi ∧ (IntKind.u64.wrap ct) = ct) := ⟨by rw [IntKind.wrap_u64]; omega, by rw [IntKind.wrap_u64]; omega, by rw [IntKind.wrap_u64]; omega⟩
  refine wp_region_phi (by kernel_rfl) (ns := 28) (uses := (fun i => match i with | 0 => [3] | 1 => [4] | 2 => [5] | 3 => [6] | 4 => [7] | 5 => [8] | 6 => [9] | 7 => [10] | 8 => [11] | 9 => [12] | 10 => [13] | 11 => [14] | 12 => [15] | 13 => [16] | 14 => [17] | 15 => [18] | 16 => [19] | 17 => [20] | 18 => [21] | 19 => [22] | 20 => [23] | 21 => [24] | 22 => [25] | 23 => [26] | 24 => [27] | 25 => [2] | _ => [])) (by kernel_rfl) (by kernel_rfl) (fun _ w w' => Below w.heap.size w w') (fun w => Below wq.heap.size wq w) (fun _ _ _ h r => h.trans (r.mono h.size)) ((Below.refl _ _).drew) (fun i => match i with | 0 => fun s w => s 3 = .pointer (some ⟨tb, 0, none⟩) | 1 => fun s w => s 4 = .pointer (some ⟨tb, 0, none⟩) | 2 => fun s w => s 5 = .pointer (some ⟨tb, 0, none⟩) | 3 => fun s w => s 6 = .string nm | 4 => fun s w => s 7 = .agg #[.int .i64 4, .int .u64 0, .string nm] | 5 => fun s w => s 8 = .pointer (some ⟨tb, 0, none⟩) | 6 => fun s w => s 9 = .pointer (some ⟨tb, 0, none⟩) | 7 => fun s w => s 10 = .pointer (some ⟨tb, 1, none⟩) | 8 => fun s w => s 11 = .int .i64 lo | 9 => fun s w => s 12 = .int .u64 (IntKind.u64.wrap lo) | 10 => fun s w => s 13 = .agg #[.int .i64 3, .int .u64 (IntKind.u64.wrap lo), .string ⟨#[]⟩] | 11 => fun s w => s 14 = .pointer (some ⟨tb, 0, none⟩) | 12 => fun s w => s 15 = .pointer (some ⟨tb, 0, none⟩) | 13 => fun s w => s 16 = .pointer (some ⟨tb, 2, none⟩) | 14 => fun s w => s 17 = .int .i64 fi | 15 => fun s w => s 18 = .int .u64 (IntKind.u64.wrap fi) | 16 => fun s w => s 19 = .agg #[.int .i64 3, .int .u64 (IntKind.u64.wrap fi), .string ⟨#[]⟩] | 17 => fun s w => s 20 = .pointer (some ⟨tb, 0, none⟩) | 18 => fun s w => s 21 = .pointer (some ⟨tb, 0, none⟩) | 19 => fun s w => s 22 = .pointer (some ⟨tb, 4, none⟩) | 20 => fun s w => s 23 = .map (some mb) | 21 => fun s w => s 24 = .int .i64 ct | 22 => fun s w => s 25 = .int .u64 (IntKind.u64.wrap ct) | 23 => fun s w => s 26 = .agg #[.int .i64 3, .int .u64 (IntKind.u64.wrap ct), .string ⟨#[]⟩] | 24 => fun s w => ∃ g, s 27 = .slice (some ⟨g, 0, none⟩) 4 4 ∧ wq.heap.size ≤ g ∧ w.heap[g]? = some (.cells #[.int .i64 4, .int .u64 0, .string nm, .int .i64 3, .int .u64 (IntKind.u64.wrap lo), .string ⟨#[]⟩, .int .i64 3, .int .u64 (IntKind.u64.wrap fi), .string ⟨#[]⟩, .int .i64 3, .int .u64 (IntKind.u64.wrap ct), .string ⟨#[]⟩] 83 (0, 0)) | 25 => fun s w => ∃ g, s 2 = .slice (some ⟨g, 0, none⟩) 4 4 ∧ wq.heap.size ≤ g ∧ w.heap[g]? = some (.cells #[.int .i64 4, .int .u64 0, .string nm, .int .i64 3, .int .u64 (IntKind.u64.wrap lo), .string ⟨#[]⟩, .int .i64 3, .int .u64 (IntKind.u64.wrap fi), .string ⟨#[]⟩, .int .i64 3, .int .u64 (IntKind.u64.wrap ct), .string ⟨#[]⟩] 83 (0, 0)) | _ => fun _ _ => True) ?phc ?phh ?pstep ?pdone
  case phc =>
    intro i s s' w hx h
    match i, hx, h with
    | 0, hx, h =>
      have e3 := hx 3 (by simp)
      first | exact (show _ from by simp only [← e3] at *; exact h) | (simp only [e3] at h; exact h)
    | 1, hx, h =>
      have e4 := hx 4 (by simp)
      first | exact (show _ from by simp only [← e4] at *; exact h) | (simp only [e4] at h; exact h)
    | 2, hx, h =>
      have e5 := hx 5 (by simp)
      first | exact (show _ from by simp only [← e5] at *; exact h) | (simp only [e5] at h; exact h)
    | 3, hx, h =>
      have e6 := hx 6 (by simp)
      first | exact (show _ from by simp only [← e6] at *; exact h) | (simp only [e6] at h; exact h)
    | 4, hx, h =>
      have e7 := hx 7 (by simp)
      first | exact (show _ from by simp only [← e7] at *; exact h) | (simp only [e7] at h; exact h)
    | 5, hx, h =>
      have e8 := hx 8 (by simp)
      first | exact (show _ from by simp only [← e8] at *; exact h) | (simp only [e8] at h; exact h)
    | 6, hx, h =>
      have e9 := hx 9 (by simp)
      first | exact (show _ from by simp only [← e9] at *; exact h) | (simp only [e9] at h; exact h)
    | 7, hx, h =>
      have e10 := hx 10 (by simp)
      first | exact (show _ from by simp only [← e10] at *; exact h) | (simp only [e10] at h; exact h)
    | 8, hx, h =>
      have e11 := hx 11 (by simp)
      first | exact (show _ from by simp only [← e11] at *; exact h) | (simp only [e11] at h; exact h)
    | 9, hx, h =>
      have e12 := hx 12 (by simp)
      first | exact (show _ from by simp only [← e12] at *; exact h) | (simp only [e12] at h; exact h)
    | 10, hx, h =>
      have e13 := hx 13 (by simp)
      first | exact (show _ from by simp only [← e13] at *; exact h) | (simp only [e13] at h; exact h)
    | 11, hx, h =>
      have e14 := hx 14 (by simp)
      first | exact (show _ from by simp only [← e14] at *; exact h) | (simp only [e14] at h; exact h)
    | 12, hx, h =>
      have e15 := hx 15 (by simp)
      first | exact (show _ from by simp only [← e15] at *; exact h) | (simp only [e15] at h; exact h)
    | 13, hx, h =>
      have e16 := hx 16 (by simp)
      first | exact (show _ from by simp only [← e16] at *; exact h) | (simp only [e16] at h; exact h)
    | 14, hx, h =>
      have e17 := hx 17 (by simp)
      first | exact (show _ from by simp only [← e17] at *; exact h) | (simp only [e17] at h; exact h)
    | 15, hx, h =>
      have e18 := hx 18 (by simp)
      first | exact (show _ from by simp only [← e18] at *; exact h) | (simp only [e18] at h; exact h)
    | 16, hx, h =>
      have e19 := hx 19 (by simp)
      first | exact (show _ from by simp only [← e19] at *; exact h) | (simp only [e19] at h; exact h)
    | 17, hx, h =>
      have e20 := hx 20 (by simp)
      first | exact (show _ from by simp only [← e20] at *; exact h) | (simp only [e20] at h; exact h)
    | 18, hx, h =>
      have e21 := hx 21 (by simp)
      first | exact (show _ from by simp only [← e21] at *; exact h) | (simp only [e21] at h; exact h)
    | 19, hx, h =>
      have e22 := hx 22 (by simp)
      first | exact (show _ from by simp only [← e22] at *; exact h) | (simp only [e22] at h; exact h)
    | 20, hx, h =>
      have e23 := hx 23 (by simp)
      first | exact (show _ from by simp only [← e23] at *; exact h) | (simp only [e23] at h; exact h)
    | 21, hx, h =>
      have e24 := hx 24 (by simp)
      first | exact (show _ from by simp only [← e24] at *; exact h) | (simp only [e24] at h; exact h)
    | 22, hx, h =>
      have e25 := hx 25 (by simp)
      first | exact (show _ from by simp only [← e25] at *; exact h) | (simp only [e25] at h; exact h)
    | 23, hx, h =>
      have e26 := hx 26 (by simp)
      first | exact (show _ from by simp only [← e26] at *; exact h) | (simp only [e26] at h; exact h)
    | 24, hx, h =>
      have e27 := hx 27 (by simp)
      first | exact (show _ from by simp only [← e27] at *; exact h) | (simp only [e27] at h; exact h)
    | 25, hx, h =>
      have e2 := hx 2 (by simp)
      first | exact (show _ from by simp only [← e2] at *; exact h) | (simp only [e2] at h; exact h)
    | (n + 26), _, h => exact h
  case phh =>
    intro i j s w w' hij h hb r
    match i, hij, h with
    | 0, hij, h =>
      exact h
    | 1, hij, h =>
      exact h
    | 2, hij, h =>
      exact h
    | 3, hij, h =>
      exact h
    | 4, hij, h =>
      exact h
    | 5, hij, h =>
      exact h
    | 6, hij, h =>
      exact h
    | 7, hij, h =>
      exact h
    | 8, hij, h =>
      exact h
    | 9, hij, h =>
      exact h
    | 10, hij, h =>
      exact h
    | 11, hij, h =>
      exact h
    | 12, hij, h =>
      exact h
    | 13, hij, h =>
      exact h
    | 14, hij, h =>
      exact h
    | 15, hij, h =>
      exact h
    | 16, hij, h =>
      exact h
    | 17, hij, h =>
      exact h
    | 18, hij, h =>
      exact h
    | 19, hij, h =>
      exact h
    | 20, hij, h =>
      exact h
    | 21, hij, h =>
      exact h
    | 22, hij, h =>
      exact h
    | 23, hij, h =>
      exact h
    | 24, hij, h =>
      obtain ⟨g, h1, h0, h2⟩ := h
      exact ⟨g, h1, h0, (r.block _ (heap_lt h2)).trans h2⟩
    | 25, hij, h =>
      obtain ⟨g, h1, h0, h2⟩ := h
      exact ⟨g, h1, h0, (r.block _ (heap_lt h2)).trans h2⟩
    | (n + 26), _, h => exact h
  case pstep =>
    intro i o ho a' w' hsa hb hd
    match i, ho with
    | 0, ho =>
      obtain rfl := Option.some.inj ho
      try dsimp only at hd
      have g0 : a'.tmps.getD 0 undef = .pointer (some ⟨tb, 0, none⟩) := hsa.rest 0 (by rfl)
      refine wpOp_of rfl rfl ?_
      refine op_run (v := .pointer (some ⟨tb, 0, none⟩)) (w' := w') ?_ ⟨_, rfl, slots_put (ns := 28) (hsa.size.trans rfl) (by decide), Below.refl _ _⟩
      simp only [execOp, Act.eval, List.map_toArray, List.map_cons, List.map_nil, g0]; first | (go_simp; done) | rfl
    | 1, ho =>
      obtain rfl := Option.some.inj ho
      try dsimp only at hd
      have d0 : a'.tmps.getD 3 undef = .pointer (some ⟨tb, 0, none⟩) := hd 0 (by rfl)
      refine wpOp_of rfl rfl ?_
      refine op_run (v := .pointer (some ⟨tb, 0, none⟩)) (w' := w') ?_ ⟨_, rfl, slots_put (ns := 28) (hsa.size.trans rfl) (by decide), Below.refl _ _⟩
      simp only [execOp, Act.eval, List.map_toArray, List.map_cons, List.map_nil, d0]; first | (go_simp; done) | rfl
    | 2, ho =>
      obtain rfl := Option.some.inj ho
      try dsimp only at hd
      have d1 : a'.tmps.getD 4 undef = .pointer (some ⟨tb, 0, none⟩) := hd 1 (by rfl)
      refine wpOp_of rfl rfl ?_
      refine op_run (v := .pointer (some ⟨tb, 0, none⟩)) (w' := w') ?_ ⟨_, rfl, slots_put (ns := 28) (hsa.size.trans rfl) (by decide), Below.refl _ _⟩
      simp only [execOp, Act.eval, List.map_toArray, List.map_cons, List.map_nil, d1]; first | (go_simp; done) | rfl
    | 3, ho =>
      obtain rfl := Option.some.inj ho
      try dsimp only at hd
      have d2 : a'.tmps.getD 5 undef = .pointer (some ⟨tb, 0, none⟩) := hd 2 (by rfl)
      have y : w'.cell? ⟨tb, 0, none⟩ = some (.string nm) := (hb.cell (p := ⟨tb, 0, none⟩) (heap_lt hB)).trans (box_cell hB 0 rfl)
      refine wpOp_of rfl rfl ?_
      refine op_run (v := .string nm) (w' := w') ?_ ⟨_, rfl, slots_put (ns := 28) (hsa.size.trans rfl) (by decide), Below.refl _ _⟩
      simp only [execOp, Act.eval, List.map_toArray, List.map_cons, List.map_nil, d2, y]; first | (go_simp; done) | rfl
    | 4, ho =>
      obtain rfl := Option.some.inj ho
      try dsimp only at hd
      have d3 : a'.tmps.getD 6 undef = .string nm := hd 3 (by rfl)
      refine wpOp_of rfl rfl ?_
      refine op_run (v := .agg #[.int .i64 4, .int .u64 0, .string nm]) (w' := w') ?_ ⟨_, rfl, slots_put (ns := 28) (hsa.size.trans rfl) (by decide), Below.refl _ _⟩
      simp only [execOp, Act.eval, List.map_toArray, List.map_cons, List.map_nil, d3]; first | (go_simp; done) | rfl
    | 5, ho =>
      obtain rfl := Option.some.inj ho
      try dsimp only at hd
      have g0 : a'.tmps.getD 0 undef = .pointer (some ⟨tb, 0, none⟩) := hsa.rest 0 (by rfl)
      refine wpOp_of rfl rfl ?_
      refine op_run (v := .pointer (some ⟨tb, 0, none⟩)) (w' := w') ?_ ⟨_, rfl, slots_put (ns := 28) (hsa.size.trans rfl) (by decide), Below.refl _ _⟩
      simp only [execOp, Act.eval, List.map_toArray, List.map_cons, List.map_nil, g0]; first | (go_simp; done) | rfl
    | 6, ho =>
      obtain rfl := Option.some.inj ho
      try dsimp only at hd
      have d5 : a'.tmps.getD 8 undef = .pointer (some ⟨tb, 0, none⟩) := hd 5 (by rfl)
      refine wpOp_of rfl rfl ?_
      refine op_run (v := .pointer (some ⟨tb, 0, none⟩)) (w' := w') ?_ ⟨_, rfl, slots_put (ns := 28) (hsa.size.trans rfl) (by decide), Below.refl _ _⟩
      simp only [execOp, Act.eval, List.map_toArray, List.map_cons, List.map_nil, d5]; first | (go_simp; done) | rfl
    | 7, ho =>
      obtain rfl := Option.some.inj ho
      try dsimp only at hd
      have d6 : a'.tmps.getD 9 undef = .pointer (some ⟨tb, 0, none⟩) := hd 6 (by rfl)
      refine wpOp_of rfl rfl ?_
      refine op_run (v := .pointer (some ⟨tb, 1, none⟩)) (w' := w') ?_ ⟨_, rfl, slots_put (ns := 28) (hsa.size.trans rfl) (by decide), Below.refl _ _⟩
      simp only [execOp, Act.eval, List.map_toArray, List.map_cons, List.map_nil, d6]; first | (go_simp; done) | rfl
    | 8, ho =>
      obtain rfl := Option.some.inj ho
      try dsimp only at hd
      have d7 : a'.tmps.getD 10 undef = .pointer (some ⟨tb, 1, none⟩) := hd 7 (by rfl)
      have y : w'.cell? ⟨tb, 1, none⟩ = some (.int .i64 lo) := (hb.cell (p := ⟨tb, 1, none⟩) (heap_lt hB)).trans (box_cell hB 1 rfl)
      refine wpOp_of rfl rfl ?_
      refine op_run (v := .int .i64 lo) (w' := w') ?_ ⟨_, rfl, slots_put (ns := 28) (hsa.size.trans rfl) (by decide), Below.refl _ _⟩
      simp only [execOp, Act.eval, List.map_toArray, List.map_cons, List.map_nil, d7, y]; first | (go_simp; done) | rfl
    | 9, ho =>
      obtain rfl := Option.some.inj ho
      try dsimp only at hd
      have d8 : a'.tmps.getD 11 undef = .int .i64 lo := hd 8 (by rfl)
      refine wpOp_of rfl rfl ?_
      refine op_run (v := .int .u64 (IntKind.u64.wrap lo)) (w' := w') ?_ ⟨_, rfl, slots_put (ns := 28) (hsa.size.trans rfl) (by decide), Below.refl _ _⟩
      simp only [execOp, Act.eval, List.map_toArray, List.map_cons, List.map_nil, d8]; first | (go_simp; done) | rfl
    | 10, ho =>
      obtain rfl := Option.some.inj ho
      try dsimp only at hd
      have d9 : a'.tmps.getD 12 undef = .int .u64 (IntKind.u64.wrap lo) := hd 9 (by rfl)
      refine wpOp_of rfl rfl ?_
      refine op_run (v := .agg #[.int .i64 3, .int .u64 (IntKind.u64.wrap lo), .string ⟨#[]⟩]) (w' := w') ?_ ⟨_, rfl, slots_put (ns := 28) (hsa.size.trans rfl) (by decide), Below.refl _ _⟩
      simp only [execOp, Act.eval, List.map_toArray, List.map_cons, List.map_nil, d9]; first | (go_simp; done) | rfl
    | 11, ho =>
      obtain rfl := Option.some.inj ho
      try dsimp only at hd
      have g0 : a'.tmps.getD 0 undef = .pointer (some ⟨tb, 0, none⟩) := hsa.rest 0 (by rfl)
      refine wpOp_of rfl rfl ?_
      refine op_run (v := .pointer (some ⟨tb, 0, none⟩)) (w' := w') ?_ ⟨_, rfl, slots_put (ns := 28) (hsa.size.trans rfl) (by decide), Below.refl _ _⟩
      simp only [execOp, Act.eval, List.map_toArray, List.map_cons, List.map_nil, g0]; first | (go_simp; done) | rfl
    | 12, ho =>
      obtain rfl := Option.some.inj ho
      try dsimp only at hd
      have d11 : a'.tmps.getD 14 undef = .pointer (some ⟨tb, 0, none⟩) := hd 11 (by rfl)
      refine wpOp_of rfl rfl ?_
      refine op_run (v := .pointer (some ⟨tb, 0, none⟩)) (w' := w') ?_ ⟨_, rfl, slots_put (ns := 28) (hsa.size.trans rfl) (by decide), Below.refl _ _⟩
      simp only [execOp, Act.eval, List.map_toArray, List.map_cons, List.map_nil, d11]; first | (go_simp; done) | rfl
    | 13, ho =>
      obtain rfl := Option.some.inj ho
      try dsimp only at hd
      have d12 : a'.tmps.getD 15 undef = .pointer (some ⟨tb, 0, none⟩) := hd 12 (by rfl)
      refine wpOp_of rfl rfl ?_
      refine op_run (v := .pointer (some ⟨tb, 2, none⟩)) (w' := w') ?_ ⟨_, rfl, slots_put (ns := 28) (hsa.size.trans rfl) (by decide), Below.refl _ _⟩
      simp only [execOp, Act.eval, List.map_toArray, List.map_cons, List.map_nil, d12]; first | (go_simp; done) | rfl
    | 14, ho =>
      obtain rfl := Option.some.inj ho
      try dsimp only at hd
      have d13 : a'.tmps.getD 16 undef = .pointer (some ⟨tb, 2, none⟩) := hd 13 (by rfl)
      have y : w'.cell? ⟨tb, 2, none⟩ = some (.int .i64 fi) := (hb.cell (p := ⟨tb, 2, none⟩) (heap_lt hB)).trans (box_cell hB 2 rfl)
      refine wpOp_of rfl rfl ?_
      refine op_run (v := .int .i64 fi) (w' := w') ?_ ⟨_, rfl, slots_put (ns := 28) (hsa.size.trans rfl) (by decide), Below.refl _ _⟩
      simp only [execOp, Act.eval, List.map_toArray, List.map_cons, List.map_nil, d13, y]; first | (go_simp; done) | rfl
    | 15, ho =>
      obtain rfl := Option.some.inj ho
      try dsimp only at hd
      have d14 : a'.tmps.getD 17 undef = .int .i64 fi := hd 14 (by rfl)
      refine wpOp_of rfl rfl ?_
      refine op_run (v := .int .u64 (IntKind.u64.wrap fi)) (w' := w') ?_ ⟨_, rfl, slots_put (ns := 28) (hsa.size.trans rfl) (by decide), Below.refl _ _⟩
      simp only [execOp, Act.eval, List.map_toArray, List.map_cons, List.map_nil, d14]; first | (go_simp; done) | rfl
    | 16, ho =>
      obtain rfl := Option.some.inj ho
      try dsimp only at hd
      have d15 : a'.tmps.getD 18 undef = .int .u64 (IntKind.u64.wrap fi) := hd 15 (by rfl)
      refine wpOp_of rfl rfl ?_
      refine op_run (v := .agg #[.int .i64 3, .int .u64 (IntKind.u64.wrap fi), .string ⟨#[]⟩]) (w' := w') ?_ ⟨_, rfl, slots_put (ns := 28) (hsa.size.trans rfl) (by decide), Below.refl _ _⟩
      simp only [execOp, Act.eval, List.map_toArray, List.map_cons, List.map_nil, d15]; first | (go_simp; done) | rfl
    | 17, ho =>
      obtain rfl := Option.some.inj ho
      try dsimp only at hd
      have g0 : a'.tmps.getD 0 undef = .pointer (some ⟨tb, 0, none⟩) := hsa.rest 0 (by rfl)
      refine wpOp_of rfl rfl ?_
      refine op_run (v := .pointer (some ⟨tb, 0, none⟩)) (w' := w') ?_ ⟨_, rfl, slots_put (ns := 28) (hsa.size.trans rfl) (by decide), Below.refl _ _⟩
      simp only [execOp, Act.eval, List.map_toArray, List.map_cons, List.map_nil, g0]; first | (go_simp; done) | rfl
    | 18, ho =>
      obtain rfl := Option.some.inj ho
      try dsimp only at hd
      have d17 : a'.tmps.getD 20 undef = .pointer (some ⟨tb, 0, none⟩) := hd 17 (by rfl)
      refine wpOp_of rfl rfl ?_
      refine op_run (v := .pointer (some ⟨tb, 0, none⟩)) (w' := w') ?_ ⟨_, rfl, slots_put (ns := 28) (hsa.size.trans rfl) (by decide), Below.refl _ _⟩
      simp only [execOp, Act.eval, List.map_toArray, List.map_cons, List.map_nil, d17]; first | (go_simp; done) | rfl
    | 19, ho =>
      obtain rfl := Option.some.inj ho
      try dsimp only at hd
      have d18 : a'.tmps.getD 21 undef = .pointer (some ⟨tb, 0, none⟩) := hd 18 (by rfl)
      refine wpOp_of rfl rfl ?_
      refine op_run (v := .pointer (some ⟨tb, 4, none⟩)) (w' := w') ?_ ⟨_, rfl, slots_put (ns := 28) (hsa.size.trans rfl) (by decide), Below.refl _ _⟩
      simp only [execOp, Act.eval, List.map_toArray, List.map_cons, List.map_nil, d18]; first | (go_simp; done) | rfl
    | 20, ho =>
      obtain rfl := Option.some.inj ho
      try dsimp only at hd
      have d19 : a'.tmps.getD 22 undef = .pointer (some ⟨tb, 4, none⟩) := hd 19 (by rfl)
      have y : w'.cell? ⟨tb, 4, none⟩ = some (.map (some mb)) := (hb.cell (p := ⟨tb, 4, none⟩) (heap_lt hB)).trans (box_cell hB 4 rfl)
      refine wpOp_of rfl rfl ?_
      refine op_run (v := .map (some mb)) (w' := w') ?_ ⟨_, rfl, slots_put (ns := 28) (hsa.size.trans rfl) (by decide), Below.refl _ _⟩
      simp only [execOp, Act.eval, List.map_toArray, List.map_cons, List.map_nil, d19, y]; first | (go_simp; done) | rfl
    | 21, ho =>
      obtain rfl := Option.some.inj ho
      try dsimp only at hd
      have d20 : a'.tmps.getD 23 undef = .map (some mb) := hd 20 (by rfl)
      have y := fun ty => (hL w' hb ty)
      refine wpOp_of rfl rfl ?_
      refine op_run (v := .int .i64 ct) (w' := w') ?_ ⟨_, rfl, slots_put (ns := 28) (hsa.size.trans rfl) (by decide), Below.refl _ _⟩
      simp only [execOp, Act.eval, List.map_toArray, List.map_cons, List.map_nil, d20, y]; first | (go_simp; done) | rfl
    | 22, ho =>
      obtain rfl := Option.some.inj ho
      try dsimp only at hd
      have d21 : a'.tmps.getD 24 undef = .int .i64 ct := hd 21 (by rfl)
      refine wpOp_of rfl rfl ?_
      refine op_run (v := .int .u64 (IntKind.u64.wrap ct)) (w' := w') ?_ ⟨_, rfl, slots_put (ns := 28) (hsa.size.trans rfl) (by decide), Below.refl _ _⟩
      simp only [execOp, Act.eval, List.map_toArray, List.map_cons, List.map_nil, d21]; first | (go_simp; done) | rfl
    | 23, ho =>
      obtain rfl := Option.some.inj ho
      try dsimp only at hd
      have d22 : a'.tmps.getD 25 undef = .int .u64 (IntKind.u64.wrap ct) := hd 22 (by rfl)
      refine wpOp_of rfl rfl ?_
      refine op_run (v := .agg #[.int .i64 3, .int .u64 (IntKind.u64.wrap ct), .string ⟨#[]⟩]) (w' := w') ?_ ⟨_, rfl, slots_put (ns := 28) (hsa.size.trans rfl) (by decide), Below.refl _ _⟩
      simp only [execOp, Act.eval, List.map_toArray, List.map_cons, List.map_nil, d22]; first | (go_simp; done) | rfl
    | 24, ho =>
      obtain rfl := Option.some.inj ho
      try dsimp only at hd
      have d4 : a'.tmps.getD 7 undef = .agg #[.int .i64 4, .int .u64 0, .string nm] := hd 4 (by rfl)
      have d10 : a'.tmps.getD 13 undef = .agg #[.int .i64 3, .int .u64 (IntKind.u64.wrap lo), .string ⟨#[]⟩] := hd 10 (by rfl)
      have d16 : a'.tmps.getD 19 undef = .agg #[.int .i64 3, .int .u64 (IntKind.u64.wrap fi), .string ⟨#[]⟩] := hd 16 (by rfl)
      have d23 : a'.tmps.getD 26 undef = .agg #[.int .i64 3, .int .u64 (IntKind.u64.wrap ct), .string ⟨#[]⟩] := hd 23 (by rfl)
      refine wpOp_of rfl rfl ?_
      refine op_run (v := Value.slice (some ⟨w'.heap.size, 0, none⟩) 4 4) (w' := w'.alloc (.cells #[.int .i64 4, .int .u64 0, .string nm, .int .i64 3, .int .u64 (IntKind.u64.wrap lo), .string ⟨#[]⟩, .int .i64 3, .int .u64 (IntKind.u64.wrap fi), .string ⟨#[]⟩, .int .i64 3, .int .u64 (IntKind.u64.wrap ct), .string ⟨#[]⟩] 83)) ?_ ⟨_, rfl, ?_, ?_⟩
      · simp only [execOp, Act.eval, List.map_toArray, List.map_cons, List.map_nil, d4, d10, d16, d23]; first | (go_simp; done) | rfl
      · try dsimp only
        exact ⟨_, (slots_put (ns := 28) (hsa.size.trans rfl) (by decide)), hb.size, heap_alloc_new _ _⟩
      · exact (Below.refl _ _).alloc (Nat.le_refl _) _
    | 25, ho =>
      obtain rfl := Option.some.inj ho
      try dsimp only at hd
      have d24 : ∃ g, a'.tmps.getD 27 undef = .slice (some ⟨g, 0, none⟩) 4 4 ∧ wq.heap.size ≤ g ∧ w'.heap[g]? = some (.cells #[.int .i64 4, .int .u64 0, .string nm, .int .i64 3, .int .u64 (IntKind.u64.wrap lo), .string ⟨#[]⟩, .int .i64 3, .int .u64 (IntKind.u64.wrap fi), .string ⟨#[]⟩, .int .i64 3, .int .u64 (IntKind.u64.wrap ct), .string ⟨#[]⟩] 83 (0, 0)) := hd 24 (by rfl)
      obtain ⟨g, d24, h0, h2⟩ := d24
      refine wpOp_of rfl rfl ?_
      refine op_run (v := .slice (some ⟨g, 0, none⟩) 4 4) (w' := w') ?_ ⟨_, rfl, ?_, ?_⟩
      · simp only [execOp, Act.eval, List.map_toArray, List.map_cons, List.map_nil, d24]; first | (go_simp; done) | rfl
      · try dsimp only
        exact ⟨g, (slots_put (ns := 28) (hsa.size.trans rfl) (by decide)), h0, h2⟩
      · exact Below.refl _ _
    | (n + 26), ho => exact absurd ho (by simp)
  case pdone =>
    intro a' w' hsa hb hd
    have d25 : ∃ g, a'.tmps.getD 2 undef = .slice (some ⟨g, 0, none⟩) 4 4 ∧ wq.heap.size ≤ g ∧ w'.heap[g]? = some (.cells #[.int .i64 4, .int .u64 0, .string nm, .int .i64 3, .int .u64 (IntKind.u64.wrap lo), .string ⟨#[]⟩, .int .i64 3, .int .u64 (IntKind.u64.wrap fi), .string ⟨#[]⟩, .int .i64 3, .int .u64 (IntKind.u64.wrap ct), .string ⟨#[]⟩] 83 (0, 0)) := hd 25 (by decide)
    obtain ⟨g, d25, h0, h2⟩ := d25
    obtain ⟨w1, w2, w3⟩ := WK.out
    rw [w1, w2, w3] at h2
    exact HQ.out _ _ g ⟨hsa.size.trans rfl, hsa.defers.trans rfl, hsa.rest 0 (by rfl), d25⟩ h0 h2 hb
theorem theaditems {w : World} {L : LOC} {G : TG} {c : Nat} (h : TAt w L G) (hk : G.Ok c) : Calls Tryz.prog 36 #[.pointer (some ⟨L.b, 0, none⟩)] w fun e w' => ∃ ao cp, e = .returned (.slice ao (itemsHd G.name G.low G.fin (Maps.size G.D)).length cp) ∧ w'.ownsRow w.heap.size 83 3 (.slice ao (itemsHd G.name G.low G.fin (Maps.size G.D)).length cp) (itemsHd G.name G.low G.fin (Maps.size G.D)).length (K.itemCells (itemsHd G.name G.low G.fin (Maps.size G.D))) ∧ Below w.heap.size w w' := by
  have h1 := hk.low
  have h2 := hk.fin
  have h3 := hk.cnt
  have h4 := hk.big
  have h5 := h.map.size_le
  go_enter Tryz.func36, Tryz.ntmps36
  refine wp_seq (reg_mono (hi_r0 (by kernel_rfl) _ (v := ⟨_, _⟩) ⟨rfl, rfl, rfl, rfl⟩ ?_))
  intro a0 F0
  try dsimp only at F0
  refine wp_seq (reg_mono (hi_r1 (by kernel_rfl) _ F0 rfl h.box (fun W hb ty => (h.below hb).map.len Tryz.underlying50 ty) (by omega) (by omega) (by omega) (by omega) (by omega) (by omega) ?_))
  intro a1 w1 g F1 hg G1 b1
  refine wp_ret ?_
  refine bodyPost_ret (v := .slice (some ⟨g, 0, none⟩) 4 4) ?_ F1.defers ⟨_, _, rfl, row_of_box (n := 4) hg G1 (by unfold maxLen; omega) rfl, b1⟩
  simp [results, Tryz.results36, go_sem, slot_get F1.s2]
end Go.Proofs.YtfoomgdlbkjaeaaGreat.Y
