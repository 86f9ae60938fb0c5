/-
  FlushLogs' regions (mkfg.py).
-/
import Derived.Test.YtfcpclpaalekiaaZFN
import Derived.Laws.StructEq
namespace Go.Proofs.Ytfcpclpaalekiaa
open Go.RowKit Go.Shelf
set_option maxHeartbeats 8000000
set_option maxRecDepth 100000
attribute [local go_sem ↓] Go.wp_at_zero Go.wp_at_succ
set_option linter.unusedSimpArgs false
set_option linter.unusedVariables false
abbrev sA : ByteArray := ⟨#[97]⟩
abbrev sB : ByteArray := ⟨#[98]⟩
abbrev sC : ByteArray := ⟨#[99]⟩
abbrev sX : ByteArray := ⟨#[120]⟩
theorem ex_long1 : longF [[sA], [sA, sB], []] = ([sA, sB], 0) := by decide
theorem ex_long2 : longF [[sA, sB], [sA, sC]] = ([], 11) := by decide
theorem ex_com : comF [sA, sB, sC] [sA, sB, sX] = 2 := by decide
def exV : VW := ⟨2, [⟨0, 1⟩]⟩
theorem exV_right : exV.right := by
  refine ⟨by decide, by decide, by decide, by decide, fun i hi => ?_⟩
  have : i = 0 := by simpa [exV] using hi
  subst this
  intro m hm
  obtain rfl : m = ⟨0, 1⟩ := by simpa [exV] using hm.symm
  exact ⟨⟨by decide, by decide, by decide, by decide⟩, fun k h => absurd h (by omega)⟩
theorem texts_row (w : World) (l : List ByteArray) : TextsAt (w.alloc (.cells (l.map Value.string).toArray 9)) (some ⟨w.heap.size, 0, none⟩) l := by
  intro i hi
  have X := heap_alloc_new w (.cells (l.map Value.string).toArray 9)
  refine ⟨w.heap.size, 0, rfl, heap_lt X, ?_⟩
  rw [Nat.zero_add, Lib.cell_of_heap X]
  simp [hi]
theorem encL_len (v : VW) (log : List ByteArray) : (encL v log).1.length ≤ 100000000 := by
  unfold encL
  split
  · split
    · rename_i h
      have h1 := itemsB_len (itemsL v log) fun x hx => (itemsL_fault h x hx).1
      have h2 : (itemsL v log).length = 1 + log.length := by unfold itemsL; simp; omega
      have h3 := h.1
      rw [h2] at h1
      show ((itemsL v log).flatMap K.itemB).length ≤ _
      omega
    · exact Nat.zero_le _
  · exact Nat.zero_le _
theorem exV_enc : (encL exV [sX]).2 = 0 := by
  unfold encL
  rw [if_pos exV_right, if_pos (by decide)]
theorem exV_dec : decL (encL exV [sX]).1 = (exV, [sX], 0) := (decL_encL exV_enc).1
theorem row_of_row (w : World) (l : List Value) (t : TypeId) {i : Nat} (hi : i < l.length) : (w.alloc (.cells l.toArray t)).cell? ⟨w.heap.size, 0 + i, none⟩ = some l[i] := by
  rw [Nat.zero_add, Lib.cell_of_heap (heap_alloc_new w (.cells l.toArray t))]
  simp [hi]
theorem ex_two (w : World) (a b : List ByteArray) : TextsAt ((w.alloc (.cells (a.map Value.string).toArray 9)).alloc (.cells (b.map Value.string).toArray 9)) (some ⟨w.heap.size, 0, none⟩) a ∧ TextsAt ((w.alloc (.cells (a.map Value.string).toArray 9)).alloc (.cells (b.map Value.string).toArray 9)) (some ⟨w.heap.size + 1, 0, none⟩) b := by
  have h1 := texts_row w a
  have hs : (w.alloc (.cells (a.map Value.string).toArray 9)).heap.size = w.heap.size + 1 := by simp
  have h2 := texts_row (w.alloc (.cells (a.map Value.string).toArray 9)) b
  rw [hs] at h2
  exact ⟨h1.below ((Below.refl _ _).alloc (Nat.le_refl _) _), h2⟩
theorem ex_logs (w : World) (a b : List ByteArray) (c : List (List ByteArray)) (V : List Value) (hV : V = [.slice (some ⟨w.heap.size, 0, none⟩) a.length a.length, .slice (some ⟨w.heap.size + 1, 0, none⟩) b.length b.length] ++ c.map (fun _ => .slice none 0 0)) (hc : ∀ x ∈ c, x = []) :
    LogsAt (((w.alloc (.cells (a.map Value.string).toArray 9)).alloc (.cells (b.map Value.string).toArray 9)).alloc (.cells V.toArray 23)) (some ⟨w.heap.size + 1 + 1, 0, none⟩) (a :: b :: c) := by
  obtain ⟨h1, h2⟩ := ex_two w a b
  have hs : ((w.alloc (.cells (a.map Value.string).toArray 9)).alloc (.cells (b.map Value.string).toArray 9)).heap.size = w.heap.size + 1 + 1 := by simp
  generalize (w.alloc (.cells (a.map Value.string).toArray 9)).alloc (.cells (b.map Value.string).toArray 9) = w2 at *
  have bu := (Below.refl w2.heap.size w2).alloc (Nat.le_refl _) (.cells V.toArray 23)
  have X := heap_alloc_new w2 (.cells V.toArray 23)
  intro i hi
  have hVl : V.length = (a :: b :: c).length := by rw [hV]; simp
  have hcell := row_of_row w2 V 23 (i := i) (by omega)
  rw [hs] at hcell
  refine ⟨w.heap.size + 1 + 1, 0, rfl, by rw [← hs]; exact heap_lt X, ?_⟩
  rw [hcell]
  subst hV
  match i, hi with
  | 0, _ => exact ⟨_, _, rfl, h1.below bu⟩
  | 1, _ => exact ⟨_, _, rfl, h2.below bu⟩
  | i + 2, hi =>
    have hic : i < c.length := by simpa using hi
    have e : (a :: b :: c)[i + 2] = [] := hc _ (by simp)
    refine ⟨none, 0, ?_, ?_⟩
    · simp [e]
    · rw [e]; exact fun j hj => by cases hj
theorem fexamples (w : World) : Calls Try.prog 9 #[] w fun e w' => e = .returned (.bool true) ∧ Below w.heap.size w w' := by
  have HL1 : Hid (∀ W : World, Calls Try.prog 11 #[.slice (some ⟨W.heap.size + 1 + 1, 0, none⟩) 3 3] (((W.alloc (.cells #[.string ⟨#[97]⟩] 9)).alloc (.cells #[.string ⟨#[97]⟩, .string ⟨#[98]⟩] 9)).alloc (.cells #[.slice (some ⟨W.heap.size, 0, none⟩) 1 1, .slice (some ⟨W.heap.size + 1, 0, none⟩) 2 2, .slice none 0 0] 23)) fun e w' => ∃ lo lc, e = .returned (.tuple #[.slice lo 2 lc, .int .i64 0]) ∧ Below W.heap.size W w') := fun W => by
    have h := ex_logs W [sA] [sA, sB] [[]] _ rfl (by simp)
    have bw : Below W.heap.size W (((W.alloc (.cells #[.string ⟨#[97]⟩] 9)).alloc (.cells #[.string ⟨#[97]⟩, .string ⟨#[98]⟩] 9)).alloc (.cells #[.slice (some ⟨W.heap.size, 0, none⟩) 1 1, .slice (some ⟨W.heap.size + 1, 0, none⟩) 2 2, .slice none 0 0] 23)) := (((Below.refl _ _).alloc (Nat.le_refl _) _).alloc (by simp) _).alloc (by simp; omega) _
    have := flongest _ 3 _ _ h (by decide) (by intro x hx; simp at hx; rcases hx with rfl | rfl | rfl <;> (refine ⟨by simp, fun s hs => ?_⟩; simp at hs; try rcases hs with rfl | rfl) <;> first | (subst hs; decide) | decide)
    rw [ex_long1] at this
    exact this.mono fun e w' ⟨lo, lc, h1, _, h3⟩ => ⟨lo, lc, h1, bw.trans (h3.mono bw.size)⟩
  have HL2 : Hid (∀ W : World, Calls Try.prog 11 #[.slice (some ⟨W.heap.size + 1 + 1, 0, none⟩) 2 2] (((W.alloc (.cells #[.string ⟨#[97]⟩, .string ⟨#[98]⟩] 9)).alloc (.cells #[.string ⟨#[97]⟩, .string ⟨#[99]⟩] 9)).alloc (.cells #[.slice (some ⟨W.heap.size, 0, none⟩) 2 2, .slice (some ⟨W.heap.size + 1, 0, none⟩) 2 2] 23)) fun e w' => ∃ lo lc, e = .returned (.tuple #[.slice lo 0 lc, .int .i64 11]) ∧ Below W.heap.size W w') := fun W => by
    have h := ex_logs W [sA, sB] [sA, sC] [] _ rfl (by simp)
    have bw : Below W.heap.size W (((W.alloc (.cells #[.string ⟨#[97]⟩, .string ⟨#[98]⟩] 9)).alloc (.cells #[.string ⟨#[97]⟩, .string ⟨#[99]⟩] 9)).alloc (.cells #[.slice (some ⟨W.heap.size, 0, none⟩) 2 2, .slice (some ⟨W.heap.size + 1, 0, none⟩) 2 2] 23)) := (((Below.refl _ _).alloc (Nat.le_refl _) _).alloc (by simp) _).alloc (by simp; omega) _
    have := flongest _ 2 _ _ h (by decide) (by intro x hx; simp at hx; rcases hx with rfl | rfl <;> (refine ⟨by simp, fun s hs => ?_⟩; simp at hs; rcases hs with rfl | rfl) <;> decide)
    rw [ex_long2] at this
    exact this.mono fun e w' ⟨lo, lc, h1, _, h3⟩ => ⟨lo, lc, h1, bw.trans (h3.mono bw.size)⟩
  obtain ⟨S, hS⟩ : ∃ S, S = (encL exV [sX]).1 := ⟨_, rfl⟩
  have HEN : Hid (∀ W : World, Calls Try.prog 17 #[.agg #[.int .i64 2, .slice (some ⟨W.heap.size, 0, none⟩) 1 1], .slice (some ⟨W.heap.size + 1 + 1, 0, none⟩) 1 1] (((W.alloc (.cells #[.int .i64 0, .int .i64 1] tMember)).alloc (.cells #[.int .i64 2, .slice (some ⟨W.heap.size, 0, none⟩) 1 1] tView)).alloc (.cells #[.string ⟨#[120]⟩] 9)) fun e w' => e = .returned (.tuple #[.string ⟨S.toArray⟩, .int .i64 0]) ∧ Below (((W.alloc (.cells #[.int .i64 0, .int .i64 1] tMember)).alloc (.cells #[.int .i64 2, .slice (some ⟨W.heap.size, 0, none⟩) 1 1] tView)).alloc (.cells #[.string ⟨#[120]⟩] 9)).heap.size (((W.alloc (.cells #[.int .i64 0, .int .i64 1] tMember)).alloc (.cells #[.int .i64 2, .slice (some ⟨W.heap.size, 0, none⟩) 1 1] tView)).alloc (.cells #[.string ⟨#[120]⟩] 9)) w') := fun W => by
    have h0 : MemsAt (W.alloc (.cells #[.int .i64 0, .int .i64 1] tMember)) (some ⟨W.heap.size, 0, none⟩) exV.mem := fun i hi => by
      have : i = 0 := by simpa [exV] using hi
      subst this
      have X := heap_alloc_new W (.cells #[.int .i64 0, .int .i64 1] tMember)
      exact ⟨W.heap.size, 0, rfl, heap_lt X, box_cell X 0 rfl, box_cell X 1 rfl⟩
    have h1 := (h0.below ((Below.refl _ _).alloc (Nat.le_refl _) (.cells #[.int .i64 2, .slice (some ⟨W.heap.size, 0, none⟩) 1 1] tView))).below ((Below.refl _ _).alloc (Nat.le_refl _) (.cells #[.string ⟨#[120]⟩] 9))
    have h2 := texts_row ((W.alloc (.cells #[.int .i64 0, .int .i64 1] tMember)).alloc (.cells #[.int .i64 2, .slice (some ⟨W.heap.size, 0, none⟩) 1 1] tView)) [sX]
    rw [show ((W.alloc (.cells #[.int .i64 0, .int .i64 1] tMember)).alloc (.cells #[.int .i64 2, .slice (some ⟨W.heap.size, 0, none⟩) 1 1] tView)).heap.size = W.heap.size + 1 + 1 by simp] at h2
    have := fencode exV (some ⟨W.heap.size, 0, none⟩) (some ⟨W.heap.size + 1 + 1, 0, none⟩) 1 1 [sX] _ h1 (by decide) h2 (by decide) (fun s hs => by rw [List.mem_singleton.1 hs]; decide)
    rw [exV_enc, ← hS] at this
    exact this
  have HDC : Hid (∀ W : World, Calls Try.prog 19 #[.string ⟨S.toArray⟩] W fun e w' => ∃ ro rc to' tc, e = .returned (.tuple #[.agg #[.int .i64 2, .slice ro 1 rc], .slice to' 1 tc, .int .i64 0]) ∧ TextsAt w' to' [sX] ∧ Below W.heap.size W w') := fun W => by
    have hz : (S.toArray : Array UInt8).size ≤ 9223372036854775807 := by
      have := encL_len exV [sX]
      rw [← hS] at this
      simp only [List.size_toArray]
      omega
    have := fdecode ⟨S.toArray⟩ W hz
    have hd : decL S = (exV, [sX], 0) := by rw [hS]; exact exV_dec
    rw [show (⟨S.toArray⟩ : ByteArray).data.toList = S by simp, hd] at this
    exact this.mono fun e w' ⟨⟨ro, rc, to', tc, h1, _, h3⟩, h4⟩ => ⟨ro, rc, to', tc, h1, texts_own h3, h4⟩
  have HCM : Hid (∀ W : World, Calls Try.prog 13 #[.slice (some ⟨W.heap.size, 0, none⟩) 3 3, .slice (some ⟨W.heap.size + 1, 0, none⟩) 3 3] ((W.alloc (.cells #[.string ⟨#[97]⟩, .string ⟨#[98]⟩, .string ⟨#[99]⟩] 9)).alloc (.cells #[.string ⟨#[97]⟩, .string ⟨#[98]⟩, .string ⟨#[120]⟩] 9)) fun e w' => e = .returned (.int .i64 2) ∧ Below W.heap.size W w') := fun W => by
    obtain ⟨h1, h2⟩ := ex_two W [sA, sB, sC] [sA, sB, sX]
    have bw : Below W.heap.size W ((W.alloc (.cells #[.string ⟨#[97]⟩, .string ⟨#[98]⟩, .string ⟨#[99]⟩] 9)).alloc (.cells #[.string ⟨#[97]⟩, .string ⟨#[98]⟩, .string ⟨#[120]⟩] 9)) := ((Below.refl _ _).alloc (Nat.le_refl _) _).alloc (by simp) _
    have := fcommon _ _ 3 3 _ _ _ h1 h2 (by decide) (by decide)
    rw [ex_com] at this
    exact this.mono fun e w' ⟨h1, h3⟩ => ⟨h1, bw.trans (h3.mono bw.size)⟩
  have HPX : Hid (∀ W : World, Calls Try.prog 15 #[.slice none 0 0, .slice none 0 0] W fun e w' => e = .returned (.bool true) ∧ Below W.heap.size W w') := fun W => by
    have := fprefix none none 0 0 [] [] W (fun i hi => by cases hi) (fun i hi => by cases hi) (by decide) (by decide)
    rw [preF_nil] at this
    exact this
  clear hS
  go_enter Try.func9, Try.ntmps9
  go_upto_region 6 with (first
    | (go_at_call 19; refine (HDC.out _).mono ?_; rintro e w5 ⟨ro, rc, to', tc, rfl, h5, b5⟩; have T5 := hide h5; have B5 := hide (B4.out.trans (b5.mono B4.out.size)); clear b5 h5)
    | (go_at_call 17; refine (HEN.out w3).mono ?_; rintro e w4 ⟨rfl, b4⟩; have B4 : Hid (Below w.heap.size w w4) := (((B3.out.alloc B3.out.size _).alloc (by have := B3.out.size; simp; omega) _).alloc (by have := B3.out.size; simp; omega) _).trans (b4.mono (by have := B3.out.size; simp; omega)); clear b4)
    | (go_at_call 11; refine (HL2.out w2).mono ?_; rintro e w3 ⟨lo2, lc2, rfl, b3⟩; have B3 := hide (B2.out.trans (b3.mono B2.out.size)); clear b3)
    | (go_at_call 11; refine (HL1.out w).mono ?_; rintro e w2 ⟨lo1, lc1, rfl, b2⟩; have B2 := hide b2; clear b2))
  clear HL1 HL2 HEN HDC B2 B3 B4
  obtain ⟨g5, off5, rfl, hg5, hc5⟩ := T5.out 0 (by simp)
  have X8 := heap_alloc_new w5 (.cells #[.int .i64 2, .slice ro 1 rc] tView)
  have q0 := box_cell X8 0 rfl
  have q1 := box_cell X8 1 rfl
  have bu := (Below.refl w5.heap.size w5).alloc (Nat.le_refl _) (.cells #[.int .i64 2, .slice ro 1 rc] tView)
  have q2 : (w5.alloc (.cells #[.int .i64 2, .slice ro 1 rc] tView)).cell? ⟨g5, off5, none⟩ = some (.string ⟨#[120]⟩) := (bu.cell (p := ⟨g5, off5, none⟩) hg5).trans hc5
  have B6 := hide (B5.out.trans (bu.mono B5.out.size))
  clear T5 hc5 hg5 X8 bu B5
  generalize w5.heap.size = vb at *
  generalize w5.alloc _ = w6 at *
  go_wp2_with (first
    | (go_at_call 15; refine (HPX.out _).mono ?_; rintro e w8 ⟨rfl, b8⟩; have B8 := hide (B7.out.trans (b8.mono B7.out.size)); clear b8)
    | (go_at_call 13; refine (HCM.out w6).mono ?_; rintro e w7 ⟨rfl, b7⟩; have B7 := hide (B6.out.trans (b7.mono B6.out.size)); clear b7))
  go_ret
  exact ⟨rfl, B8.out⟩
end Go.Proofs.Ytfcpclpaalekiaa
namespace Go.Proofs.Ytfcpclpaalekiaa
open Go.RowKit
set_option maxHeartbeats 8000000
set_option maxRecDepth 100000
attribute [local go_sem ↓] Go.wp_at_zero Go.wp_at_succ
set_option linter.unusedSimpArgs false
set_option linter.unusedVariables false
theorem frame_fg (t : Array Value) (h : t.size = 76) : ∃ u : Nat → Value, t = List.toArray (u 0 :: u 1 :: u 2 :: u 3 :: u 4 :: u 5 :: u 6 :: u 7 :: u 8 :: u 9 :: u 10 :: u 11 :: u 12 :: u 13 :: u 14 :: u 15 :: u 16 :: u 17 :: u 18 :: u 19 :: u 20 :: u 21 :: u 22 :: u 23 :: u 24 :: u 25 :: u 26 :: u 27 :: u 28 :: u 29 :: u 30 :: u 31 :: u 32 :: u 33 :: u 34 :: u 35 :: u 36 :: u 37 :: u 38 :: u 39 :: u 40 :: u 41 :: u 42 :: u 43 :: u 44 :: u 45 :: u 46 :: u 47 :: u 48 :: u 49 :: u 50 :: u 51 :: u 52 :: u 53 :: u 54 :: u 55 :: u 56 :: u 57 :: u 58 :: u 59 :: u 60 :: u 61 :: u 62 :: u 63 :: u 64 :: u 65 :: u 66 :: u 67 :: u 68 :: u 69 :: u 70 :: u 71 :: u 72 :: u 73 :: u 74 :: u 75 :: []) := by
  refine ⟨fun i => t.getD i undef, ?_⟩
  refine Eq.trans (b := ((List.range 76).map fun i => t.getD i undef).toArray) ?_ rfl
  apply Array.ext
  · simp [h]
  · intro k h1 h2
    simp [Array.getD, h1]
structure Vfg where
  v0 : Value
  v1 : Value
  v2 : Value
  v6 : Value
  v7 : Value
  v8 : Value
  v9 : Value
  v10 : Value
  v11 : Value
  v12 : Value
  v13 : Value
  v14 : Value
  v15 : Value
structure Ffg (a : Act) (v : Vfg) : Prop where
  size : a.tmps.size = 76
  defers : a.defers = []
  s0 : a.tmps.getD 0 undef = v.v0
  s1 : a.tmps.getD 1 undef = v.v1
  s2 : a.tmps.getD 2 undef = v.v2
  s6 : a.tmps.getD 6 undef = v.v6
  s7 : a.tmps.getD 7 undef = v.v7
  s8 : a.tmps.getD 8 undef = v.v8
  s9 : a.tmps.getD 9 undef = v.v9
  s10 : a.tmps.getD 10 undef = v.v10
  s11 : a.tmps.getD 11 undef = v.v11
  s12 : a.tmps.getD 12 undef = v.v12
  s13 : a.tmps.getD 13 undef = v.v13
  s14 : a.tmps.getD 14 undef = v.v14
  s15 : a.tmps.getD 15 undef = v.v15
theorem frx_fg {a : Act} {v0 v1 v2 v6 v7 v8 v9 v10 v11 v12 v13 v14 v15 : Value} (h : Ffg a ⟨v0, v1, v2, v6, v7, v8, v9, v10, v11, v12, v13, v14, v15⟩) : ∃ u : Nat → Value, a = ⟨List.toArray (v0 :: v1 :: v2 :: u 3 :: u 4 :: u 5 :: v6 :: v7 :: v8 :: v9 :: v10 :: v11 :: v12 :: v13 :: v14 :: v15 :: u 16 :: u 17 :: u 18 :: u 19 :: u 20 :: u 21 :: u 22 :: u 23 :: u 24 :: u 25 :: u 26 :: u 27 :: u 28 :: u 29 :: u 30 :: u 31 :: u 32 :: u 33 :: u 34 :: u 35 :: u 36 :: u 37 :: u 38 :: u 39 :: u 40 :: u 41 :: u 42 :: u 43 :: u 44 :: u 45 :: u 46 :: u 47 :: u 48 :: u 49 :: u 50 :: u 51 :: u 52 :: u 53 :: u 54 :: u 55 :: u 56 :: u 57 :: u 58 :: u 59 :: u 60 :: u 61 :: u 62 :: u 63 :: u 64 :: u 65 :: u 66 :: u 67 :: u 68 :: u 69 :: u 70 :: u 71 :: u 72 :: u 73 :: u 74 :: u 75 :: []), []⟩ := by
  obtain ⟨t', d'⟩ := a
  obtain ⟨hs, hd, q0, q1, q2, q6, q7, q8, q9, q10, q11, q12, q13, q14, q15⟩ := h
  obtain ⟨u, hu⟩ := frame_fg t' hs
  simp only at hd q0 q1 q2 q6 q7 q8 q9 q10 q11 q12 q13 q14 q15
  subst hu hd
  have e0 : u 0 = v0 := q0
  have e1 : u 1 = v1 := q1
  have e2 : u 2 = v2 := q2
  have e6 : u 6 = v6 := q6
  have e7 : u 7 = v7 := q7
  have e8 : u 8 = v8 := q8
  have e9 : u 9 = v9 := q9
  have e10 : u 10 = v10 := q10
  have e11 : u 11 = v11 := q11
  have e12 : u 12 = v12 := q12
  have e13 : u 13 = v13 := q13
  have e14 : u 14 = v14 := q14
  have e15 : u 15 = v15 := q15
  refine ⟨u, ?_⟩
  rw [e0, e1, e2, e6, e7, e8, e9, e10, e11, e12, e13, e14, e15]
theorem fg_r0 {K : Act → World → Prop} {c : Code} (hc : regOf (Try.f3.body.getD .skip) 0 = some c) (a : Act) {v : Vfg} {wq : World}  (hF : Ffg a v) (hQ : ∀ a', Ffg a' { v with v6 := .bool false } → K a' wq) :
    Code.wp Try.prog c (Exit.then K fun _ _ _ => False) a wq := by
  have HQ := hide hQ
  clear hQ
  obtain ⟨v0, v1, v2, v6, v7, v8, v9, v10, v11, v12, v13, v14, v15⟩ := v
  obtain ⟨u, rfl⟩ := frx_fg hF
  clear hF
  simp only [Try.f3, Option.getD_some, regOf] at hc
  injection hc with hc
  subst hc
  go_wp2
  exact HQ.out _ ⟨rfl, rfl, rfl, rfl, rfl, rfl, rfl, rfl, rfl, rfl, rfl, rfl, rfl, rfl, rfl⟩
theorem fg_r1 {K : Act → World → Prop} {c : Code} (hc : regOf (Try.f3.body.getD .skip) 1 = some c) (a : Act) {v : Vfg} {wq : World} {R : World → Prop}  (hF : Ffg a v) (hE : Calls Try.prog 9 #[] wq fun e w' => e = .returned (.bool true) ∧ R w')
    (hQ : ∀ a' w1, Ffg a' { v with v7 := .bool true } → R w1 → K a' w1) :
    Code.wp Try.prog c (Exit.then K fun _ _ _ => False) a wq := by
  have HQ := hide hQ
  clear hQ
  obtain ⟨v0, v1, v2, v6, v7, v8, v9, v10, v11, v12, v13, v14, v15⟩ := v
  obtain ⟨u, rfl⟩ := frx_fg hF
  clear hF
  simp only [Try.f3, Option.getD_some, regOf] at hc
  injection hc with hc
  subst hc
  have HE := hide hE
  clear hE
  go_wp2_with (go_at_call 9; refine HE.out.mono ?_; rintro e w1 ⟨rfl, r1⟩; have R1 := hide r1; clear r1)
  exact HQ.out _ _ ⟨rfl, rfl, rfl, rfl, rfl, rfl, rfl, rfl, rfl, rfl, rfl, rfl, rfl, rfl, rfl⟩ R1.out
theorem fg_r2 {K : Act → World → Prop} {c : Code} (hc : regOf (Try.f3.body.getD .skip) 2 = some c) (a : Act) {v : Vfg} {wq : World} {R : Option Addr → Nat → World → Prop} {lo : Option Addr} {ln lc m : Nat} {z : Int} (hF : Ffg a v) (h0v : v.v0 = .slice lo ln lc) (hE : Calls Try.prog 10 #[.slice lo ln lc] wq fun e w' => ∃ (ro : Option Addr) (rc : Nat), e = .returned (.tuple #[.slice ro m rc, .int .i64 z]) ∧ R ro rc w')
    (hQ : ∀ a' w1 ro rc, Ffg a' { v with v8 := .slice ro m rc, v9 := .int .i64 z } → R ro rc w1 → K a' w1) :
    Code.wp Try.prog c (Exit.then K fun _ _ _ => False) a wq := by
  have HQ := hide hQ
  clear hQ
  obtain ⟨v0, v1, v2, v6, v7, v8, v9, v10, v11, v12, v13, v14, v15⟩ := v
  simp only at h0v HQ
  subst h0v
  obtain ⟨u, rfl⟩ := frx_fg hF
  clear hF
  simp only [Try.f3, Option.getD_some, regOf] at hc
  injection hc with hc
  subst hc
  have HE := hide hE
  clear hE
  go_wp2_with (go_at_call 10; refine HE.out.mono ?_; rintro e w1 ⟨ro, rc, rfl, r1⟩; have R1 := hide r1; clear r1)
  exact HQ.out _ _ _ _ ⟨rfl, rfl, rfl, rfl, rfl, rfl, rfl, rfl, rfl, rfl, rfl, rfl, rfl, rfl, rfl⟩ R1.out
theorem fg_r3 {K : Act → World → Prop} {c : Code} (hc : regOf (Try.f3.body.getD .skip) 3 = some c) (a : Act) {v : Vfg} {wq : World} {wo ta : Option Addr} {m wc tc : Nat} {w3 : World} (hF : Ffg a v) (h8v : v.v8 = .slice wo m wc) (hrun : (Builtin.append_ #[23, 23] 23 #[.slice none 0 0, .slice wo m wc]).run Try.prog wq = .ok (.slice ta m tc) w3)
    (hQ : ∀ a', Ffg a' { v with v10 := .slice ta m tc } → K a' w3) :
    Code.wp Try.prog c (Exit.then K fun _ _ _ => False) a wq := by
  have HQ := hide hQ
  clear hQ
  obtain ⟨v0, v1, v2, v6, v7, v8, v9, v10, v11, v12, v13, v14, v15⟩ := v
  simp only at h8v HQ
  subst h8v
  obtain ⟨u, rfl⟩ := frx_fg hF
  clear hF
  simp only [Try.f3, Option.getD_some, regOf] at hc
  injection hc with hc
  subst hc
  have HRUN := hide hrun
  clear hrun
  go_wp2_with (at_builtin; refine wpList_append_run rfl _ _ 23 rfl _ _ _ rfl rfl HRUN.out ?_)
  exact HQ.out _ ⟨rfl, rfl, rfl, rfl, rfl, rfl, rfl, rfl, rfl, rfl, rfl, rfl, rfl, rfl, rfl⟩
theorem fg_r4 {K : Act → World → Prop} {c : Code} (hc : regOf (Try.f3.body.getD .skip) 4 = some c) (a : Act) {v : Vfg} {wq : World}  (hF : Ffg a v) (hQ : ∀ a', Ffg a' { v with v11 := .int .i64 ((0 : Nat) : Int) } → K a' wq) :
    Code.wp Try.prog c (Exit.then K fun _ _ _ => False) a wq := by
  have HQ := hide hQ
  clear hQ
  obtain ⟨v0, v1, v2, v6, v7, v8, v9, v10, v11, v12, v13, v14, v15⟩ := v
  obtain ⟨u, rfl⟩ := frx_fg hF
  clear hF
  simp only [Try.f3, Option.getD_some, regOf] at hc
  injection hc with hc
  subst hc
  go_wp2
  exact HQ.out _ ⟨rfl, rfl, rfl, rfl, rfl, rfl, rfl, rfl, rfl, rfl, rfl, rfl, rfl, rfl, rfl⟩
theorem fg_r5 {K : Act → World → Prop} {c : Code} (hc : regOf (Try.f3.body.getD .skip) 5 = some c) (a : Act) {v : Vfg} {wq : World} {t : Nat} (hF : Ffg a v) (h11v : v.v11 = .int .i64 (t : Int)) (hQ : ∀ a', Ffg a' v → a'.tmps.getD 25 undef = .bool (decide ((t : Int) < 2)) → K a' wq) :
    Code.wp Try.prog c (Exit.then K fun _ _ _ => False) a wq := by
  have HQ := hide hQ
  clear hQ
  obtain ⟨v0, v1, v2, v6, v7, v8, v9, v10, v11, v12, v13, v14, v15⟩ := v
  simp only at h11v HQ
  subst h11v
  obtain ⟨u, rfl⟩ := frx_fg hF
  clear hF
  simp only [Try.f3, Option.getD_some, regOf] at hc
  injection hc with hc
  subst hc
  go_wp2
  exact HQ.out _ ⟨rfl, rfl, rfl, rfl, rfl, rfl, rfl, rfl, rfl, rfl, rfl, rfl, rfl, rfl, rfl⟩ (by first | rfl | (simp; done))
theorem fg_r7 {K : Act → World → Prop} {c : Code} (hc : regOf (Try.f3.body.getD .skip) 7 = some c) (a : Act) {v : Vfg} {wq : World} {R : Option Addr → Nat → World → Prop} {lo : Option Addr} {ln lc m : Nat} {z : Int} (hF : Ffg a v) (h0v : v.v0 = .slice lo ln lc) (hE : Calls Try.prog 11 #[.slice lo ln lc] wq fun e w' => ∃ (ro : Option Addr) (rc : Nat), e = .returned (.tuple #[.slice ro m rc, .int .i64 z]) ∧ R ro rc w')
    (hQ : ∀ a' w1 ro rc, Ffg a' { v with v12 := .slice ro m rc, v13 := .int .i64 z } → R ro rc w1 → K a' w1) :
    Code.wp Try.prog c (Exit.then K fun _ _ _ => False) a wq := by
  have HQ := hide hQ
  clear hQ
  obtain ⟨v0, v1, v2, v6, v7, v8, v9, v10, v11, v12, v13, v14, v15⟩ := v
  simp only at h0v HQ
  subst h0v
  obtain ⟨u, rfl⟩ := frx_fg hF
  clear hF
  simp only [Try.f3, Option.getD_some, regOf] at hc
  injection hc with hc
  subst hc
  have HE := hide hE
  clear hE
  go_wp2_with (go_at_call 11; refine HE.out.mono ?_; rintro e w1 ⟨ro, rc, rfl, r1⟩; have R1 := hide r1; clear r1)
  exact HQ.out _ _ _ _ ⟨rfl, rfl, rfl, rfl, rfl, rfl, rfl, rfl, rfl, rfl, rfl, rfl, rfl, rfl, rfl⟩ R1.out
theorem fg_r8 {K : Act → World → Prop} {c : Code} (hc : regOf (Try.f3.body.getD .skip) 8 = some c) (a : Act) {v : Vfg} {wq : World} {R : World → Prop} {lo mo : Option Addr} {ln lc mc : Nat} (hF : Ffg a v) (h12v : v.v12 = .slice lo ln lc) (h10v : v.v10 = .slice mo ln mc) (hE : Calls Try.prog 12 #[.slice lo ln lc, .slice mo ln mc] wq fun e w' => e = .returned (.bool true) ∧ R w')
    (hQ : ∀ a' w1, Ffg a' { v with v14 := .bool true } → R w1 → K a' w1) :
    Code.wp Try.prog c (Exit.then K fun _ _ _ => False) a wq := by
  have HQ := hide hQ
  clear hQ
  obtain ⟨v0, v1, v2, v6, v7, v8, v9, v10, v11, v12, v13, v14, v15⟩ := v
  simp only at h12v h10v HQ
  subst h12v h10v
  obtain ⟨u, rfl⟩ := frx_fg hF
  clear hF
  simp only [Try.f3, Option.getD_some, regOf] at hc
  injection hc with hc
  subst hc
  have HE := hide hE
  clear hE
  go_wp2_with (go_at_call 12; refine HE.out.mono ?_; rintro e w1 ⟨rfl, r1⟩; have R1 := hide r1; clear r1)
  exact HQ.out _ _ ⟨rfl, rfl, rfl, rfl, rfl, rfl, rfl, rfl, rfl, rfl, rfl, rfl, rfl, rfl, rfl⟩ R1.out
theorem fg_r9 {K : Act → World → Prop} {c : Code} (hc : regOf (Try.f3.body.getD .skip) 9 = some c) (a : Act) {v : Vfg} {wq : World} {z : Int} (hF : Ffg a v) (h14v : v.v14 = .bool true) (h13v : v.v13 = .int .i64 z) (h9v : v.v9 = .int .i64 z) (hQ : ∀ a', Ffg a' v → a'.tmps.getD 42 undef = .bool false → K a' wq) :
    Code.wp Try.prog c (Exit.then K fun _ _ _ => False) a wq := by
  have HQ := hide hQ
  clear hQ
  obtain ⟨v0, v1, v2, v6, v7, v8, v9, v10, v11, v12, v13, v14, v15⟩ := v
  simp only at h14v h13v h9v HQ
  subst h14v h13v h9v
  obtain ⟨u, rfl⟩ := frx_fg hF
  clear hF
  simp only [Try.f3, Option.getD_some, regOf] at hc
  injection hc with hc
  subst hc
  have hd : (z != z) = false := by simp
  go_wp2
  exact HQ.out _ ⟨rfl, rfl, rfl, rfl, rfl, rfl, rfl, rfl, rfl, rfl, rfl, rfl, rfl, rfl, rfl⟩ (by first | rfl | (simp; done))
theorem fg_r11 {K : Act → World → Prop} {c : Code} (hc : regOf (Try.f3.body.getD .skip) 11 = some c) (a : Act) {v : Vfg} {wq : World}  (hF : Ffg a v) (hQ : ∀ a', Ffg a' { v with v15 := .int .i64 ((0 : Nat) : Int) } → K a' wq) :
    Code.wp Try.prog c (Exit.then K fun _ _ _ => False) a wq := by
  have HQ := hide hQ
  clear hQ
  obtain ⟨v0, v1, v2, v6, v7, v8, v9, v10, v11, v12, v13, v14, v15⟩ := v
  obtain ⟨u, rfl⟩ := frx_fg hF
  clear hF
  simp only [Try.f3, Option.getD_some, regOf] at hc
  injection hc with hc
  subst hc
  go_wp2
  exact HQ.out _ ⟨rfl, rfl, rfl, rfl, rfl, rfl, rfl, rfl, rfl, rfl, rfl, rfl, rfl, rfl, rfl⟩
theorem fg_r12n {K : Act → World → Prop} {c : Code} (hc : regOf (Try.f3.body.getD .skip) 12 = some c) (a : Act) {v : Vfg} {wq : World} {xo : Option Addr} {m xc k : Nat} (hF : Ffg a v) (h12v : v.v12 = .slice xo m xc) (h15v : v.v15 = .int .i64 (k : Int)) (hk : ¬ (k : Int) < (m : Int)) (hQ : ∀ a', Ffg a' v → a'.tmps.getD 46 undef = .bool false → K a' wq) :
    Code.wp Try.prog c (Exit.then K fun _ _ _ => False) a wq := by
  have HQ := hide hQ
  clear hQ
  obtain ⟨v0, v1, v2, v6, v7, v8, v9, v10, v11, v12, v13, v14, v15⟩ := v
  simp only at h12v h15v HQ
  subst h12v h15v
  obtain ⟨u, rfl⟩ := frx_fg hF
  clear hF
  simp only [Try.f3, Option.getD_some, regOf] at hc
  injection hc with hc
  subst hc
  have hd : decide ((k : Int) < (m : Int)) = false := decide_eq_false hk
  go_wp2
  exact HQ.out _ ⟨rfl, rfl, rfl, rfl, rfl, rfl, rfl, rfl, rfl, rfl, rfl, rfl, rfl, rfl, rfl⟩ (by first | rfl | (simp; done))
theorem fg_r12y {K : Act → World → Prop} {c : Code} (hc : regOf (Try.f3.body.getD .skip) 12 = some c) (a : Act) {v : Vfg} {wq : World} {xo : Option Addr} {m xc k : Nat} (hF : Ffg a v) (h12v : v.v12 = .slice xo m xc) (h15v : v.v15 = .int .i64 (k : Int)) (hk : (k : Int) < (m : Int)) (hQ : ∀ a', Ffg a' v → a'.tmps.getD 46 undef = .bool true → K a' wq) :
    Code.wp Try.prog c (Exit.then K fun _ _ _ => False) a wq := by
  have HQ := hide hQ
  clear hQ
  obtain ⟨v0, v1, v2, v6, v7, v8, v9, v10, v11, v12, v13, v14, v15⟩ := v
  simp only at h12v h15v HQ
  subst h12v h15v
  obtain ⟨u, rfl⟩ := frx_fg hF
  clear hF
  simp only [Try.f3, Option.getD_some, regOf] at hc
  injection hc with hc
  subst hc
  have hd : decide ((k : Int) < (m : Int)) = true := decide_eq_true hk
  go_wp2
  exact HQ.out _ ⟨rfl, rfl, rfl, rfl, rfl, rfl, rfl, rfl, rfl, rfl, rfl, rfl, rfl, rfl, rfl⟩ (by first | rfl | (simp; done))
theorem fg_r14 {K : Act → World → Prop} {c : Code} (hc : regOf (Try.f3.body.getD .skip) 14 = some c) (a : Act) {v : Vfg} {wq : World} {g m xc k : Nat} {x : ByteArray} (hF : Ffg a v) (h12v : v.v12 = .slice (some ⟨g, 0, none⟩) m xc) (h15v : v.v15 = .int .i64 (k : Int)) (hk : k < m) (hsz : x.size ≤ 140737488351232) (hcl : wq.cell? ⟨g, k, none⟩ = some (.string x)) (hfr : wq.frozen? ⟨g, k, none⟩ = false)
    (hQ : ∀ a' y, Ffg a' v → K a' (wq.setCell ⟨g, k, none⟩ (.string y))) :
    Code.wp Try.prog c (Exit.then K fun _ _ _ => False) a wq := by
  have HQ := hide hQ
  clear hQ
  obtain ⟨v0, v1, v2, v6, v7, v8, v9, v10, v11, v12, v13, v14, v15⟩ := v
  simp only at h12v h15v HQ
  subst h12v h15v
  obtain ⟨u, rfl⟩ := frx_fg hF
  clear hF
  simp only [Try.f3, Option.getD_some, regOf] at hc
  injection hc with hc
  subst hc
  have i0 : (0 : Int) ≤ (k : Int) := by omega
  have i1 : (k : Int) < (m : Int) := by omega
  clear hk
  go_wp2
  exact HQ.out _ _ ⟨rfl, rfl, rfl, rfl, rfl, rfl, rfl, rfl, rfl, rfl, rfl, rfl, rfl, rfl, rfl⟩
theorem fg_r13 {K : Act → World → Prop} {c : Code} (hc : regOf (Try.f3.body.getD .skip) 13 = some c) (a : Act) {v : Vfg} {wq : World} {k : Nat} (hF : Ffg a v) (h15v : v.v15 = .int .i64 (k : Int)) (hk : k ≤ 17592186044416) (hQ : ∀ a', Ffg a' { v with v15 := .int .i64 ((k + 1 : Nat) : Int) } → K a' wq) :
    Code.wp Try.prog c (Exit.then K fun _ _ _ => False) a wq := by
  have HQ := hide hQ
  clear hQ
  obtain ⟨v0, v1, v2, v6, v7, v8, v9, v10, v11, v12, v13, v14, v15⟩ := v
  simp only at h15v HQ
  subst h15v
  obtain ⟨u, rfl⟩ := frx_fg hF
  clear hF
  simp only [Try.f3, Option.getD_some, regOf] at hc
  injection hc with hc
  subst hc
  have hc : ((k + 1 : Nat) : Int) = (k : Int) + 1 := by omega
  rw [hc] at HQ
  go_wp2
  exact HQ.out _ ⟨rfl, rfl, rfl, rfl, rfl, rfl, rfl, rfl, rfl, rfl, rfl, rfl, rfl, rfl, rfl⟩
theorem fg_r6 {K : Act → World → Prop} {c : Code} (hc : regOf (Try.f3.body.getD .skip) 6 = some c) (a : Act) {v : Vfg} {wq : World} {k : Nat} (hF : Ffg a v) (h11v : v.v11 = .int .i64 (k : Int)) (hk : k ≤ 17592186044416) (hQ : ∀ a', Ffg a' { v with v11 := .int .i64 ((k + 1 : Nat) : Int) } → K a' wq) :
    Code.wp Try.prog c (Exit.then K fun _ _ _ => False) a wq := by
  have HQ := hide hQ
  clear hQ
  obtain ⟨v0, v1, v2, v6, v7, v8, v9, v10, v11, v12, v13, v14, v15⟩ := v
  simp only at h11v HQ
  subst h11v
  obtain ⟨u, rfl⟩ := frx_fg hF
  clear hF
  simp only [Try.f3, Option.getD_some, regOf] at hc
  injection hc with hc
  subst hc
  have hc : ((k + 1 : Nat) : Int) = (k : Int) + 1 := by omega
  rw [hc] at HQ
  go_wp2
  exact HQ.out _ ⟨rfl, rfl, rfl, rfl, rfl, rfl, rfl, rfl, rfl, rfl, rfl, rfl, rfl, rfl, rfl⟩
theorem fg_r15 {K : Act → World → Prop} {c : Code} (hc : regOf (Try.f3.body.getD .skip) 15 = some c) (a : Act) {v : Vfg} {wq : World} {ao bo : Option Addr} {na nb ca cb x : Nat} {r : Bool} (hF : Ffg a v) (h1v : v.v1 = .slice ao na ca) (h2v : v.v2 = .slice bo nb cb) (h7v : v.v7 = .bool true) (h0 : ∀ W, Below wq.heap.size wq W → Calls Try.prog 13 #[.slice ao na ca, .slice bo nb cb] W fun e w' => e = .returned (.int .i64 (x : Int)) ∧ Below W.heap.size W w') (h1 : ∀ W, Below wq.heap.size wq W → Calls Try.prog 14 #[.slice ao na ca, .slice bo nb cb] W fun e w' => e = .returned (.int .i64 (x : Int)) ∧ Below W.heap.size W w') (h2 : ∀ W, Below wq.heap.size wq W → Calls Try.prog 15 #[.slice ao na ca, .slice bo nb cb] W fun e w' => e = .returned (.bool r) ∧ Below W.heap.size W w') (h3 : ∀ W, Below wq.heap.size wq W → Calls Try.prog 16 #[.slice ao na ca, .slice bo nb cb] W fun e w' => e = .returned (.bool r) ∧ Below W.heap.size W w') 
    (hQ : ∀ a' w1, Ffg a' { v with v6 := .bool true } → Below wq.heap.size wq w1 → K a' w1) :
    Code.wp Try.prog c (Exit.then K fun _ _ _ => False) a wq := by
  have HQ := hide hQ
  clear hQ
  obtain ⟨v0, v1, v2, v6, v7, v8, v9, v10, v11, v12, v13, v14, v15⟩ := v
  simp only at h1v h2v h7v HQ
  subst h1v h2v h7v
  obtain ⟨u, rfl⟩ := frx_fg hF
  clear hF
  simp only [Try.f3, Option.getD_some, regOf] at hc
  injection hc with hc
  subst hc
  have H0 := hide h0
  have H1 := hide h1
  have H2 := hide h2
  have H3 := hide h3
  clear h0 h1 h2 h3
  have d1 : ((x : Int) == (x : Int)) = true := by simp
  have d2 : (r == r) = true := by simp
  go_wp2_with (first | (go_at_call 16; refine (H3.out _ B2.out).mono ?_; rintro e w3 ⟨rfl, b3⟩; have B3 := hide (B2.out.trans <| b3.mono B2.out.size); clear b3) | (go_at_call 15; refine (H2.out _ B1.out).mono ?_; rintro e w2 ⟨rfl, b2⟩; have B2 := hide (B1.out.trans <| b2.mono B1.out.size); clear b2) | (go_at_call 14; refine (H1.out _ B0.out).mono ?_; rintro e w1 ⟨rfl, b1⟩; have B1 := hide (B0.out.trans <| b1.mono B0.out.size); clear b1) | (go_at_call 13; refine (H0.out _ (Below.refl _ _)).mono ?_; rintro e w0 ⟨rfl, b0⟩; have B0 := hide ((Below.refl wq.heap.size wq).trans <| b0.mono (Nat.le_refl _)); clear b0))
  all_goals exact HQ.out _ _ ⟨rfl, rfl, rfl, rfl, rfl, (by first | rfl | (simp; done)), rfl, rfl, rfl, rfl, rfl, rfl, rfl, rfl, rfl⟩ B3.out
theorem fg_ret {W : World} {a : Act} {v : Vfg} {x : Bool} {R : Ending → World → Prop} (hF : Ffg a v) (h2 : v.v6 = .bool x) (h : R (.returned (.bool x)) W) : bodyPost Try.prog Try.f3 R .ret a W := by
  have g0 := slot_get (hF.s6.trans h2)
  refine bodyPost_ret (v := .bool x) ?_ hF.defers h
  simp [results, Try.results3, go_sem, g0]
end Go.Proofs.Ytfcpclpaalekiaa
