/-
  Operations that are guarded ('&&', '||'), for Phi; nothing of the program is in this text.
-/
import Derived.Test.YtfcpclpaalekiaaZFN
import Derived.Test.YtfcpclpaalekiaaZPW4
import Derived.Test.YtfcpclpaalekiaaZPN1
namespace Go.Proofs.Ytfcpclpaalekiaa
open Go.RowKit Go.Shelf
set_option maxHeartbeats 8000000
set_option maxRecDepth 100000
attribute [local go_sem ↓] Go.wp_at_zero Go.wp_at_succ
set_option linter.unusedSimpArgs false
set_option linter.unusedVariables false
abbrev sA : ByteArray := ⟨#[97]⟩
abbrev sB : ByteArray := ⟨#[98]⟩
abbrev sC : ByteArray := ⟨#[99]⟩
abbrev sX : ByteArray := ⟨#[120]⟩
theorem ex_long1 : longF [[sA], [sA, sB], []] = ([sA, sB], 0) := by decide
theorem ex_long2 : longF [[sA, sB], [sA, sC]] = ([], 11) := by decide
theorem ex_com : comF [sA, sB, sC] [sA, sB, sX] = 2 := by decide
def exV : VW := ⟨2, [⟨0, 1⟩]⟩
theorem exV_right : exV.right := by
  refine ⟨by decide, by decide, by decide, by decide, fun i hi => ?_⟩
  have : i = 0 := by simpa [exV] using hi
  subst this
  intro m hm
  obtain rfl : m = ⟨0, 1⟩ := by simpa [exV] using hm.symm
  exact ⟨⟨by decide, by decide, by decide, by decide⟩, fun k h => absurd h (by omega)⟩
theorem texts_row (w : World) (l : List ByteArray) : TextsAt (w.alloc (.cells (l.map Value.string).toArray 9)) (some ⟨w.heap.size, 0, none⟩) l := by
  intro i hi
  have X := heap_alloc_new w (.cells (l.map Value.string).toArray 9)
  refine ⟨w.heap.size, 0, rfl, heap_lt X, ?_⟩
  rw [Nat.zero_add, Lib.cell_of_heap X]
  simp [hi]
theorem encL_len (v : VW) (log : List ByteArray) : (encL v log).1.length ≤ 100000000 := by
  unfold encL
  split
  · split
    · rename_i h
      have h1 := itemsB_len (itemsL v log) fun x hx => (itemsL_fault h x hx).1
      have h2 : (itemsL v log).length = 1 + log.length := by unfold itemsL; simp; omega
      have h3 := h.1
      rw [h2] at h1
      show ((itemsL v log).flatMap K.itemB).length ≤ _
      omega
    · exact Nat.zero_le _
  · exact Nat.zero_le _
theorem exV_enc : (encL exV [sX]).2 = 0 := by
  unfold encL
  rw [if_pos exV_right, if_pos (by decide)]
theorem exV_dec : decL (encL exV [sX]).1 = (exV, [sX], 0) := (decL_encL exV_enc).1
theorem row_of_row (w : World) (l : List Value) (t : TypeId) {i : Nat} (hi : i < l.length) : (w.alloc (.cells l.toArray t)).cell? ⟨w.heap.size, 0 + i, none⟩ = some l[i] := by
  rw [Nat.zero_add, Lib.cell_of_heap (heap_alloc_new w (.cells l.toArray t))]
  simp [hi]
theorem ex_two (w : World) (a b : List ByteArray) : TextsAt ((w.alloc (.cells (a.map Value.string).toArray 9)).alloc (.cells (b.map Value.string).toArray 9)) (some ⟨w.heap.size, 0, none⟩) a ∧ TextsAt ((w.alloc (.cells (a.map Value.string).toArray 9)).alloc (.cells (b.map Value.string).toArray 9)) (some ⟨w.heap.size + 1, 0, none⟩) b := by
  have h1 := texts_row w a
  have hs : (w.alloc (.cells (a.map Value.string).toArray 9)).heap.size = w.heap.size + 1 := by simp
  have h2 := texts_row (w.alloc (.cells (a.map Value.string).toArray 9)) b
  rw [hs] at h2
  exact ⟨h1.below ((Below.refl _ _).alloc (Nat.le_refl _) _), h2⟩
theorem ex_logs (w : World) (a b : List ByteArray) (c : List (List ByteArray)) (V : List Value) (hV : V = [.slice (some ⟨w.heap.size, 0, none⟩) a.length a.length, .slice (some ⟨w.heap.size + 1, 0, none⟩) b.length b.length] ++ c.map (fun _ => .slice none 0 0)) (hc : ∀ x ∈ c, x = []) :
    LogsAt (((w.alloc (.cells (a.map Value.string).toArray 9)).alloc (.cells (b.map Value.string).toArray 9)).alloc (.cells V.toArray 23)) (some ⟨w.heap.size + 1 + 1, 0, none⟩) (a :: b :: c) := by
  obtain ⟨h1, h2⟩ := ex_two w a b
  have hs : ((w.alloc (.cells (a.map Value.string).toArray 9)).alloc (.cells (b.map Value.string).toArray 9)).heap.size = w.heap.size + 1 + 1 := by simp
  generalize (w.alloc (.cells (a.map Value.string).toArray 9)).alloc (.cells (b.map Value.string).toArray 9) = w2 at *
  have bu := (Below.refl w2.heap.size w2).alloc (Nat.le_refl _) (.cells V.toArray 23)
  have X := heap_alloc_new w2 (.cells V.toArray 23)
  intro i hi
  have hVl : V.length = (a :: b :: c).length := by rw [hV]; simp
  have hcell := row_of_row w2 V 23 (i := i) (by omega)
  rw [hs] at hcell
  refine ⟨w.heap.size + 1 + 1, 0, rfl, by rw [← hs]; exact heap_lt X, ?_⟩
  rw [hcell]
  subst hV
  match i, hi with
  | 0, _ => exact ⟨_, _, rfl, h1.below bu⟩
  | 1, _ => exact ⟨_, _, rfl, h2.below bu⟩
  | i + 2, hi =>
    have hic : i < c.length := by simpa using hi
    have e : (a :: b :: c)[i + 2] = [] := hc _ (by simp)
    refine ⟨none, 0, ?_, ?_⟩
    · simp [e]
    · rw [e]; exact fun j hj => by cases hj
theorem fexamples (w : World) : Calls Try.prog 9 #[] w fun e w' => e = .returned (.bool true) ∧ Below w.heap.size w w' := by
  have HL1 : Hid (∀ W : World, Calls Try.prog 11 #[.slice (some ⟨W.heap.size + 1 + 1, 0, none⟩) 3 3] (((W.alloc (.cells #[.string ⟨#[97]⟩] 9)).alloc (.cells #[.string ⟨#[97]⟩, .string ⟨#[98]⟩] 9)).alloc (.cells #[.slice (some ⟨W.heap.size, 0, none⟩) 1 1, .slice (some ⟨W.heap.size + 1, 0, none⟩) 2 2, .slice none 0 0] 23)) fun e w' => ∃ lo lc, e = .returned (.tuple #[.slice lo 2 lc, .int .i64 0]) ∧ Below W.heap.size W w') := fun W => by
    have h := ex_logs W [sA] [sA, sB] [[]] _ rfl (by simp)
    have bw : Below W.heap.size W (((W.alloc (.cells #[.string ⟨#[97]⟩] 9)).alloc (.cells #[.string ⟨#[97]⟩, .string ⟨#[98]⟩] 9)).alloc (.cells #[.slice (some ⟨W.heap.size, 0, none⟩) 1 1, .slice (some ⟨W.heap.size + 1, 0, none⟩) 2 2, .slice none 0 0] 23)) := (((Below.refl _ _).alloc (Nat.le_refl _) _).alloc (by simp) _).alloc (by simp; omega) _
    have := flongest _ 3 _ _ h (by decide) (by intro x hx; simp at hx; rcases hx with rfl | rfl | rfl <;> (refine ⟨by simp, fun s hs => ?_⟩; simp at hs; try rcases hs with rfl | rfl) <;> first | (subst hs; decide) | decide)
    rw [ex_long1] at this
    exact this.mono fun e w' ⟨lo, lc, h1, _, h3⟩ => ⟨lo, lc, h1, bw.trans (h3.mono bw.size)⟩
  have HL2 : Hid (∀ W : World, Calls Try.prog 11 #[.slice (some ⟨W.heap.size + 1 + 1, 0, none⟩) 2 2] (((W.alloc (.cells #[.string ⟨#[97]⟩, .string ⟨#[98]⟩] 9)).alloc (.cells #[.string ⟨#[97]⟩, .string ⟨#[99]⟩] 9)).alloc (.cells #[.slice (some ⟨W.heap.size, 0, none⟩) 2 2, .slice (some ⟨W.heap.size + 1, 0, none⟩) 2 2] 23)) fun e w' => ∃ lo lc, e = .returned (.tuple #[.slice lo 0 lc, .int .i64 11]) ∧ Below W.heap.size W w') := fun W => by
    have h := ex_logs W [sA, sB] [sA, sC] [] _ rfl (by simp)
    have bw : Below W.heap.size W (((W.alloc (.cells #[.string ⟨#[97]⟩, .string ⟨#[98]⟩] 9)).alloc (.cells #[.string ⟨#[97]⟩, .string ⟨#[99]⟩] 9)).alloc (.cells #[.slice (some ⟨W.heap.size, 0, none⟩) 2 2, .slice (some ⟨W.heap.size + 1, 0, none⟩) 2 2] 23)) := (((Below.refl _ _).alloc (Nat.le_refl _) _).alloc (by simp) _).alloc (by simp; omega) _
    have := flongest _ 2 _ _ h (by decide) (by intro x hx; simp at hx; rcases hx with rfl | rfl <;> (refine ⟨by simp, fun s hs => ?_⟩; simp at hs; rcases hs with rfl | rfl) <;> decide)
    rw [ex_long2] at this
    exact this.mono fun e w' ⟨lo, lc, h1, _, h3⟩ => ⟨lo, lc, h1, bw.trans (h3.mono bw.size)⟩
  obtain ⟨S, hS⟩ : ∃ S, S = (encL exV [sX]).1 := ⟨_, rfl⟩
  have HEN : Hid (∀ W : World, Calls Try.prog 17 #[.agg #[.int .i64 2, .slice (some ⟨W.heap.size, 0, none⟩) 1 1], .slice (some ⟨W.heap.size + 1 + 1, 0, none⟩) 1 1] (((W.alloc (.cells #[.int .i64 0, .int .i64 1] tMember)).alloc (.cells #[.int .i64 2, .slice (some ⟨W.heap.size, 0, none⟩) 1 1] tView)).alloc (.cells #[.string ⟨#[120]⟩] 9)) fun e w' => e = .returned (.tuple #[.string ⟨S.toArray⟩, .int .i64 0]) ∧ Below (((W.alloc (.cells #[.int .i64 0, .int .i64 1] tMember)).alloc (.cells #[.int .i64 2, .slice (some ⟨W.heap.size, 0, none⟩) 1 1] tView)).alloc (.cells #[.string ⟨#[120]⟩] 9)).heap.size (((W.alloc (.cells #[.int .i64 0, .int .i64 1] tMember)).alloc (.cells #[.int .i64 2, .slice (some ⟨W.heap.size, 0, none⟩) 1 1] tView)).alloc (.cells #[.string ⟨#[120]⟩] 9)) w') := fun W => by
    have h0 : MemsAt (W.alloc (.cells #[.int .i64 0, .int .i64 1] tMember)) (some ⟨W.heap.size, 0, none⟩) exV.mem := fun i hi => by
      have : i = 0 := by simpa [exV] using hi
      subst this
      have X := heap_alloc_new W (.cells #[.int .i64 0, .int .i64 1] tMember)
      exact ⟨W.heap.size, 0, rfl, heap_lt X, box_cell X 0 rfl, box_cell X 1 rfl⟩
    have h1 := (h0.below ((Below.refl _ _).alloc (Nat.le_refl _) (.cells #[.int .i64 2, .slice (some ⟨W.heap.size, 0, none⟩) 1 1] tView))).below ((Below.refl _ _).alloc (Nat.le_refl _) (.cells #[.string ⟨#[120]⟩] 9))
    have h2 := texts_row ((W.alloc (.cells #[.int .i64 0, .int .i64 1] tMember)).alloc (.cells #[.int .i64 2, .slice (some ⟨W.heap.size, 0, none⟩) 1 1] tView)) [sX]
    rw [show ((W.alloc (.cells #[.int .i64 0, .int .i64 1] tMember)).alloc (.cells #[.int .i64 2, .slice (some ⟨W.heap.size, 0, none⟩) 1 1] tView)).heap.size = W.heap.size + 1 + 1 by simp] at h2
    have := fencode exV (some ⟨W.heap.size, 0, none⟩) (some ⟨W.heap.size + 1 + 1, 0, none⟩) 1 1 [sX] _ h1 (by decide) h2 (by decide) (fun s hs => by rw [List.mem_singleton.1 hs]; decide)
    rw [exV_enc, ← hS] at this
    exact this
  have HDC : Hid (∀ W : World, Calls Try.prog 19 #[.string ⟨S.toArray⟩] W fun e w' => ∃ ro rc to' tc, e = .returned (.tuple #[.agg #[.int .i64 2, .slice ro 1 rc], .slice to' 1 tc, .int .i64 0]) ∧ TextsAt w' to' [sX] ∧ Below W.heap.size W w') := fun W => by
    have hz : (S.toArray : Array UInt8).size ≤ 9223372036854775807 := by
      have := encL_len exV [sX]
      rw [← hS] at this
      simp only [List.size_toArray]
      omega
    have := fdecode ⟨S.toArray⟩ W hz
    have hd : decL S = (exV, [sX], 0) := by rw [hS]; exact exV_dec
    rw [show (⟨S.toArray⟩ : ByteArray).data.toList = S by simp, hd] at this
    exact this.mono fun e w' ⟨⟨ro, rc, to', tc, h1, _, h3⟩, h4⟩ => ⟨ro, rc, to', tc, h1, texts_own h3, h4⟩
  have HCM : Hid (∀ W : World, Calls Try.prog 13 #[.slice (some ⟨W.heap.size, 0, none⟩) 3 3, .slice (some ⟨W.heap.size + 1, 0, none⟩) 3 3] ((W.alloc (.cells #[.string ⟨#[97]⟩, .string ⟨#[98]⟩, .string ⟨#[99]⟩] 9)).alloc (.cells #[.string ⟨#[97]⟩, .string ⟨#[98]⟩, .string ⟨#[120]⟩] 9)) fun e w' => e = .returned (.int .i64 2) ∧ Below W.heap.size W w') := fun W => by
    obtain ⟨h1, h2⟩ := ex_two W [sA, sB, sC] [sA, sB, sX]
    have bw : Below W.heap.size W ((W.alloc (.cells #[.string ⟨#[97]⟩, .string ⟨#[98]⟩, .string ⟨#[99]⟩] 9)).alloc (.cells #[.string ⟨#[97]⟩, .string ⟨#[98]⟩, .string ⟨#[120]⟩] 9)) := ((Below.refl _ _).alloc (Nat.le_refl _) _).alloc (by simp) _
    have := fcommon _ _ 3 3 _ _ _ h1 h2 (by decide) (by decide)
    rw [ex_com] at this
    exact this.mono fun e w' ⟨h1, h3⟩ => ⟨h1, bw.trans (h3.mono bw.size)⟩
  have HPX : Hid (∀ W : World, Calls Try.prog 15 #[.slice none 0 0, .slice none 0 0] W fun e w' => e = .returned (.bool true) ∧ Below W.heap.size W w') := fun W => by
    have := fprefix none none 0 0 [] [] W (fun i hi => by cases hi) (fun i hi => by cases hi) (by decide) (by decide)
    rw [preF_nil] at this
    exact this
  clear hS
  go_enter Try.func9, Try.ntmps9
  go_upto_region 6 with (first
    | (go_at_call 19; refine (HDC.out _).mono ?_; rintro e w5 ⟨ro, rc, to', tc, rfl, h5, b5⟩; have T5 := hide h5; have B5 := hide (B4.out.trans (b5.mono B4.out.size)); clear b5 h5)
    | (go_at_call 17; refine (HEN.out w3).mono ?_; rintro e w4 ⟨rfl, b4⟩; have B4 : Hid (Below w.heap.size w w4) := (((B3.out.alloc B3.out.size _).alloc (by have := B3.out.size; simp; omega) _).alloc (by have := B3.out.size; simp; omega) _).trans (b4.mono (by have := B3.out.size; simp; omega)); clear b4)
    | (go_at_call 11; refine (HL2.out w2).mono ?_; rintro e w3 ⟨lo2, lc2, rfl, b3⟩; have B3 := hide (B2.out.trans (b3.mono B2.out.size)); clear b3)
    | (go_at_call 11; refine (HL1.out w).mono ?_; rintro e w2 ⟨lo1, lc1, rfl, b2⟩; have B2 := hide b2; clear b2))
  clear HL1 HL2 HEN HDC B2 B3 B4
  obtain ⟨g5, off5, rfl, hg5, hc5⟩ := T5.out 0 (by simp)
  have X8 := heap_alloc_new w5 (.cells #[.int .i64 2, .slice ro 1 rc] tView)
  have q0 := box_cell X8 0 rfl
  have q1 := box_cell X8 1 rfl
  have bu := (Below.refl w5.heap.size w5).alloc (Nat.le_refl _) (.cells #[.int .i64 2, .slice ro 1 rc] tView)
  have q2 : (w5.alloc (.cells #[.int .i64 2, .slice ro 1 rc] tView)).cell? ⟨g5, off5, none⟩ = some (.string ⟨#[120]⟩) := (bu.cell (p := ⟨g5, off5, none⟩) hg5).trans hc5
  have B6 := hide (B5.out.trans (bu.mono B5.out.size))
  clear T5 hc5 hg5 X8 bu B5
  generalize w5.heap.size = vb at *
  generalize w5.alloc _ = w6 at *
  go_wp2_with (first
    | (go_at_call 15; refine (HPX.out _).mono ?_; rintro e w8 ⟨rfl, b8⟩; have B8 := hide (B7.out.trans (b8.mono B7.out.size)); clear b8)
    | (go_at_call 13; refine (HCM.out w6).mono ?_; rintro e w7 ⟨rfl, b7⟩; have B7 := hide (B6.out.trans (b7.mono B6.out.size)); clear b7))
  go_ret
  exact ⟨rfl, B8.out⟩
end Go.Proofs.Ytfcpclpaalekiaa
namespace Go.Proofs.Ytfcpclpaalekiaa
open Go.RowKit
set_option maxHeartbeats 8000000
set_option maxRecDepth 100000
set_option linter.unusedSimpArgs false
set_option linter.unusedVariables false
theorem fviews (x : VW) (ao bo : Option Addr) (cp cq : Nat) (w : World) (hM : MemsAt w ao x.mem) (hN : MemsAt w bo x.mem) (hl : x.mem.length ≤ 4611686018427387904) : Calls Try.prog 23 #[x.v ao cp, x.v bo cq] w fun e w' => e = .returned (.bool true) ∧ Below w.heap.size w w' := by
  have HM := hide hM
  have HN := hide hN
  obtain ⟨num, L⟩ := x
  simp only [VW.v] at *
  obtain ⟨n, hn⟩ : ∃ n, L.length = n := ⟨_, rfl⟩
  have HL := hide hn
  rw [hn] at hl ⊢
  clear hM hN hn
  have X0 := heap_alloc_new w (.cells #[.int .i64 num, .slice ao n cp] tView)
  have X1 := heap_alloc_new (w.alloc (.cells #[.int .i64 num, .slice ao n cp] tView)) (.cells #[.int .i64 num, .slice bo n cq] tView)
  have HD := hide (box_alloc X0 (.cells #[.int .i64 num, .slice bo n cq] tView))
  rw [show (w.alloc (.cells #[.int .i64 num, .slice ao n cp] tView)).heap.size = w.heap.size + 1 by simp] at X1
  have HE := hide X1
  have HB := hide (((Below.refl w.heap.size w).alloc (Nat.le_refl _) (.cells #[.int .i64 num, .slice ao n cp] tView)).alloc (by simp) (.cells #[.int .i64 num, .slice bo n cq] tView))
  clear X0 X1
  go_enter Try.func23, Try.ntmps23
  go_wp2
  generalize (w.alloc (.cells #[.int .i64 num, .slice ao n cp] tView)).alloc (.cells #[.int .i64 num, .slice bo n cq] tView) = w2 at *
  go_loopw [5] (fun iv wv => ∃ i : Nat, iv = .int .i64 i ∧ i ≤ n ∧ Hid (Below w2.heap.size w2 wv)) (fun iv _ => n - (intOf iv).toNat)
  case atStart => exact ⟨0, rfl, Nat.zero_le _, Below.refl _ _⟩
  case round =>
    obtain ⟨i, rfl, hi, R⟩ := hrel
    have D2 := (R.out.block _ (heap_lt HD.out)).trans HD.out
    have E2 := (R.out.block _ (heap_lt HE.out)).trans HE.out
    have c1 := box_cell D2 1 rfl
    have d1 := box_cell E2 1 rfl
    have B2 := hide (HB.out.trans (R.out.mono HB.out.size))
    clear D2 E2
    by_cases hlt : i < n
    · have hiL : i < L.length := by rw [HL.out]; exact hlt
      obtain ⟨b, off, rfl, _, y0, y1⟩ := HM.out.below B2.out i hiL
      obtain ⟨b3, off3, rfl, _, z0, z1⟩ := HN.out.below B2.out i hiL
      have hi0 : (0 : Int) ≤ (i : Int) := by omega
      have hi1 : (i : Int) < (n : Int) := by omega
      generalize L[i] = m at *
      obtain ⟨mn, ml⟩ := m
      simp only at y0 y1 z0 z1
      go_wp2_with fail
      go_quiet (fail)
      go_wp2
      go_roundw
      case rel => exact ⟨i + 1, by go_num, by omega, below_drewN R.out _⟩
      case measure => simp [intOf]; omega
    · have hi1 : ¬ (i : Int) < (n : Int) := by omega
      go_wp2
      go_ret
      exact ⟨rfl, B2.out⟩
end Go.Proofs.Ytfcpclpaalekiaa
namespace Go.Proofs.Ytfcpclpaalekiaa
open Go Go.RowKit
section
variable {P : Program} {ops : Array Oper} {Q : Exit → Act → World → Prop}
end
end Go.Proofs.Ytfcpclpaalekiaa
