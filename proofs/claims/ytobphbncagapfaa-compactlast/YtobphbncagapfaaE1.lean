/-
  The chapter's examples, as the law asks them; the laws' records: two lists that are one.
-/
import Derived.Test.YtobphbncagapfaaC7
import Derived.Deep.QuietTactic
namespace Go.Proofs.Ytobphbncagapfaa
open Go.RowKit Go.Maps

def exr (n : Int) (k : ByteArray) : Rec := ⟨n, ⟨#[]⟩, 0, k, ⟨#[]⟩⟩
set_option maxHeartbeats 1000000 in
theorem rec_any (n : Int) (k : ByteArray) (w : World) :
    Calls Try.prog 11 #[.int .i64 n, .string k] w fun e w' => e = .returned (exr n k).v ∧ Below w.heap.size w w' := by
  go_enter Try.func11, Try.ntmps11
  go_wp2
  refine bodyPost_ret (v := (exr n k).v) (by simp [results, Try.results11, go_sem, exr, Rec.v]) rfl ⟨rfl, ?_⟩
  exact (Below.refl _ _).alloc (Nat.le_refl _) _
theorem recs_of_block {w : World} {g cap : Nat} {l : List Rec} (h : w.heap[g]? = some (.cells (recCells l).toArray 30 (0, 0))) (hc : (cap : Int) ≤ 9223372036854775807) : RecsAt w (.slice (some ⟨g, 0, none⟩) l.length cap) l := by
  refine ⟨some ⟨g, 0, none⟩, cap, rfl, hc, fun i hi => ⟨g, 0, rfl, heap_lt h, fun j hj => ?_⟩⟩
  rw [Lib.cell_of_heap h, ← recCells_get l i j hi hj]
  simp
theorem ints_at {w : World} {B : Nat} {ao : Option Addr} {cap n : Nat} {l : List Int} (h : w.ownsRow B 3 1 (.slice ao n cap) l.length (intCells l)) (i : Nat) (hi : i < l.length) : ∃ b off, ao = some ⟨b, off, none⟩ ∧ w.cell? ⟨b, off + i, none⟩ = some (.int .i64 l[i]) := by
  rcases h.2 with ⟨h1, h2⟩ | ⟨g, c2, cur, hv, hg, hh, hn, hc, hs, ht⟩
  · omega
  · injection hv with h1 h2 h3
    refine ⟨g, 0, h1, ?_⟩
    rw [Lib.cell_of_heap hh, Nat.zero_add]
    have e : (intCells l)[i]? = some (.int .i64 l[i]) := by simp [intCells, hi]
    rw [← ht, List.getElem?_take, if_pos (by omega)] at e
    simpa using e
def exl : List Rec := [exr 0 ⟨#[97]⟩, exr 1 ⟨#[98]⟩, exr 2 ⟨#[97]⟩]
def exl2 : List Rec := [exr 0 ⟨#[97]⟩, exr 1 ⟨#[97]⟩, exr 2 ⟨#[97]⟩]
theorem exl_ok : ∀ r ∈ exl, r.ok := by
  intro r hr
  simp only [exl, List.mem_cons, List.not_mem_nil, or_false] at hr
  rcases hr with rfl | rfl | rfl <;> (refine ⟨?_, ?_, ?_, ?_, ?_, ?_, ?_⟩ <;> decide)
theorem exl2_ok : ∀ r ∈ exl2, r.ok := by
  intro r hr
  simp only [exl2, List.mem_cons, List.not_mem_nil, or_false] at hr
  rcases hr with rfl | rfl | rfl <;> (refine ⟨?_, ?_, ?_, ?_, ?_, ?_, ?_⟩ <;> decide)
theorem ex_keep : keepF 9 exl = [exr 1 ⟨#[98]⟩, exr 2 ⟨#[97]⟩] := by rfl
theorem ex_gone : goneF 9 exl = [0] := by rfl
theorem ex_keep2 : keepF 1 exl2 = [exr 1 ⟨#[97]⟩, exr 2 ⟨#[97]⟩] := by rfl
set_option maxHeartbeats 4000000 in
set_option maxRecDepth 100000 in
theorem examples_any (w : World) :
    Calls Try.prog 5 #[] w fun e w' => e = .returned (.bool true) ∧ Below w.heap.size w w' := by
  have HR := hide rec_any
  have HK1 : Hid (∀ W v, RecsAt W v exl → Calls Try.prog 6 #[v, .int .i64 9] W fun e w' => ∃ v', e = .returned v' ∧ w'.ownsRow W.heap.size 30 5 v' 2 (recCells [exr 1 ⟨#[98]⟩, exr 2 ⟨#[97]⟩]) ∧ Below W.heap.size W w') := fun W v h => by
    have := keep_any 9 exl (by decide) exl_ok v W h
    rw [ex_keep] at this
    exact this
  have HG1 : Hid (∀ W v, RecsAt W v exl → Calls Try.prog 7 #[v, .int .i64 9] W fun e w' => ∃ v', e = .returned v' ∧ w'.ownsRow W.heap.size 3 1 v' 1 (intCells [0]) ∧ Below W.heap.size W w') := fun W v h => by
    have := gone_any 9 exl (by decide) exl_ok v W h
    rw [ex_gone] at this
    exact this
  have HK2 : Hid (∀ W v, RecsAt W v exl2 → Calls Try.prog 6 #[v, .int .i64 1] W fun e w' => ∃ v', e = .returned v' ∧ w'.ownsRow W.heap.size 30 5 v' 2 (recCells [exr 1 ⟨#[97]⟩, exr 2 ⟨#[97]⟩]) ∧ Below W.heap.size W w') := fun W v h => by
    have := keep_any 1 exl2 (by decide) exl2_ok v W h
    rw [ex_keep2] at this
    exact this
  simp only [exr, Rec.v] at HR
  go_enter Try.func5, Try.ntmps5
  go_wp2_with fail
  refine (HR.out _ _ _).mono ?_
  rintro e w1 ⟨rfl, b1⟩
  go_wp2_with fail
  refine (HR.out _ _ _).mono ?_
  rintro e w2 ⟨rfl, b2⟩
  go_wp2_with fail
  refine (HR.out _ _ _).mono ?_
  rintro e w3 ⟨rfl, b3⟩
  have B3 := hide ((b1.trans (b2.mono b1.size)).trans (b3.mono (b1.trans (b2.mono b1.size)).size))
  clear b1 b2 b3
  have RA : Hid (RecsAt (w3.alloc (.cells #[.int .i64 0, .string ⟨#[]⟩, .int .i64 0, .string ⟨#[97]⟩, .string ⟨#[]⟩, .int .i64 1, .string ⟨#[]⟩, .int .i64 0, .string ⟨#[98]⟩, .string ⟨#[]⟩, .int .i64 2, .string ⟨#[]⟩, .int .i64 0, .string ⟨#[97]⟩, .string ⟨#[]⟩] 30)) (.slice (some ⟨w3.heap.size, 0, none⟩) 3 3) exl) := recs_of_block (l := exl) (heap_alloc_new w3 _) (by omega)
  have BA := hide (B3.out.alloc B3.out.size (.cells #[.int .i64 0, .string ⟨#[]⟩, .int .i64 0, .string ⟨#[97]⟩, .string ⟨#[]⟩, .int .i64 1, .string ⟨#[]⟩, .int .i64 0, .string ⟨#[98]⟩, .string ⟨#[]⟩, .int .i64 2, .string ⟨#[]⟩, .int .i64 0, .string ⟨#[97]⟩, .string ⟨#[]⟩] 30))
  go_wp2_with fail
  refine (HK1.out _ _ RA.out).mono ?_
  rintro e w4 ⟨v4, rfl, o4, b4⟩
  have B4 := hide (BA.out.trans (b4.mono BA.out.size))
  have R4 := hide (RA.out.below b4)
  have O4 := hide o4
  obtain ⟨ao4, ac4, rfl⟩ := row_slice o4
  clear o4 b4 B3 BA RA
  generalize w3.heap.size = g at *
  go_wp2_with fail
  refine (HG1.out _ _ R4.out).mono ?_
  rintro e w5 ⟨v5, rfl, o5, b5⟩
  have B5 := hide (B4.out.trans (b5.mono B4.out.size))
  have P5 := hide (own_below O4.out b5)
  have O5 := hide o5
  obtain ⟨ao5, ac5, rfl⟩ := row_slice o5
  clear o5 b5 B4 R4 O4
  generalize w4.heap.size = g4 at *
  go_wp2_with fail
  refine (HR.out _ _ _).mono ?_
  rintro e w6 ⟨rfl, b6⟩
  go_wp2_with fail
  refine (HR.out _ _ _).mono ?_
  rintro e w7 ⟨rfl, b7⟩
  go_wp2_with fail
  refine (HR.out _ _ _).mono ?_
  rintro e w8 ⟨rfl, b8⟩
  have b68 := (b6.trans (b7.mono b6.size)).trans (b8.mono (b6.trans (b7.mono b6.size)).size)
  have B8 := hide (B5.out.trans (b68.mono B5.out.size))
  have P8 := hide (own_below P5.out b68)
  have Q8 := hide (own_below O5.out b68)
  clear b6 b7 b8 b68 B5 P5 O5
  have RA : Hid (RecsAt (w8.alloc (.cells #[.int .i64 0, .string ⟨#[]⟩, .int .i64 0, .string ⟨#[97]⟩, .string ⟨#[]⟩, .int .i64 1, .string ⟨#[]⟩, .int .i64 0, .string ⟨#[97]⟩, .string ⟨#[]⟩, .int .i64 2, .string ⟨#[]⟩, .int .i64 0, .string ⟨#[97]⟩, .string ⟨#[]⟩] 30)) (.slice (some ⟨w8.heap.size, 0, none⟩) 3 3) exl2) := recs_of_block (l := exl2) (heap_alloc_new w8 _) (by omega)
  have BA := hide (B8.out.alloc B8.out.size (.cells #[.int .i64 0, .string ⟨#[]⟩, .int .i64 0, .string ⟨#[97]⟩, .string ⟨#[]⟩, .int .i64 1, .string ⟨#[]⟩, .int .i64 0, .string ⟨#[97]⟩, .string ⟨#[]⟩, .int .i64 2, .string ⟨#[]⟩, .int .i64 0, .string ⟨#[97]⟩, .string ⟨#[]⟩] 30))
  have PA := hide (P8.out.alloc (.cells #[.int .i64 0, .string ⟨#[]⟩, .int .i64 0, .string ⟨#[97]⟩, .string ⟨#[]⟩, .int .i64 1, .string ⟨#[]⟩, .int .i64 0, .string ⟨#[97]⟩, .string ⟨#[]⟩, .int .i64 2, .string ⟨#[]⟩, .int .i64 0, .string ⟨#[97]⟩, .string ⟨#[]⟩] 30))
  have QA := hide (Q8.out.alloc (.cells #[.int .i64 0, .string ⟨#[]⟩, .int .i64 0, .string ⟨#[97]⟩, .string ⟨#[]⟩, .int .i64 1, .string ⟨#[]⟩, .int .i64 0, .string ⟨#[97]⟩, .string ⟨#[]⟩, .int .i64 2, .string ⟨#[]⟩, .int .i64 0, .string ⟨#[97]⟩, .string ⟨#[]⟩] 30))
  go_wp2_with fail
  refine (HK2.out _ _ RA.out).mono ?_
  rintro e w9 ⟨v9, rfl, o9, b9⟩
  have B9 := hide (BA.out.trans (b9.mono BA.out.size))
  have P9 := hide (own_below PA.out b9)
  have Q9 := hide (own_below QA.out b9)
  obtain ⟨ao9, ac9, rfl⟩ := row_slice o9
  obtain ⟨_, g1, f1, rfl, _, a0, _⟩ := (recs_of_own (l := [exr 1 ⟨#[98]⟩, exr 2 ⟨#[97]⟩]) P9.out).five 0 (by decide)
  obtain ⟨_, g2, f2, rfl, _, c0, _⟩ := (recs_of_own (l := [exr 1 ⟨#[97]⟩, exr 2 ⟨#[97]⟩]) o9).five 0 (by decide)
  obtain ⟨g3, f3, rfl, d0⟩ := ints_at (l := [0]) Q9.out 0 (by decide)
  have a0' : w9.cell? ⟨g1, f1, none⟩ = some (.int .i64 1) := a0
  have c0' : w9.cell? ⟨g2, f2, none⟩ = some (.int .i64 1) := c0
  have d0' : w9.cell? ⟨g3, f3, none⟩ = some (.int .i64 0) := d0
  clear a0 c0 d0 o9 b9 B8 P8 Q8 RA BA PA QA
  go_wp2
  go_ret
  exact ⟨rfl, B9.out⟩
set_option maxHeartbeats 2000000 in
theorem records_same (l : List Rec) (va vb : Value) (w : World) (hl : l.length ≤ 1099511627776) (ha : RecsAt w va l) (hb : RecsAt w vb l) :
    Calls Try.prog 9 #[va, vb] w fun e w' => e = .returned (.bool true) ∧ ∃ n, w' = w.drewN n := by
  obtain ⟨ao, ac, rfl, _, _⟩ := id ha
  obtain ⟨bo, bc, rfl, _, _⟩ := id hb
  have HA := hide ha
  have HB := hide hb
  clear ha hb
  go_enter Try.func9, Try.ntmps9
  go_wp2
  go_loopw [5] (fun iv wv => ∃ k n : Nat, k ≤ l.length ∧ iv = .int .i64 k ∧ wv = w.drewN n) (fun iv _ => l.length - (intOf iv).toNat)
  case atStart => exact ⟨0, 0, Nat.zero_le _, rfl, rfl⟩
  case round =>
    obtain ⟨k, n, hk, rfl, rfl⟩ := hrel
    by_cases hlt : k < l.length
    · obtain ⟨_, b, off, rfl, _, a0, a1, a2, a3, a4⟩ := HA.out.five k hlt
      obtain ⟨_, b2, off2, rfl, _, b0, b1, b2', b3, b4⟩ := HB.out.five k hlt
      have hi0 : (0 : Int) ≤ (k : Int) := by omega
      have hi1 : (k : Int) < (l.length : Int) := by omega
      generalize l[k] = x at *
      obtain ⟨xo, xp, xs, xk, xv⟩ := x
      simp only at a0 a1 a2 a3 a4 b0 b1 b2' b3 b4
      go_wp2
      go_quiet (fail)
      go_wp2
      exact ⟨⟨k + 1, n + nq, by omega, by go_num, rfl⟩, by simp [intOf]; omega⟩
    · have hi1 : ¬ (k : Int) < (l.length : Int) := by omega
      go_wp2
      go_ret
      exact ⟨rfl, n, rfl⟩
theorem records_below (l : List Rec) (va vb : Value) (w : World) (hl : l.length ≤ 1099511627776) (ha : RecsAt w va l) (hb : RecsAt w vb l) :
    Calls Try.prog 9 #[va, vb] w fun e w' => e = .returned (.bool true) ∧ Below w.heap.size w w' := by
  refine (records_same l va vb w hl ha hb).mono ?_
  rintro e w' ⟨rfl, n, rfl⟩
  exact ⟨rfl, ⟨rfl, rfl, rfl, Nat.le_refl _, fun _ _ => rfl⟩⟩
end Go.Proofs.Ytobphbncagapfaa
