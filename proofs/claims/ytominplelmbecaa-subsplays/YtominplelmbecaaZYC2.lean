/-
  Records in memory; lastPlaces, as it runs.
-/
import Derived.Test.YtominplelmbecaaZYC1
import Derived.Test.YtominplelmbecaaRows
import Derived.Maps.OwnOps
import Derived.Maps.Ext
import Derived.WalkSmall
namespace Go.Proofs.Ytominplelmbecaa.Y
open Go.RowKit Go.Maps
set_option maxRecDepth 100000

def Rec.v (r : Rec) : Value := .agg #[.int .i64 r.off, .string r.prod, .int .i64 r.seq, .string r.key, .string r.val]
def Rec.cells (r : Rec) : List Value := [.int .i64 r.off, .string r.prod, .int .i64 r.seq, .string r.key, .string r.val]
/-- What a record of the model's memory is. -/
def Rec.ok (r : Rec) : Prop := -9223372036854775808 ≤ r.off ∧ r.off ≤ 9223372036854775807 ∧ -9223372036854775808 ≤ r.seq ∧ r.seq ≤ 9223372036854775807 ∧ r.prod.size ≤ 281474976710656 ∧ r.key.size ≤ 281474976710656 ∧ r.val.size ≤ 281474976710656
def recCells (l : List Rec) : List Value := l.flatMap Rec.cells
theorem recCells_length (l : List Rec) : (recCells l).length = l.length * 5 := by
  induction l with
  | nil => rfl
  | cons r l ih => simp only [recCells, List.flatMap_cons, List.length_append, List.length_cons] at *; rw [ih]; simp only [Rec.cells, List.length_cons, List.length_nil]; omega
theorem recCells_snoc (l : List Rec) (r : Rec) : recCells (l ++ [r]) = recCells l ++ [.int .i64 r.off, .string r.prod, .int .i64 r.seq, .string r.key, .string r.val] := by simp [recCells, Rec.cells]
theorem recCells_get (l : List Rec) (i j : Nat) (hi : i < l.length) (hj : j < 5) : (recCells l)[i * 5 + j]? = (l[i].cells)[j]? := by
  induction l generalizing i with
  | nil => simp at hi
  | cons x l ih =>
    have e : recCells (x :: l) = x.cells ++ recCells l := by simp [recCells]
    have h3 : x.cells.length = 5 := rfl
    rw [e]
    cases i with
    | zero => rw [List.getElem?_append_left (by omega)]; simp
    | succ i =>
      rw [List.getElem?_append_right (by omega), h3]
      have := ih i (by simpa using hi)
      rw [show (i + 1) * 5 + j - 5 = i * 5 + j by omega, this]
      simp
/-- A list of records that is there from an address on. -/
def RecsAt (w : World) (v : Value) (l : List Rec) : Prop := ∃ ao cap, v = .slice ao l.length cap ∧ (cap : Int) ≤ 9223372036854775807 ∧ ∀ i (h : i < l.length), ∃ b off, ao = some ⟨b, off, none⟩ ∧ b < w.heap.size ∧ ∀ j, j < 5 → w.cell? ⟨b, off + i * 5 + j, none⟩ = l[i].cells[j]?
theorem recs_of_own {w : World} {B : Nat} {v : Value} {l : List Rec} (h : w.ownsRow B 63 5 v l.length (recCells l)) : RecsAt w v l := by
  rcases h.2 with ⟨h1, h2⟩ | ⟨g, cap, cur, hv, hg, hh, hn, hc, hs, ht⟩
  · exact ⟨none, 0, by rw [h1, h2], by omega, fun i hi => by omega⟩
  · refine ⟨some ⟨g, 0, none⟩, cap, hv, ?_, fun i hi => ⟨g, 0, rfl, (Array.getElem?_eq_some_iff.1 hh).1, ?_⟩⟩
    · unfold maxLen at hc
      omega
    · intro j hj
      rw [Lib.cell_of_heap hh, ← recCells_get l i j hi hj, ← ht, List.getElem?_take, if_pos (by omega)]
      simp
theorem RecsAt.below {w w' : World} {v : Value} {l : List Rec} (h : RecsAt w v l) (hb : Below w.heap.size w w') : RecsAt w' v l := by
  obtain ⟨ao, cap, hv, hc, ha⟩ := h
  refine ⟨ao, cap, hv, hc, fun i hi => ?_⟩
  obtain ⟨b, off, h1, h2, h3⟩ := ha i hi
  exact ⟨b, off, h1, by have := hb.size; omega, fun j hj => (hb.cell (p := ⟨b, off + i * 5 + j, none⟩) h2).trans (h3 j hj)⟩
theorem RecsAt.five {w : World} {ao : Option Addr} {n cap : Nat} {l : List Rec} (h : RecsAt w (.slice ao n cap) l) (i : Nat) (hi : i < l.length) : n = l.length ∧ ∃ b off, ao = some ⟨b, off, none⟩ ∧ b < w.heap.size ∧ w.cell? ⟨b, off + i * 5, none⟩ = some (.int .i64 l[i].off) ∧ w.cell? ⟨b, off + i * 5 + 1, none⟩ = some (.string l[i].prod) ∧ w.cell? ⟨b, off + i * 5 + 2, none⟩ = some (.int .i64 l[i].seq) ∧ w.cell? ⟨b, off + i * 5 + 3, none⟩ = some (.string l[i].key) ∧ w.cell? ⟨b, off + i * 5 + 4, none⟩ = some (.string l[i].val) := by
  obtain ⟨a, c, hv, _, ha⟩ := h
  injection hv with h1 h2 h3
  subst h1
  obtain ⟨b, off, e, hb, hc⟩ := ha i hi
  exact ⟨h2, b, off, e, hb, hc 0 (by omega), hc 1 (by omega), hc 2 (by omega), hc 3 (by omega), hc 4 (by omega)⟩

theorem keyedS : Keyed Try.prog 9 := string_keyed Try.underlying9
theorem zeroInt (w : World) : (zeroValue 3).run Try.prog w = .ok (.int .i64 0) w := by kernel_rfl
/-- The map of last places, of the first n of a list. -/
def Lasts (l : List Rec) (n : Nat) (D : DataW Nat) : Prop := IsMap D ∧ ∀ k, D.atKey (.string k) (.lit (.int .i64 0)) = .lit (.int .i64 (lastIx l k n))
theorem keyLit (k : List UInt8) : WideAt.IsKeyLit (.string k) := by simp [WideAt.IsKeyLit]
theorem Lasts.zero (l : List Rec) : Lasts l 0 (.map []) := ⟨by simp [IsMap], fun k => rfl⟩
theorem Lasts.step {l : List Rec} {n : Nat} {D : DataW Nat} (h : Lasts l n D) (hn : n < l.length) : Lasts l (n + 1) (D.put (.string l[n].key.data.toList) (.lit (.int .i64 n))) := by
  refine ⟨h.1.put _ _, fun k => ?_⟩
  rw [lastIx, List.getElem?_eq_getElem hn]
  by_cases e : l[n].kl = k
  · subst e
    rw [if_pos (by simp)]
    exact atKey_put_same h.1 (keyLit _) _ _
  · rw [if_neg (by simpa using e), atKey_put_other (fun x => e (by injection x with x; exact x.symm))]
    exact h.2 k
set_option maxHeartbeats 2000000 in
theorem lastPlaces_any (l : List Rec) (v : Value) (w : World) (hat : RecsAt w v l) (hok : ∀ r ∈ l, r.ok) (hl : l.length ≤ 1048576) :
    Calls Try.prog 57 #[v] w fun e w' => ∃ mb n D, e = .returned (.map (some mb)) ∧ w.heap.size ≤ mb ∧ w'.ownsMap Try.prog 9 (plainElem Try.prog 3) mb n D ∧ Lasts l l.length D ∧ Below w.heap.size w w' := by
  obtain ⟨ao, ac, rfl, _, _⟩ := id hat
  have HA := hide hat
  have HOK := hide hok
  clear hat hok
  have hmm := @run_makeMap Try.prog
  go_enter Try.func57, Try.ntmps57
  go_wp2
  go_loopw [9] (fun iv wv => ∃ (k : Nat) (D : DataW Nat), k ≤ l.length ∧ iv = .int .i64 k ∧ Hid (wv.ownsMap Try.prog 9 (plainElem Try.prog 3) w.heap.size k D) ∧ Hid (Lasts l k D) ∧ Hid (Below w.heap.size w wv)) (fun iv _ => l.length - (intOf iv).toNat)
  case atStart => exact ⟨0, .map [], Nat.zero_le _, rfl, World.ownsMap_made _ _ _ _, Lasts.zero l, (Below.refl _ _).alloc (Nat.le_refl _) _⟩
  case round =>
    obtain ⟨k, D, hk, rfl, OM, LS, BV⟩ := hrel
    by_cases hlt : k < l.length
    · obtain ⟨_, b, off, rfl, hb, a0, a1, a2, a3, a4⟩ := (HA.out.below BV.out).five k hlt
      have hok := HOK.out _ (List.getElem_mem hlt)
      have HS := hide (LS.out.step hlt)
      have hi0 : (0 : Int) ≤ (k : Int) := by omega
      have hi1 : (k : Int) < (l.length : Int) := by omega
      generalize l[k] = x at *
      obtain ⟨xo, xp, xs, xk, xv⟩ := x
      simp only at a0 a1 a2 a3 a4
      have HK := hide (Go.WideMaps.keyOf_string_mk Try.underlying9 (s := xk) (by obtain ⟨_, _, _, _, _, h, _⟩ := hok; simp only at h; unfold maxLen; omega))
      have HV := hide (plainElem_int (H := Nat) (P := Try.prog) (e := 3) (q := .i64) Try.underlying3 (a := (k : Int)) (by simp [Lit.wf, IntKind.min, IntKind.max, IntKind.bits, IntKind.signed]; omega))
      have OM2 := hide (OM.out.alloc (.cells #[.int .i64 xo, .string xp, .int .i64 xs, .string xk, .string xv] 63))
      have BV2 := hide (BV.out.alloc BV.out.size (.cells #[.int .i64 xo, .string xp, .int .i64 xs, .string xk, .string xv] 63))
      go_wp2_with (at_mapUpdate; refine wpList_mapUpdate_own _ rfl _ _ _ 103 rfl 9 3 keyedS Try.underlying103 _ w.heap.size k D rfl OM2.out (by unfold maxLen; omega) _ _ _ rfl rfl HK.out _ [] HV.out ?_; intro w1 h1 h2)
      refine ⟨⟨k + 1, _, by omega, by go_num, h1, HS.out, ?_⟩, by simp [intOf]; omega⟩
      exact BV2.out.grown h2 BV2.out.size (fun j hj => by injection hj with hj; omega)
    · have hi1 : ¬ (k : Int) < (l.length : Int) := by omega
      have e : k = l.length := by omega
      have LS2 := hide (e ▸ LS.out)
      clear e
      go_wp2
      go_ret
      exact ⟨_, rfl, Nat.le_refl _, _, D, OM.out, LS2.out, BV.out⟩
end Go.Proofs.Ytominplelmbecaa.Y
