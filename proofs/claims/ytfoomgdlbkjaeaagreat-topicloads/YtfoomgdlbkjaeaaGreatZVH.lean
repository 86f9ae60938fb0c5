/-
  carillonref15's of: what there is while it goes on.
-/
import Derived.Test.YtfoomgdlbkjaeaaGreatZVG
import Derived.Test.YtfoomgdlbkjaeaaGreatZVE
import Derived.Test.YtfoomgdlbkjaeaaGreatZXC
namespace Go.Proofs.YtfoomgdlbkjaeaaGreat.Y
open Go.RowKit
set_option linter.unusedSimpArgs false
set_option linter.unusedVariables false
open Go.Maps
abbrev tXT : TypeId := 44
abbrev tXP : TypeId := 64
abbrev tXR : TypeId := 39
def prPR (p : PU) : PR := ⟨p.name, p.seq, p.off⟩
def lastN (l : List PU) : Option ByteArray := l.getLast?.map (·.name)
def lastO (l : List Rec) : Option Int := l.getLast?.map (·.off)
theorem lastN_snoc (l : List PU) (p : PU) : lastN (l ++ [p]) = some p.name := by simp [lastN]
theorem lastO_snoc (l : List Rec) (p : Rec) : lastO (l ++ [p]) = some p.off := by simp [lastO]
theorem row_not {w : World} {B z n k : Nat} {E T : TypeId} {v : Value} {xs : List Value} {cs : Array Value} (h : w.ownsRow B E z v n xs) (hk : w.heap[k]? = some (.cells cs T (0, 0))) (hne : E ≠ T) : v.ownBlock = none ∨ v.ownBlock ≠ some k := by
  rcases h.2 with ⟨rfl, _⟩ | ⟨g, cap, cur, rfl, _, hgb, _⟩
  · exact .inl rfl
  · refine .inr fun e' => ?_
    obtain rfl : g = k := by simpa [Value.ownBlock] using e'
    rw [hk] at hgb
    injection hgb with hgb
    injection hgb with _ hgb _
    exact hne hgb.symm
theorem row_two {w : World} {B B2 z z2 n n2 : Nat} {E T : TypeId} {v v2 : Value} {xs xs2 : List Value} (h : w.ownsRow B E z v n xs) (h2 : w.ownsRow B2 T z2 v2 n2 xs2) (hne : E ≠ T) : v.ownBlock = none ∨ v.ownBlock ≠ v2.ownBlock := by
  rcases h2.2 with ⟨rfl, _⟩ | ⟨g, cap, cur, rfl, _, hgb, _⟩
  · rcases h.2 with ⟨rfl, _⟩ | ⟨g, cap, cur, rfl, _, _, _⟩
    · exact .inl rfl
    · exact .inr fun e => by cases e
  · exact row_not h hgb hne
theorem grown_set (w : World) (b k : Nat) (x : Value) : w.grownBy (w.setCell ⟨b, k, none⟩ x) (some b) :=
  ⟨rfl, rfl, rfl, (KeepsWalks.setCell w _ x).size, fun j _ hk => Below.heap_setCell _ _ _ j (fun e => hk (by rw [e]))⟩
structure OfI (w W : World) (tb : Nat) (nm : ByteArray) (lo fi : Int) (ps : List PR) (rs : List Rec) (po : Option Addr) (pc : Nat) (ro : Option Addr) (rc : Nat) : Prop where
  box : W.heap[tb]? = some (.cells #[.string nm, .int .i64 lo, .int .i64 fi, .slice po ps.length pc, .slice ro rs.length rc] tXT (0, 0))
  prow : W.ownsRow w.heap.size tXP 3 (.slice po ps.length pc) ps.length (prsCells ps)
  rrow : W.ownsRow w.heap.size tXR 5 (.slice ro rs.length rc) rs.length (recCells rs)
  below : Below w.heap.size w W
  high : w.heap.size ≤ tb
section
variable {w W W' : World} {tb pc rc : Nat} {nm : ByteArray} {lo fi : Int} {ps : List PR} {rs : List Rec} {po ro : Option Addr}
theorem OfI.step (h : OfI w W tb nm lo fi ps rs po pc ro rc) (hb : Below W.heap.size W W') : OfI w W' tb nm lo fi ps rs po pc ro rc :=
  ⟨(hb.block _ (heap_lt h.box)).trans h.box, own_below h.prow hb, own_below h.rrow hb, h.below.trans (hb.mono h.below.size), h.high⟩
theorem OfI.xat (h : OfI w W tb nm lo fi ps rs po pc ro rc) : XAt W ⟨tb, po, pc, ro, rc⟩ ⟨nm, lo, fi, ps, rs⟩ := ⟨h.box, OwnsQ.of_row h.prow, OwnsQ.of_row h.rrow⟩
theorem OfI.own (h : OfI w W tb nm lo fi ps rs po pc ro rc) : ∀ j, XL.own ⟨tb, po, pc, ro, rc⟩ j → w.heap.size ≤ j := by
  rintro j (rfl | hj | hj)
  · exact h.high
  · exact (h.prow.lt j ((own_block _ _ _ _).trans hj)).1
  · exact (h.rrow.lt j ((own_block _ _ _ _).trans hj)).1
theorem OfI.pr (h : OfI w W tb nm lo fi ps rs po pc ro rc) (p : PR) (hl : ps.length + 1 ≤ 1000000) :
    ∃ ta tc w5, (Builtin.append_ #[42, 42] 42 #[.slice po ps.length pc, .slice (some ⟨W.heap.size, 0, none⟩) 1 1]).run Tryz.prog (W.drew.alloc (.cells #[.string p.name, .int .i64 p.sq, .int .i64 p.off] tXP)) = .ok (.slice ta (ps.length + 1) tc) w5 ∧ (∃ v, w5.cell? ⟨tb, 3, none⟩ = some v) ∧ w5.frozen? ⟨tb, 3, none⟩ = false ∧ OfI w (w5.setCell ⟨tb, 3, none⟩ (.slice ta (ps.length + 1) tc)) tb nm lo fi (ps ++ [p]) rs ta tc ro rc := by
  have bu : Below W.heap.size W (W.drew.alloc (.cells #[.string p.name, .int .i64 p.sq, .int .i64 p.off] tXP)) := (Below.refl _ _).drew.alloc (Nat.le_refl _) _
  have h1 := h.step bu
  have hs1 := h1.below.size
  obtain ⟨ta, tc, w5, hrun, hrow, hg⟩ := app_pr h1.prow (q_lit (w := W.drew) (e := tXP) (cs := #[.string p.name, .int .i64 p.sq, .int .i64 p.off]) rfl) (by intro u hu; simp at hu; rcases hu with rfl | rfl | rfl <;> rfl) hl hs1
  have hb5 : w5.heap[tb]? = some (.cells #[.string nm, .int .i64 lo, .int .i64 fi, .slice po ps.length pc, .slice ro rs.length rc] tXT (0, 0)) := (hg.block tb (heap_lt h1.box) (fun e => by
    rcases row_not h1.prow h1.box (by decide +kernel) with e2 | e2
    · rw [e2] at e; cases e
    · exact e2 e.symm)).trans h1.box
  have hr5 : w5.ownsRow w.heap.size tXR 5 (.slice ro rs.length rc) rs.length (recCells rs) := h1.rrow.kept hg (row_two h1.rrow h1.prow (by decide +kernel))
  have hw5 : Below w.heap.size w w5 := h1.below.trans (grown_below hg (fun k hk => (h1.prow.lt k hk).1) hs1)
  have e1 : prsCells ps ++ (#[Value.string p.name, .int .i64 p.sq, .int .i64 p.off] : Array Value).toList = prsCells (ps ++ [p]) := by rw [prsCells_append]; simp [prsCells, PR.cells]
  rw [e1] at hrow
  have hp6 := hrow.kept (grown_set w5 tb 3 (.slice ta (ps.length + 1) tc)) (row_not hrow hb5 (by decide +kernel))
  refine ⟨ta, tc, w5, hrun, ⟨_, box_cell hb5 3 rfl⟩, box_free hb5 3, ?_, ?_, ?_, ?_, h.high⟩
  · rw [List.length_append]
    exact xset hb5
  · rw [List.length_append]
    exact hp6
  · exact hr5.kept (grown_set w5 tb 3 _) (row_not hr5 hb5 (by decide +kernel))
  · exact hw5.setCell (p := ⟨tb, 3, none⟩) h.high _
theorem OfI.rd (h : OfI w W tb nm lo fi ps rs po pc ro rc) (p : Rec) (hl : rs.length + 1 ≤ 1000000) :
    ∃ ta tc w5, (Builtin.append_ #[35, 35] 35 #[.slice ro rs.length rc, .slice (some ⟨W.heap.size, 0, none⟩) 1 1]).run Tryz.prog (W.drew.alloc (.cells #[.int .i64 p.off, .string p.prod, .int .i64 p.seq, .string p.key, .string p.val] tXR)) = .ok (.slice ta (rs.length + 1) tc) w5 ∧ (∃ v, w5.cell? ⟨tb, 4, none⟩ = some v) ∧ w5.frozen? ⟨tb, 4, none⟩ = false ∧ OfI w (w5.setCell ⟨tb, 4, none⟩ (.slice ta (rs.length + 1) tc)) tb nm lo fi ps (rs ++ [p]) po pc ta tc := by
  have bu : Below W.heap.size W (W.drew.alloc (.cells #[.int .i64 p.off, .string p.prod, .int .i64 p.seq, .string p.key, .string p.val] tXR)) := (Below.refl _ _).drew.alloc (Nat.le_refl _) _
  have h1 := h.step bu
  have hs1 := h1.below.size
  obtain ⟨ta, tc, w5, hrun, hrow, hg⟩ := app_rec h1.rrow (q_lit (w := W.drew) (e := tXR) (cs := #[.int .i64 p.off, .string p.prod, .int .i64 p.seq, .string p.key, .string p.val]) rfl) (by intro u hu; simp at hu; rcases hu with rfl | rfl | rfl | rfl | rfl <;> rfl) hl hs1
  have hb5 : w5.heap[tb]? = some (.cells #[.string nm, .int .i64 lo, .int .i64 fi, .slice po ps.length pc, .slice ro rs.length rc] tXT (0, 0)) := (hg.block tb (heap_lt h1.box) (fun e => by
    rcases row_not h1.rrow h1.box (by decide +kernel) with e2 | e2
    · rw [e2] at e; cases e
    · exact e2 e.symm)).trans h1.box
  have hr5 : w5.ownsRow w.heap.size tXP 3 (.slice po ps.length pc) ps.length (prsCells ps) := h1.prow.kept hg (row_two h1.prow h1.rrow (by decide +kernel))
  have hw5 : Below w.heap.size w w5 := h1.below.trans (grown_below hg (fun k hk => (h1.rrow.lt k hk).1) hs1)
  have e1 : recCells rs ++ (#[Value.int .i64 p.off, .string p.prod, .int .i64 p.seq, .string p.key, .string p.val] : Array Value).toList = recCells (rs ++ [p]) := by rw [recCells_join]; simp [recCells, Rec.cells]
  rw [e1] at hrow
  have hp6 := hrow.kept (grown_set w5 tb 4 (.slice ta (rs.length + 1) tc)) (row_not hrow hb5 (by decide +kernel))
  refine ⟨ta, tc, w5, hrun, ⟨_, box_cell hb5 4 rfl⟩, box_free hb5 4, ?_, ?_, ?_, ?_, h.high⟩
  · rw [List.length_append]
    exact xset hb5
  · exact hr5.kept (grown_set w5 tb 4 _) (row_not hr5 hb5 (by decide +kernel))
  · rw [List.length_append]
    exact hp6
  · exact hw5.setCell (p := ⟨tb, 4, none⟩) h.high _
end
end Go.Proofs.YtfoomgdlbkjaeaaGreat.Y
