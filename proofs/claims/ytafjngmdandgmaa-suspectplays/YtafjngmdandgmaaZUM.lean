/-
  Members in memory (as wip/view/VM, without views).
-/
import Derived.Test.YtafjngmdandgmaaZV2
import Derived.Test.YtafjngmdandgmaaZAF
namespace Go.Proofs.Ytafjngmdandgmaa
open Go.RowKit

attribute [local go_sem ↓] Go.wp_at_zero Go.wp_at_succ
set_option linter.unusedSimpArgs false
set_option linter.unusedVariables false

abbrev tMember : TypeId := 23
/-- Members wherever they lie. -/
def MemsAt (w : World) (ao : Option Addr) (L : List MB) : Prop := ∀ i (hi : i < L.length), ∃ b off, ao = some ⟨b, off, none⟩ ∧ b < w.heap.size ∧ w.cell? ⟨b, off + i * 2, none⟩ = some (.int .i64 L[i].node) ∧ w.cell? ⟨b, off + i * 2 + 1, none⟩ = some (.int .i64 L[i].life)
theorem MemsAt.below {w w1 : World} {ao : Option Addr} {L : List MB} (h : MemsAt w ao L) (hb : Below w.heap.size w w1) : MemsAt w1 ao L := fun i hi => by
  obtain ⟨b, off, h1, h2, h3, h4⟩ := h i hi
  exact ⟨b, off, h1, Nat.lt_of_lt_of_le h2 hb.size, (hb.cell (p := ⟨b, _, none⟩) h2).trans h3, (hb.cell (p := ⟨b, _, none⟩) h2).trans h4⟩
def IntsAt (w : World) (ao : Option Addr) (L : List Int) : Prop := ∀ i (hi : i < L.length), ∃ b off, ao = some ⟨b, off, none⟩ ∧ b < w.heap.size ∧ w.cell? ⟨b, off + i, none⟩ = some (.int .i64 L[i])
theorem IntsAt.below {w w1 : World} {ao : Option Addr} {L : List Int} (h : IntsAt w ao L) (hb : Below w.heap.size w w1) : IntsAt w1 ao L := fun i hi => by
  obtain ⟨b, off, h1, h2, h3⟩ := h i hi
  exact ⟨b, off, h1, Nat.lt_of_lt_of_le h2 hb.size, (hb.cell (p := ⟨b, _, none⟩) h2).trans h3⟩
def MB.v (m : MB) : Value := .agg #[.int .i64 m.node, .int .i64 m.life]
def MB.cells (m : MB) : List Value := [.int .i64 m.node, .int .i64 m.life]
def mbCells (L : List MB) : List Value := L.flatMap MB.cells
theorem mbCells_length (L : List MB) : (mbCells L).length = L.length * 2 := by
  induction L with
  | nil => rfl
  | cons a L ih => simp only [mbCells, List.flatMap_cons, List.length_append] at *; rw [ih]; simp [MB.cells]; omega
theorem mbCells_append (a b : List MB) : mbCells (a ++ b) = mbCells a ++ mbCells b := by simp [mbCells]
theorem mbCells_get (L : List MB) (i j : Nat) (hi : i < L.length) (hj : j < 2) : (mbCells L)[i * 2 + j]? = (L[i].cells)[j]? := by
  induction L generalizing i with
  | nil => cases hi
  | cons a L ih =>
    have e : mbCells (a :: L) = a.cells ++ mbCells L := rfl
    rw [e]
    cases i with
    | zero => rw [List.getElem?_append_left (by simp [MB.cells]; omega)]; simp
    | succ i =>
      rw [List.getElem?_append_right (by simp [MB.cells]; omega)]
      have := ih i (by simpa using hi)
      simp only [List.getElem_cons_succ]
      rw [← this]
      congr 1
      simp [MB.cells]
      omega
/-- Members in a row of one's own. -/
theorem mems_of_row {w : World} {B : Nat} {ao : Option Addr} {n cp : Nat} {L : List MB} (h : w.ownsRow B tMember 2 (.slice ao n cp) n (mbCells L)) (hn : L.length = n) : MemsAt w ao L := by
  subst hn
  intro i hi
  rcases h.2 with ⟨_, h2⟩ | ⟨g, cap, cur, hv, hg, hh, _⟩
  · omega
  · injection hv with h1 _ h3
    subst h1
    have hc := h.cells (g := g) rfl
    refine ⟨g, 0, rfl, heap_lt hh, ?_, ?_⟩
    · have := hc (i * 2) (.int .i64 L[i].node) (by rw [show i * 2 = i * 2 + 0 by omega, mbCells_get L i 0 hi (by omega)]; rfl)
      rw [Addr.add_lit] at this
      simpa using this
    · have := hc (i * 2 + 1) (.int .i64 L[i].life) (by rw [mbCells_get L i 1 hi (by omega)]; rfl)
      rw [Addr.add_lit] at this
      simpa using this
end Go.Proofs.Ytafjngmdandgmaa
