/-
  The program's suspect keeps to what it is held to (mkua.py).
-/
import Derived.Test.YtafjngmdandgmaaZUA5
import Derived.Test.YtafjngmdandgmaaZUA7
import Derived.Test.YtafjngmdandgmaaZUA8
namespace Go.Proofs.Ytafjngmdandgmaa
open Go.RowKit

attribute [local go_sem ↓] Go.wp_at_zero Go.wp_at_succ
set_option linter.unusedSimpArgs false
set_option linter.unusedVariables false
/-- The program's suspect keeps to what it is held to. -/
def psus : Sus where
  lies w ad O S := ∃ b c, ad = ⟨b, 0, none⟩ ∧ O = pOwn b c ∧ PAt w b c S
  lt := by
    rintro w ad O S ⟨b, c, rfl, rfl, h⟩
    exact h.lt
  keep := by
    rintro w w' ad O S ⟨b, c, rfl, rfl, h⟩ hk _
    exact ⟨b, c, rfl, rfl, h.keep hk⟩
  new := by
    intro m w hm
    refine (pnew m w).mono ?_
    rintro e w' ⟨h1, _, h3⟩
    obtain ⟨b, c, rfl, h4, h5⟩ := h1 hm
    exact ⟨_, rfl, ⟨_, ⟨b, c, rfl, rfl, h4⟩, h5⟩, h3⟩
  newNo := by
    intro m w hm
    refine (pnew m w).mono ?_
    rintro e w' ⟨_, h2, h3⟩
    exact ⟨h2 hm, h3⟩
  heard := by
    rintro w ad O S m ⟨b, c, rfl, rfl, h⟩
    refine (pheard h m).mono ?_
    rintro e w' ⟨rfl, h1, h2⟩
    exact ⟨rfl, ⟨_, ⟨b, c, rfl, rfl, h1⟩, fun k hk => .inl hk⟩, h2⟩
  tick := by
    rintro w ad O S ⟨b, c, rfl, rfl, h⟩ hn
    refine (ptick h hn).mono ?_
    rintro e w' ⟨h0, h1, h2⟩
    exact ⟨h0, ⟨_, ⟨b, c, rfl, rfl, h1⟩, fun k hk => .inl hk⟩, h2⟩
  is := by
    rintro w ad O S m ⟨b, c, rfl, rfl, h⟩
    exact pis h m
  alive := by
    rintro w ad O S ⟨b, c, rfl, rfl, h⟩
    exact palive h
end Go.Proofs.Ytafjngmdandgmaa
