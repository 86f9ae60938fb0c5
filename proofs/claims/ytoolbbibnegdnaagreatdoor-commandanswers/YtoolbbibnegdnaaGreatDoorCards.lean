/-
  DERIVED. GIVEN WITH THE SEED: THE CARDS: each row of YtoolbbibnegdnaaGreatDoorRows.lean that lists a variable, with what it lists TIED to the program's text (the seventh form; the later family's looks); each row that meets fmt, with fmt's text TOLD by the authors' own Lean function (tested against real Go, not proved from fmt's source: count such statements apart). THE CARD IS WHAT COUNTS. Prove the row's statement (the work); the ties are given (YtoolbbibnegdnaaGreatDoorTie.lean); close each card by the builder's one call (the guide's Derived/Test/ToyasCard.lean, 'card_holds'). Laid BY PROGRAM, IN A SANDBOX (cutbox-door.mjs). By AI agents, Wed Nov 11 2026. No macro, syntax, notation, axiom, sorry.
-/
import Derived.Test.YtoolbbibnegdnaaGreatDoorRows
import GoSem.ClaimSeven
namespace Go.Proofs.YtoolbbibnegdnaaGreatDoor
namespace Rows

/-- THE TIED CARD OF 'carillonlaw14.CommandAsks'. -/
def commandAsksCard : Claim7 := { stood := { row := commandAsksRow, standIns := [], harness := (true, "b8a0ac5fdd3cf094638345a4371c45109cb50d481184647b3a64da60cdcefc88"), looks := false }, kinds := [], alts := [], laidByText := true, laidKinds := [.data], laidTests := true, laidLooks := .later }
def CommandAsksCardSaid : Prop := Claim7.holds Tryz.pinned (.plain (OpenSpec.ofChange commandAsksSpec)) commandAsksCard

/-- THE TIED CARD OF 'carillonlaw14.CommandAnswers'. -/
def commandAnswersCard : Claim7 := { stood := { row := commandAnswersRow, standIns := [], harness := (true, "b8a0ac5fdd3cf094638345a4371c45109cb50d481184647b3a64da60cdcefc88"), looks := false }, kinds := [], alts := [], laidByText := true, laidKinds := [.data], laidTests := true, laidLooks := .later }
def CommandAnswersCardSaid : Prop := Claim7.holds Tryz.pinned (.plain (OpenSpec.ofChange commandAnswersSpec)) commandAnswersCard

/-- THE SECOND FORM's CARD OF 'carillonlaw14.CommandAsks'. -/
def commandAsksUptoCard : Claim7 := { stood := { row := commandAsksUptoRow, standIns := [], harness := (true, "b8a0ac5fdd3cf094638345a4371c45109cb50d481184647b3a64da60cdcefc88"), looks := false }, kinds := [], alts := [], laidByText := true, laidKinds := [.data], laidTests := true, laidLooks := .later }
def CommandAsksUptoCardSaid : Prop := Claim7.holds Tryz.pinned (.plain (OpenSpec.upto commandAsksSpec)) commandAsksUptoCard

/-- THE SECOND FORM's CARD OF 'carillonlaw14.CommandAnswers'. -/
def commandAnswersUptoCard : Claim7 := { stood := { row := commandAnswersUptoRow, standIns := [], harness := (true, "b8a0ac5fdd3cf094638345a4371c45109cb50d481184647b3a64da60cdcefc88"), looks := false }, kinds := [], alts := [], laidByText := true, laidKinds := [.data], laidTests := true, laidLooks := .later }
def CommandAnswersUptoCardSaid : Prop := Claim7.holds Tryz.pinned (.plain (OpenSpec.upto commandAnswersSpec)) commandAnswersUptoCard
end Rows
end Go.Proofs.YtoolbbibnegdnaaGreatDoor
