/-
  DERIVED. GIVEN WITH THE SEED: THE CARDS: each row of YthfflefnapbkiaaDoorRows.lean that lists a variable, with what it lists TIED to the program's text (the seventh form; the later family's looks); each row that meets fmt, with fmt's text TOLD by the authors' own Lean function (tested against real Go, not proved from fmt's source: count such statements apart). THE CARD IS WHAT COUNTS. Prove the row's statement (the work); the ties are given (YthfflefnapbkiaaDoorTie.lean); close each card by the builder's one call (the guide's Derived/Test/ToyasCard.lean, 'card_holds'). Laid BY PROGRAM, IN A SANDBOX (cutbox-door.mjs). By AI agents, Wed Nov 11 2026. No macro, syntax, notation, axiom, sorry.
-/
import Derived.Test.YthfflefnapbkiaaDoorRows
import GoSem.ClaimSeven
namespace Go.Proofs.YthfflefnapbkiaaDoor
namespace Rows

/-- THE TIED CARD OF 'carillonlaw14.CommandBytes'. -/
def commandBytesCard : Claim7 := { stood := { row := commandBytesRow, standIns := [], harness := (true, "84231a46282a164c585ec5a4122a698372edc4ec78d15440113a94f435657251"), looks := false }, kinds := [], alts := [], laidByText := true, laidKinds := [.data], laidTests := true, laidLooks := .later }
def CommandBytesCardSaid : Prop := Claim7.holds Tryd.pinned (.plain (OpenSpec.ofChange commandBytesSpec)) commandBytesCard

/-- THE TIED CARD OF 'carillonlaw14.CommandBack'. -/
def commandBackCard : Claim7 := { stood := { row := commandBackRow, standIns := [], harness := (true, "84231a46282a164c585ec5a4122a698372edc4ec78d15440113a94f435657251"), looks := false }, kinds := [], alts := [], laidByText := true, laidKinds := [.data], laidTests := true, laidLooks := .later }
def CommandBackCardSaid : Prop := Claim7.holds Tryd.pinned (.plain (OpenSpec.ofChange commandBackSpec)) commandBackCard

/-- THE TIED CARD OF 'carillonlaw14.CommandReply'. -/
def commandReplyCard : Claim7 := { stood := { row := commandReplyRow, standIns := [], harness := (true, "84231a46282a164c585ec5a4122a698372edc4ec78d15440113a94f435657251"), looks := false }, kinds := [], alts := [], laidByText := true, laidKinds := [.data], laidTests := true, laidLooks := .later }
def CommandReplyCardSaid : Prop := Claim7.holds Tryd.pinned (.plain (OpenSpec.ofChange commandReplySpec)) commandReplyCard

/-- THE TIED CARD OF 'carillonlaw14.CommandTorn'. -/
def commandTornCard : Claim7 := { stood := { row := commandTornRow, standIns := [], harness := (true, "84231a46282a164c585ec5a4122a698372edc4ec78d15440113a94f435657251"), looks := false }, kinds := [], alts := [], laidByText := true, laidKinds := [.data], laidTests := true, laidLooks := .later }
def CommandTornCardSaid : Prop := Claim7.holds Tryd.pinned (.plain (OpenSpec.ofChange commandTornSpec)) commandTornCard

/-- THE SECOND FORM's CARD OF 'carillonlaw14.CommandBytes'. -/
def commandBytesUptoCard : Claim7 := { stood := { row := commandBytesUptoRow, standIns := [], harness := (true, "84231a46282a164c585ec5a4122a698372edc4ec78d15440113a94f435657251"), looks := false }, kinds := [], alts := [], laidByText := true, laidKinds := [.data], laidTests := true, laidLooks := .later }
def CommandBytesUptoCardSaid : Prop := Claim7.holds Tryd.pinned (.plain (OpenSpec.upto commandBytesSpec)) commandBytesUptoCard

/-- THE SECOND FORM's CARD OF 'carillonlaw14.CommandBack'. -/
def commandBackUptoCard : Claim7 := { stood := { row := commandBackUptoRow, standIns := [], harness := (true, "84231a46282a164c585ec5a4122a698372edc4ec78d15440113a94f435657251"), looks := false }, kinds := [], alts := [], laidByText := true, laidKinds := [.data], laidTests := true, laidLooks := .later }
def CommandBackUptoCardSaid : Prop := Claim7.holds Tryd.pinned (.plain (OpenSpec.upto commandBackSpec)) commandBackUptoCard

/-- THE SECOND FORM's CARD OF 'carillonlaw14.CommandReply'. -/
def commandReplyUptoCard : Claim7 := { stood := { row := commandReplyUptoRow, standIns := [], harness := (true, "84231a46282a164c585ec5a4122a698372edc4ec78d15440113a94f435657251"), looks := false }, kinds := [], alts := [], laidByText := true, laidKinds := [.data], laidTests := true, laidLooks := .later }
def CommandReplyUptoCardSaid : Prop := Claim7.holds Tryd.pinned (.plain (OpenSpec.upto commandReplySpec)) commandReplyUptoCard

/-- THE SECOND FORM's CARD OF 'carillonlaw14.CommandTorn'. -/
def commandTornUptoCard : Claim7 := { stood := { row := commandTornUptoRow, standIns := [], harness := (true, "84231a46282a164c585ec5a4122a698372edc4ec78d15440113a94f435657251"), looks := false }, kinds := [], alts := [], laidByText := true, laidKinds := [.data], laidTests := true, laidLooks := .later }
def CommandTornUptoCardSaid : Prop := Claim7.holds Tryd.pinned (.plain (OpenSpec.upto commandTornSpec)) commandTornUptoCard
end Rows
end Go.Proofs.YthfflefnapbkiaaDoor
