/-
  DERIVED. GIVEN WITH THE SEED: THE CARDS: each row of YtlalfehnkhenjabDoorRows.lean that lists a variable, with what it lists TIED to the program's text (the seventh form; the later family's looks); each row that meets fmt, with fmt's text TOLD by the authors' own Lean function (tested against real Go, not proved from fmt's source: count such statements apart). THE CARD IS WHAT COUNTS. Prove the row's statement (the work); the ties are given (YtlalfehnkhenjabDoorTie.lean); close each card by the builder's one call (the guide's Derived/Test/ToyasCard.lean, 'card_holds'). Laid BY PROGRAM, IN A SANDBOX (cutbox-door.mjs). By AI agents, Wed Nov 11 2026. No macro, syntax, notation, axiom, sorry.
-/
import Derived.Test.YtlalfehnkhenjabDoorRows
import GoSem.ClaimSeven
namespace Go.Proofs.YtlalfehnkhenjabDoor
namespace Rows

/-- THE TIED CARD OF 'carillonlaw02.CrcBit'. -/
def crcBitCard : Claim7 := { stood := { row := crcBitRow, standIns := [], harness := (true, "68b7c017f940042b9cf37189585584d69e183326aea9e0ac1e3623201df4692a"), looks := false }, kinds := [], alts := [], laidByText := true, laidKinds := [.data], laidTests := true, laidLooks := .later }
def CrcBitCardSaid : Prop := Claim7.holds Tryd.pinned (.plain (OpenSpec.ofChange crcBitSpec)) crcBitCard

/-- THE TIED CARD OF 'carillonlaw02.CrcBurst'. -/
def crcBurstCard : Claim7 := { stood := { row := crcBurstRow, standIns := [], harness := (true, "68b7c017f940042b9cf37189585584d69e183326aea9e0ac1e3623201df4692a"), looks := false }, kinds := [], alts := [], laidByText := true, laidKinds := [.data], laidTests := true, laidLooks := .later }
def CrcBurstCardSaid : Prop := Claim7.holds Tryd.pinned (.plain (OpenSpec.ofChange crcBurstSpec)) crcBurstCard

/-- THE TIED CARD OF 'carillonlaw02.CrcOnly'. -/
def crcOnlyCard : Claim7 := { stood := { row := crcOnlyRow, standIns := [], harness := (true, "68b7c017f940042b9cf37189585584d69e183326aea9e0ac1e3623201df4692a"), looks := false }, kinds := [], alts := [], laidByText := true, laidKinds := [.data], laidTests := true, laidLooks := .later }
def CrcOnlyCardSaid : Prop := Claim7.holds Tryd.pinned (.plain (OpenSpec.ofChange crcOnlySpec)) crcOnlyCard

/-- THE SECOND FORM's CARD OF 'carillonlaw02.CrcBit'. -/
def crcBitUptoCard : Claim7 := { stood := { row := crcBitUptoRow, standIns := [], harness := (true, "68b7c017f940042b9cf37189585584d69e183326aea9e0ac1e3623201df4692a"), looks := false }, kinds := [], alts := [], laidByText := true, laidKinds := [.data], laidTests := true, laidLooks := .later }
def CrcBitUptoCardSaid : Prop := Claim7.holds Tryd.pinned (.plain (OpenSpec.upto crcBitSpec)) crcBitUptoCard

/-- THE SECOND FORM's CARD OF 'carillonlaw02.CrcBurst'. -/
def crcBurstUptoCard : Claim7 := { stood := { row := crcBurstUptoRow, standIns := [], harness := (true, "68b7c017f940042b9cf37189585584d69e183326aea9e0ac1e3623201df4692a"), looks := false }, kinds := [], alts := [], laidByText := true, laidKinds := [.data], laidTests := true, laidLooks := .later }
def CrcBurstUptoCardSaid : Prop := Claim7.holds Tryd.pinned (.plain (OpenSpec.upto crcBurstSpec)) crcBurstUptoCard

/-- THE SECOND FORM's CARD OF 'carillonlaw02.CrcOnly'. -/
def crcOnlyUptoCard : Claim7 := { stood := { row := crcOnlyUptoRow, standIns := [], harness := (true, "68b7c017f940042b9cf37189585584d69e183326aea9e0ac1e3623201df4692a"), looks := false }, kinds := [], alts := [], laidByText := true, laidKinds := [.data], laidTests := true, laidLooks := .later }
def CrcOnlyUptoCardSaid : Prop := Claim7.holds Tryd.pinned (.plain (OpenSpec.upto crcOnlySpec)) crcOnlyUptoCard
end Rows
end Go.Proofs.YtlalfehnkhenjabDoor
