/-
  No cell of these rows narrows 'for every input' (looked for: loops, veiled, ifaces, maps, wideKeys, modest, calm, conditions, laid).
  DERIVED. THE GIVEN ROWS OF THIS SEAT. 6 by the template 'for every input the law returns true; each argument reads behind the call as it read before'; 0 by the template 'total and deterministic' (their statements: YtfcpclpaalekiaaTotals.lean).
  GIVEN WITH THE SEED: the statements are not yours to turn. If you find one false, say at which input.
  Laid BY PROGRAM, IN A SANDBOX (cutbox-rows.mjs): the forced cells as the released guide's own fill.sh prints them over the translation 1a314fa3799357e9… (all of the seat's roots in one cut). By AI agents, Wed Nov 11 2026. No macro, syntax, notation, axiom, sorry.
-/
import Derived.Test.YtfcpclpaalekiaaChecked
import GoSem.Claim
import GoSem.ClaimJoined
import GoSem.ClaimMapViews
import Derived.JoinedTies
import Derived.KernelRfl
namespace Go.Proofs.Ytfcpclpaalekiaa
/- THE CELL 'sum', in the pinned program and in every row, IS THE sha256 OF THE DUMP (.gsa) THAT YtfcpclpaalekiaaProg.lean LOADS. Nothing in Lean hashes anything: it is a label: what it is worth is what the hold of that sum in a sandbox is worth. -/
noncomputable def Try.pinned : Pinned := { name := "ytfcpclpaalekiaa", sum := "1a314fa3799357e9e1a1341ed74197ef3d4b0816792f70b45f1bfc67b9f9c674", checked := Try.checked }
namespace Rows
def none {H : Type} : Left H := { results := [], args := [] }

/-- 'carillonlaw19.FlushLogs': WHATEVER THE INPUT: true; the input reads as it did. -/
def flushLogsSpec : ChangeSpec := { name := "flushLogs", fn := fun _ => fun
  | [d1, d2, d3] => { results := [.lit (.bool true)], args := [d1, d2, d3] }
  | _ => none }
def flushLogsRow : OpenClaim := { program := "ytfcpclpaalekiaa", sum := "1a314fa3799357e9e1a1341ed74197ef3d4b0816792f70b45f1bfc67b9f9c674", func := "carillon/carillonlaw19.FlushLogs", spec := "flushLogs", inPlace := ["internal/abi.NoEscape", "internal/bytealg.MakeNoZero", "internal/bytealg.IndexByteString", "internal/bytealg.IndexString"], unfollowed := true, recurses := true, named := ["internal/bytealg.MaxLen"], apart := false }
def FlushLogsSaid : Prop := flushLogsRow.holds Try.pinned (OpenSpec.ofChange flushLogsSpec)

/-- ITS FALSE NEIGHBOUR: 'it returns false'. Refute it at one input. -/
def flushLogsWrong : ChangeSpec := { name := "flushLogs", fn := fun _ => fun
  | [d1, d2, d3] => { results := [.lit (.bool false)], args := [d1, d2, d3] }
  | _ => none }
def FlushLogsWrongFalsely : Prop := flushLogsRow.holds Try.pinned (OpenSpec.ofChange flushLogsWrong)

/-- 'carillonlaw19.FlushBytes': WHATEVER THE INPUT: true; the input reads as it did. -/
def flushBytesSpec : ChangeSpec := { name := "flushBytes", fn := fun _ => fun
  | [d1, d2, d3, d4] => { results := [.lit (.bool true)], args := [d1, d2, d3, d4] }
  | _ => none }
def flushBytesRow : OpenClaim := { program := "ytfcpclpaalekiaa", sum := "1a314fa3799357e9e1a1341ed74197ef3d4b0816792f70b45f1bfc67b9f9c674", func := "carillon/carillonlaw19.FlushBytes", spec := "flushBytes", inPlace := ["internal/abi.NoEscape", "internal/bytealg.MakeNoZero", "internal/bytealg.IndexByteString", "internal/bytealg.IndexString"], unfollowed := true, recurses := true, named := ["internal/bytealg.MaxLen"], apart := false }
def FlushBytesSaid : Prop := flushBytesRow.holds Try.pinned (OpenSpec.ofChange flushBytesSpec)

/-- ITS FALSE NEIGHBOUR: 'it returns false'. Refute it at one input. -/
def flushBytesWrong : ChangeSpec := { name := "flushBytes", fn := fun _ => fun
  | [d1, d2, d3, d4] => { results := [.lit (.bool false)], args := [d1, d2, d3, d4] }
  | _ => none }
def FlushBytesWrongFalsely : Prop := flushBytesRow.holds Try.pinned (OpenSpec.ofChange flushBytesWrong)

/-- 'carillonlaw19.FlushBack': WHATEVER THE INPUT: true; the input reads as it did. -/
def flushBackSpec : ChangeSpec := { name := "flushBack", fn := fun _ => fun
  | [d1, d2, d3] => { results := [.lit (.bool true)], args := [d1, d2, d3] }
  | _ => none }
def flushBackRow : OpenClaim := { program := "ytfcpclpaalekiaa", sum := "1a314fa3799357e9e1a1341ed74197ef3d4b0816792f70b45f1bfc67b9f9c674", func := "carillon/carillonlaw19.FlushBack", spec := "flushBack", inPlace := ["internal/abi.NoEscape", "internal/bytealg.MakeNoZero", "internal/bytealg.IndexByteString", "internal/bytealg.IndexString"], unfollowed := true, recurses := true, named := ["internal/bytealg.MaxLen"], apart := false }
def FlushBackSaid : Prop := flushBackRow.holds Try.pinned (OpenSpec.ofChange flushBackSpec)

/-- ITS FALSE NEIGHBOUR: 'it returns false'. Refute it at one input. -/
def flushBackWrong : ChangeSpec := { name := "flushBack", fn := fun _ => fun
  | [d1, d2, d3] => { results := [.lit (.bool false)], args := [d1, d2, d3] }
  | _ => none }
def FlushBackWrongFalsely : Prop := flushBackRow.holds Try.pinned (OpenSpec.ofChange flushBackWrong)

/-- 'carillonlaw19.FlushHolds': WHATEVER THE INPUT: true; the input reads as it did. -/
def flushHoldsSpec : ChangeSpec := { name := "flushHolds", fn := fun _ => fun
  | [d1, d2] => { results := [.lit (.bool true)], args := [d1, d2] }
  | _ => none }
def flushHoldsRow : OpenClaim := { program := "ytfcpclpaalekiaa", sum := "1a314fa3799357e9e1a1341ed74197ef3d4b0816792f70b45f1bfc67b9f9c674", func := "carillon/carillonlaw19.FlushHolds", spec := "flushHolds", inPlace := ["internal/abi.NoEscape", "internal/bytealg.MakeNoZero", "internal/bytealg.IndexByteString", "internal/bytealg.IndexString"], unfollowed := true, recurses := true, named := ["internal/bytealg.MaxLen"], apart := false }
def FlushHoldsSaid : Prop := flushHoldsRow.holds Try.pinned (OpenSpec.ofChange flushHoldsSpec)

/-- ITS FALSE NEIGHBOUR: 'it returns false'. Refute it at one input. -/
def flushHoldsWrong : ChangeSpec := { name := "flushHolds", fn := fun _ => fun
  | [d1, d2] => { results := [.lit (.bool false)], args := [d1, d2] }
  | _ => none }
def FlushHoldsWrongFalsely : Prop := flushHoldsRow.holds Try.pinned (OpenSpec.ofChange flushHoldsWrong)

/-- 'carillonlaw19.FlushOwns': WHATEVER THE INPUT: true; the input reads as it did. -/
def flushOwnsSpec : ChangeSpec := { name := "flushOwns", fn := fun _ => fun
  | [d1, d2] => { results := [.lit (.bool true)], args := [d1, d2] }
  | _ => none }
def flushOwnsRow : OpenClaim := { program := "ytfcpclpaalekiaa", sum := "1a314fa3799357e9e1a1341ed74197ef3d4b0816792f70b45f1bfc67b9f9c674", func := "carillon/carillonlaw19.FlushOwns", spec := "flushOwns", inPlace := ["internal/abi.NoEscape", "internal/bytealg.MakeNoZero", "internal/bytealg.IndexByteString", "internal/bytealg.IndexString"], unfollowed := true, recurses := true, named := ["internal/bytealg.MaxLen"], apart := false }
def FlushOwnsSaid : Prop := flushOwnsRow.holds Try.pinned (OpenSpec.ofChange flushOwnsSpec)

/-- ITS FALSE NEIGHBOUR: 'it returns false'. Refute it at one input. -/
def flushOwnsWrong : ChangeSpec := { name := "flushOwns", fn := fun _ => fun
  | [d1, d2] => { results := [.lit (.bool false)], args := [d1, d2] }
  | _ => none }
def FlushOwnsWrongFalsely : Prop := flushOwnsRow.holds Try.pinned (OpenSpec.ofChange flushOwnsWrong)

/-- 'carillonlaw19.FlushTies': WHATEVER THE INPUT: true; the input reads as it did. -/
def flushTiesSpec : ChangeSpec := { name := "flushTies", fn := fun _ => fun
  | [d1, d2] => { results := [.lit (.bool true)], args := [d1, d2] }
  | _ => none }
def flushTiesRow : OpenClaim := { program := "ytfcpclpaalekiaa", sum := "1a314fa3799357e9e1a1341ed74197ef3d4b0816792f70b45f1bfc67b9f9c674", func := "carillon/carillonlaw19.FlushTies", spec := "flushTies", inPlace := ["internal/abi.NoEscape", "internal/bytealg.MakeNoZero", "internal/bytealg.IndexByteString", "internal/bytealg.IndexString"], unfollowed := true, recurses := true, named := ["internal/bytealg.MaxLen"], apart := false }
def FlushTiesSaid : Prop := flushTiesRow.holds Try.pinned (OpenSpec.ofChange flushTiesSpec)

/-- ITS FALSE NEIGHBOUR: 'it returns false'. Refute it at one input. -/
def flushTiesWrong : ChangeSpec := { name := "flushTies", fn := fun _ => fun
  | [d1, d2] => { results := [.lit (.bool false)], args := [d1, d2] }
  | _ => none }
def FlushTiesWrongFalsely : Prop := flushTiesRow.holds Try.pinned (OpenSpec.ofChange flushTiesWrong)

/- THE SECOND FORM. 'bulk': how many values and letters a reading holds, each counted each time it is reached (what is shared counts as often as it is met; a slice's spare places count too). A statement '..UptoSaid' is the law's where the arguments, and the package variables that the reading takes, are together of bulk at most 1048576: NARROWER than '..Said'. Prove '..Said' where nothing that the law and all that it calls make is longer than what came in: it says more and counts as full. Else prove '..UptoSaid'. A law counts once. -/
mutual
def uptoBulk {H : Type} : DataW H → Nat
  | .lit (.string bytes) => bytes.length + 1
  | .lit _ => 1
  | .nil => 1
  | .ptr d => uptoBulk d + 1
  | .slice elems spare => uptoBulkAll elems + uptoBulkAll spare + 1
  | .agg parts => uptoBulkAll parts + 1
  | .iface _ d => uptoBulk d + 1
  | .map entries => uptoBulkEntries entries + 1
  | .held _ => 1
def uptoBulkAll {H : Type} : List (DataW H) → Nat
  | [] => 0
  | d :: r => uptoBulk d + uptoBulkAll r
def uptoBulkEntries {H : Type} : List (Lit × DataW H) → Nat
  | [] => 0
  | x :: r => uptoBulkEntry x + uptoBulkEntries r
def uptoBulkEntry {H : Type} : Lit × DataW H → Nat
  | (.string bytes, d) => bytes.length + uptoBulk d + 1
  | (_, d) => uptoBulk d + 1
 end
def uptoSmall : (H : Type) → List (DataW H) → Bool := fun _ ds => decide (uptoBulkAll ds ≤ 1048576)
def OpenSpec.upto (s : _root_.Go.ChangeSpec) : _root_.Go.OpenSpec := { _root_.Go.OpenSpec.ofChange s with cond := some uptoSmall }

/-- 'carillonlaw19.FlushLogs', WHERE WHAT IT READS IS OF BULK AT MOST 1048576: true; the input reads as it did. -/
def flushLogsUptoRow : OpenClaim := { program := "ytfcpclpaalekiaa", sum := "1a314fa3799357e9e1a1341ed74197ef3d4b0816792f70b45f1bfc67b9f9c674", func := "carillon/carillonlaw19.FlushLogs", spec := "flushLogs", inPlace := ["internal/abi.NoEscape", "internal/bytealg.MakeNoZero", "internal/bytealg.IndexByteString", "internal/bytealg.IndexString"], unfollowed := true, recurses := true, named := ["internal/bytealg.MaxLen"], apart := false, narrowed := true }
def FlushLogsUptoSaid : Prop := flushLogsUptoRow.holds Try.pinned (OpenSpec.upto flushLogsSpec)

/-- 'carillonlaw19.FlushBytes', WHERE WHAT IT READS IS OF BULK AT MOST 1048576: true; the input reads as it did. -/
def flushBytesUptoRow : OpenClaim := { program := "ytfcpclpaalekiaa", sum := "1a314fa3799357e9e1a1341ed74197ef3d4b0816792f70b45f1bfc67b9f9c674", func := "carillon/carillonlaw19.FlushBytes", spec := "flushBytes", inPlace := ["internal/abi.NoEscape", "internal/bytealg.MakeNoZero", "internal/bytealg.IndexByteString", "internal/bytealg.IndexString"], unfollowed := true, recurses := true, named := ["internal/bytealg.MaxLen"], apart := false, narrowed := true }
def FlushBytesUptoSaid : Prop := flushBytesUptoRow.holds Try.pinned (OpenSpec.upto flushBytesSpec)

/-- 'carillonlaw19.FlushBack', WHERE WHAT IT READS IS OF BULK AT MOST 1048576: true; the input reads as it did. -/
def flushBackUptoRow : OpenClaim := { program := "ytfcpclpaalekiaa", sum := "1a314fa3799357e9e1a1341ed74197ef3d4b0816792f70b45f1bfc67b9f9c674", func := "carillon/carillonlaw19.FlushBack", spec := "flushBack", inPlace := ["internal/abi.NoEscape", "internal/bytealg.MakeNoZero", "internal/bytealg.IndexByteString", "internal/bytealg.IndexString"], unfollowed := true, recurses := true, named := ["internal/bytealg.MaxLen"], apart := false, narrowed := true }
def FlushBackUptoSaid : Prop := flushBackUptoRow.holds Try.pinned (OpenSpec.upto flushBackSpec)

/-- 'carillonlaw19.FlushHolds', WHERE WHAT IT READS IS OF BULK AT MOST 1048576: true; the input reads as it did. -/
def flushHoldsUptoRow : OpenClaim := { program := "ytfcpclpaalekiaa", sum := "1a314fa3799357e9e1a1341ed74197ef3d4b0816792f70b45f1bfc67b9f9c674", func := "carillon/carillonlaw19.FlushHolds", spec := "flushHolds", inPlace := ["internal/abi.NoEscape", "internal/bytealg.MakeNoZero", "internal/bytealg.IndexByteString", "internal/bytealg.IndexString"], unfollowed := true, recurses := true, named := ["internal/bytealg.MaxLen"], apart := false, narrowed := true }
def FlushHoldsUptoSaid : Prop := flushHoldsUptoRow.holds Try.pinned (OpenSpec.upto flushHoldsSpec)

/-- 'carillonlaw19.FlushOwns', WHERE WHAT IT READS IS OF BULK AT MOST 1048576: true; the input reads as it did. -/
def flushOwnsUptoRow : OpenClaim := { program := "ytfcpclpaalekiaa", sum := "1a314fa3799357e9e1a1341ed74197ef3d4b0816792f70b45f1bfc67b9f9c674", func := "carillon/carillonlaw19.FlushOwns", spec := "flushOwns", inPlace := ["internal/abi.NoEscape", "internal/bytealg.MakeNoZero", "internal/bytealg.IndexByteString", "internal/bytealg.IndexString"], unfollowed := true, recurses := true, named := ["internal/bytealg.MaxLen"], apart := false, narrowed := true }
def FlushOwnsUptoSaid : Prop := flushOwnsUptoRow.holds Try.pinned (OpenSpec.upto flushOwnsSpec)

/-- 'carillonlaw19.FlushTies', WHERE WHAT IT READS IS OF BULK AT MOST 1048576: true; the input reads as it did. -/
def flushTiesUptoRow : OpenClaim := { program := "ytfcpclpaalekiaa", sum := "1a314fa3799357e9e1a1341ed74197ef3d4b0816792f70b45f1bfc67b9f9c674", func := "carillon/carillonlaw19.FlushTies", spec := "flushTies", inPlace := ["internal/abi.NoEscape", "internal/bytealg.MakeNoZero", "internal/bytealg.IndexByteString", "internal/bytealg.IndexString"], unfollowed := true, recurses := true, named := ["internal/bytealg.MaxLen"], apart := false, narrowed := true }
def FlushTiesUptoSaid : Prop := flushTiesUptoRow.holds Try.pinned (OpenSpec.upto flushTiesSpec)

end Rows
end Go.Proofs.Ytfcpclpaalekiaa
