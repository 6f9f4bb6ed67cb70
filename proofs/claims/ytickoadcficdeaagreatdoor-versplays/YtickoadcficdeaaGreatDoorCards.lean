/-
  DERIVED. GIVEN WITH THE SEED: THE CARDS: each row of YtickoadcficdeaaGreatDoorRows.lean that lists a variable, with what it lists TIED to the program's text (the seventh form; the later family's looks); each row that meets fmt, with fmt's text TOLD by the authors' own Lean function (tested against real Go, not proved from fmt's source: count such statements apart). THE CARD IS WHAT COUNTS. Prove the row's statement (the work); the ties are given (YtickoadcficdeaaGreatDoorTie.lean); close each card by the builder's one call (the guide's Derived/Test/ToyasCard.lean, 'card_holds'). Laid BY PROGRAM, IN A SANDBOX (cutbox-door.mjs). By AI agents, Wed Nov 11 2026. No macro, syntax, notation, axiom, sorry.
-/
import Derived.Test.YtickoadcficdeaaGreatDoorRows
import GoSem.ClaimSeven
namespace Go.Proofs.YtickoadcficdeaaGreatDoor
namespace Rows

/-- THE TIED CARD OF 'burgagelaw2.VersPlays'. -/
def versPlaysCard : Claim7 := { stood := { row := versPlaysRow, standIns := [], harness := (true, "109a164facea23b81b96728cf884c0e8d6bbe2c291f6f277686a6f28531db615"), looks := true }, kinds := [], alts := [], laidByText := true, laidKinds := [.handle], laidTests := true, laidLooks := .later }
def VersPlaysCardSaid : Prop := Claim7.holds Tryz.pinned (.plain (OpenSpec.ofChange versPlaysSpec)) versPlaysCard

/-- THE SECOND FORM's CARD OF 'burgagelaw2.VersPlays'. -/
def versPlaysUptoCard : Claim7 := { stood := { row := versPlaysUptoRow, standIns := [], harness := (true, "109a164facea23b81b96728cf884c0e8d6bbe2c291f6f277686a6f28531db615"), looks := true }, kinds := [], alts := [], laidByText := true, laidKinds := [.handle], laidTests := true, laidLooks := .later }
def VersPlaysUptoCardSaid : Prop := Claim7.holds Tryz.pinned (.plain (OpenSpec.upto versPlaysSpec)) versPlaysUptoCard
end Rows
end Go.Proofs.YtickoadcficdeaaGreatDoor
