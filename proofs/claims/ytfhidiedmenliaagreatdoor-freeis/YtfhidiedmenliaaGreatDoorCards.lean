/-
  DERIVED. GIVEN WITH THE SEED: THE CARDS: each row of YtfhidiedmenliaaGreatDoorRows.lean that lists a variable, with what it lists TIED to the program's text (the seventh form; the later family's looks); each row that meets fmt, with fmt's text TOLD by the authors' own Lean function (tested against real Go, not proved from fmt's source: count such statements apart). THE CARD IS WHAT COUNTS. Prove the row's statement (the work); the ties are given (YtfhidiedmenliaaGreatDoorTie.lean); close each card by the builder's one call (the guide's Derived/Test/ToyasCard.lean, 'card_holds'). Laid BY PROGRAM, IN A SANDBOX (cutbox-door.mjs). By AI agents, Wed Nov 11 2026. No macro, syntax, notation, axiom, sorry.
-/
import Derived.Test.YtfhidiedmenliaaGreatDoorRows
import GoSem.ClaimSeven
namespace Go.Proofs.YtfhidiedmenliaaGreatDoor
namespace Rows

/-- THE TIED CARD OF 'burgagelaw1.FreeIs'. -/
def freeIsCard : Claim7 := { stood := { row := freeIsRow, standIns := [], harness := (true, "2a220152cdefb147726fa826c630538ae1f1a137eb9b9821ba68d808f7b7dae8"), looks := true }, kinds := [], alts := [], laidByText := true, laidKinds := [.data, .data, .handle], laidTests := true, laidLooks := .later }
def FreeIsCardSaid : Prop := Claim7.holds Tryz.pinned (.plain (OpenSpec.ofChange freeIsSpec)) freeIsCard

/-- THE TIED CARD OF 'burgagelaw1.FreeFits'. -/
def freeFitsCard : Claim7 := { stood := { row := freeFitsRow, standIns := [], harness := (true, "2a220152cdefb147726fa826c630538ae1f1a137eb9b9821ba68d808f7b7dae8"), looks := true }, kinds := [], alts := [], laidByText := true, laidKinds := [.data, .data, .handle], laidTests := true, laidLooks := .later }
def FreeFitsCardSaid : Prop := Claim7.holds Tryz.pinned (.plain (OpenSpec.ofChange freeFitsSpec)) freeFitsCard

/-- THE SECOND FORM's CARD OF 'burgagelaw1.FreeIs'. -/
def freeIsUptoCard : Claim7 := { stood := { row := freeIsUptoRow, standIns := [], harness := (true, "2a220152cdefb147726fa826c630538ae1f1a137eb9b9821ba68d808f7b7dae8"), looks := true }, kinds := [], alts := [], laidByText := true, laidKinds := [.data, .data, .handle], laidTests := true, laidLooks := .later }
def FreeIsUptoCardSaid : Prop := Claim7.holds Tryz.pinned (.plain (OpenSpec.upto freeIsSpec)) freeIsUptoCard

/-- THE SECOND FORM's CARD OF 'burgagelaw1.FreeFits'. -/
def freeFitsUptoCard : Claim7 := { stood := { row := freeFitsUptoRow, standIns := [], harness := (true, "2a220152cdefb147726fa826c630538ae1f1a137eb9b9821ba68d808f7b7dae8"), looks := true }, kinds := [], alts := [], laidByText := true, laidKinds := [.data, .data, .handle], laidTests := true, laidLooks := .later }
def FreeFitsUptoCardSaid : Prop := Claim7.holds Tryz.pinned (.plain (OpenSpec.upto freeFitsSpec)) freeFitsUptoCard
end Rows
end Go.Proofs.YtfhidiedmenliaaGreatDoor
