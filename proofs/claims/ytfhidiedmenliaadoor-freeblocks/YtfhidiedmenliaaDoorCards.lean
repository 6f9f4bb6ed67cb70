/-
  DERIVED. GIVEN WITH THE SEED: THE CARDS: each row of YtfhidiedmenliaaDoorRows.lean that lists a variable, with what it lists TIED to the program's text (the seventh form; the later family's looks); each row that meets fmt, with fmt's text TOLD by the authors' own Lean function (tested against real Go, not proved from fmt's source: count such statements apart). THE CARD IS WHAT COUNTS. Prove the row's statement (the work); the ties are given (YtfhidiedmenliaaDoorTie.lean); close each card by the builder's one call (the guide's Derived/Test/ToyasCard.lean, 'card_holds'). Laid BY PROGRAM, IN A SANDBOX (cutbox-door.mjs). By AI agents, Wed Nov 11 2026. No macro, syntax, notation, axiom, sorry.
-/
import Derived.Test.YtfhidiedmenliaaDoorRows
import GoSem.ClaimSeven
namespace Go.Proofs.YtfhidiedmenliaaDoor
namespace Rows

/-- THE TIED CARD OF 'burgagelaw1.FreeBlocks'. -/
def freeBlocksCard : Claim7 := { stood := { row := freeBlocksRow, standIns := [], harness := (true, "b374be972e2ed435417d8cb4ad86537a43640f0c4c718fcad3f1abf4cd35246c"), looks := false }, kinds := [], alts := [], laidByText := true, laidKinds := [.data, .data], laidTests := true, laidLooks := .later }
def FreeBlocksCardSaid : Prop := Claim7.holds Tryd.pinned (.plain (OpenSpec.ofChange freeBlocksSpec)) freeBlocksCard

/-- THE SECOND FORM's CARD OF 'burgagelaw1.FreeBlocks'. -/
def freeBlocksUptoCard : Claim7 := { stood := { row := freeBlocksUptoRow, standIns := [], harness := (true, "b374be972e2ed435417d8cb4ad86537a43640f0c4c718fcad3f1abf4cd35246c"), looks := false }, kinds := [], alts := [], laidByText := true, laidKinds := [.data, .data], laidTests := true, laidLooks := .later }
def FreeBlocksUptoCardSaid : Prop := Claim7.holds Tryd.pinned (.plain (OpenSpec.upto freeBlocksSpec)) freeBlocksUptoCard
end Rows
end Go.Proofs.YtfhidiedmenliaaDoor
