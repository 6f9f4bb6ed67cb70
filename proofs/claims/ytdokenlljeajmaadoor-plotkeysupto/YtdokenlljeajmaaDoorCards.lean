/-
  DERIVED. GIVEN WITH THE SEED: THE CARDS: each row of YtdokenlljeajmaaDoorRows.lean that lists a variable, with what it lists TIED to the program's text (the seventh form; the later family's looks); each row that meets fmt, with fmt's text TOLD by the authors' own Lean function (tested against real Go, not proved from fmt's source: count such statements apart). THE CARD IS WHAT COUNTS. Prove the row's statement (the work); the ties are given (YtdokenlljeajmaaDoorTie.lean); close each card by the builder's one call (the guide's Derived/Test/ToyasCard.lean, 'card_holds'). Laid BY PROGRAM, IN A SANDBOX (cutbox-door.mjs). By AI agents, Wed Nov 11 2026. No macro, syntax, notation, axiom, sorry.
-/
import Derived.Test.YtdokenlljeajmaaDoorRows
import GoSem.ClaimSeven
namespace Go.Proofs.YtdokenlljeajmaaDoor
namespace Rows

/-- THE TIED CARD OF 'burgagelaw3.PlotKeys'. -/
def plotKeysCard : Claim7 := { stood := { row := plotKeysRow, standIns := [], harness := (true, "c2763782670e7972f4b6154e56b3b70fcd4ca72ca858930130859c5de34fea59"), looks := true }, kinds := [], alts := [], laidByText := true, laidKinds := [.data, .data, .data, .handle], laidTests := true, laidLooks := .later }
def PlotKeysCardSaid : Prop := Claim7.holds Tryd.pinned (.plain (OpenSpec.ofChange plotKeysSpec)) plotKeysCard

/-- THE SECOND FORM's CARD OF 'burgagelaw3.PlotKeys'. -/
def plotKeysUptoCard : Claim7 := { stood := { row := plotKeysUptoRow, standIns := [], harness := (true, "c2763782670e7972f4b6154e56b3b70fcd4ca72ca858930130859c5de34fea59"), looks := true }, kinds := [], alts := [], laidByText := true, laidKinds := [.data, .data, .data, .handle], laidTests := true, laidLooks := .later }
def PlotKeysUptoCardSaid : Prop := Claim7.holds Tryd.pinned (.plain (OpenSpec.upto plotKeysSpec)) plotKeysUptoCard
end Rows
end Go.Proofs.YtdokenlljeajmaaDoor
