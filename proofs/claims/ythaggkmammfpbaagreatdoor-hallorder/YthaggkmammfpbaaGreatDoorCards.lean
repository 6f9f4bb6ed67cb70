/-
  DERIVED. GIVEN WITH THE SEED: THE CARDS: each row of YthaggkmammfpbaaGreatDoorRows.lean that lists a variable, with what it lists TIED to the program's text (the seventh form; the later family's looks); each row that meets fmt, with fmt's text TOLD by the authors' own Lean function (tested against real Go, not proved from fmt's source: count such statements apart). THE CARD IS WHAT COUNTS. Prove the row's statement (the work); the ties are given (YthaggkmammfpbaaGreatDoorTie.lean); close each card by the builder's one call (the guide's Derived/Test/ToyasCard.lean, 'card_holds'). Laid BY PROGRAM, IN A SANDBOX (cutbox-door.mjs). By AI agents, Wed Nov 11 2026. No macro, syntax, notation, axiom, sorry.
-/
import Derived.Test.YthaggkmammfpbaaGreatDoorRows
import GoSem.ClaimSeven
namespace Go.Proofs.YthaggkmammfpbaaGreatDoor
namespace Rows

/-- THE TIED CARD OF 'burgagelaw3.PlotDoes'. -/
def plotDoesCard : Claim7 := { stood := { row := plotDoesRow, standIns := [], harness := (true, "ad39b3a7246b5edb628cbc9f63ad8598bc2b9197945482b3a8aba4d710c1297f"), looks := true }, kinds := [], alts := [], laidByText := true, laidKinds := [.data, .data, .data, .handle], laidTests := true, laidLooks := .later }
def PlotDoesCardSaid : Prop := Claim7.holds Tryz.pinned (.plain (OpenSpec.ofChange plotDoesSpec)) plotDoesCard

/-- THE TIED CARD OF 'burgagelaw3.HallPlays'. -/
def hallPlaysCard : Claim7 := { stood := { row := hallPlaysRow, standIns := [], harness := (true, "ad39b3a7246b5edb628cbc9f63ad8598bc2b9197945482b3a8aba4d710c1297f"), looks := true }, kinds := [], alts := [], laidByText := true, laidKinds := [.data, .data, .data, .handle], laidTests := true, laidLooks := .later }
def HallPlaysCardSaid : Prop := Claim7.holds Tryz.pinned (.plain (OpenSpec.ofChange hallPlaysSpec)) hallPlaysCard

/-- THE TIED CARD OF 'burgagetop.TopSerial'. -/
def topSerialCard : Claim7 := { stood := { row := topSerialRow, standIns := [], harness := (true, "ad39b3a7246b5edb628cbc9f63ad8598bc2b9197945482b3a8aba4d710c1297f"), looks := true }, kinds := [], alts := [], laidByText := true, laidKinds := [.data, .data, .data], laidTests := true, laidLooks := .later }
def TopSerialCardSaid : Prop := Claim7.holds Tryz.pinned (.plain (OpenSpec.ofChange topSerialSpec)) topSerialCard

/-- THE TIED CARD OF 'burgagelaw3.PlotBack'. -/
def plotBackCard : Claim7 := { stood := { row := plotBackRow, standIns := [], harness := (true, "ad39b3a7246b5edb628cbc9f63ad8598bc2b9197945482b3a8aba4d710c1297f"), looks := true }, kinds := [], alts := [], laidByText := true, laidKinds := [.data, .data, .data, .handle], laidTests := true, laidLooks := .later }
def PlotBackCardSaid : Prop := Claim7.holds Tryz.pinned (.plain (OpenSpec.ofChange plotBackSpec)) plotBackCard

/-- THE TIED CARD OF 'burgagelaw3.HallOnce'. -/
def hallOnceCard : Claim7 := { stood := { row := hallOnceRow, standIns := [], harness := (true, "ad39b3a7246b5edb628cbc9f63ad8598bc2b9197945482b3a8aba4d710c1297f"), looks := true }, kinds := [], alts := [], laidByText := true, laidKinds := [.data, .data, .data], laidTests := true, laidLooks := .later }
def HallOnceCardSaid : Prop := Claim7.holds Tryz.pinned (.plain (OpenSpec.ofChange hallOnceSpec)) hallOnceCard

/-- THE TIED CARD OF 'burgagelaw3.HallOrder'. -/
def hallOrderCard : Claim7 := { stood := { row := hallOrderRow, standIns := [], harness := (true, "ad39b3a7246b5edb628cbc9f63ad8598bc2b9197945482b3a8aba4d710c1297f"), looks := true }, kinds := [], alts := [], laidByText := true, laidKinds := [.data, .data, .data], laidTests := true, laidLooks := .later }
def HallOrderCardSaid : Prop := Claim7.holds Tryz.pinned (.plain (OpenSpec.ofChange hallOrderSpec)) hallOrderCard

/-- THE SECOND FORM's CARD OF 'burgagelaw3.PlotDoes'. -/
def plotDoesUptoCard : Claim7 := { stood := { row := plotDoesUptoRow, standIns := [], harness := (true, "ad39b3a7246b5edb628cbc9f63ad8598bc2b9197945482b3a8aba4d710c1297f"), looks := true }, kinds := [], alts := [], laidByText := true, laidKinds := [.data, .data, .data, .handle], laidTests := true, laidLooks := .later }
def PlotDoesUptoCardSaid : Prop := Claim7.holds Tryz.pinned (.plain (OpenSpec.upto plotDoesSpec)) plotDoesUptoCard

/-- THE SECOND FORM's CARD OF 'burgagelaw3.HallPlays'. -/
def hallPlaysUptoCard : Claim7 := { stood := { row := hallPlaysUptoRow, standIns := [], harness := (true, "ad39b3a7246b5edb628cbc9f63ad8598bc2b9197945482b3a8aba4d710c1297f"), looks := true }, kinds := [], alts := [], laidByText := true, laidKinds := [.data, .data, .data, .handle], laidTests := true, laidLooks := .later }
def HallPlaysUptoCardSaid : Prop := Claim7.holds Tryz.pinned (.plain (OpenSpec.upto hallPlaysSpec)) hallPlaysUptoCard

/-- THE SECOND FORM's CARD OF 'burgagetop.TopSerial'. -/
def topSerialUptoCard : Claim7 := { stood := { row := topSerialUptoRow, standIns := [], harness := (true, "ad39b3a7246b5edb628cbc9f63ad8598bc2b9197945482b3a8aba4d710c1297f"), looks := true }, kinds := [], alts := [], laidByText := true, laidKinds := [.data, .data, .data], laidTests := true, laidLooks := .later }
def TopSerialUptoCardSaid : Prop := Claim7.holds Tryz.pinned (.plain (OpenSpec.upto topSerialSpec)) topSerialUptoCard

/-- THE SECOND FORM's CARD OF 'burgagelaw3.PlotBack'. -/
def plotBackUptoCard : Claim7 := { stood := { row := plotBackUptoRow, standIns := [], harness := (true, "ad39b3a7246b5edb628cbc9f63ad8598bc2b9197945482b3a8aba4d710c1297f"), looks := true }, kinds := [], alts := [], laidByText := true, laidKinds := [.data, .data, .data, .handle], laidTests := true, laidLooks := .later }
def PlotBackUptoCardSaid : Prop := Claim7.holds Tryz.pinned (.plain (OpenSpec.upto plotBackSpec)) plotBackUptoCard

/-- THE SECOND FORM's CARD OF 'burgagelaw3.HallOnce'. -/
def hallOnceUptoCard : Claim7 := { stood := { row := hallOnceUptoRow, standIns := [], harness := (true, "ad39b3a7246b5edb628cbc9f63ad8598bc2b9197945482b3a8aba4d710c1297f"), looks := true }, kinds := [], alts := [], laidByText := true, laidKinds := [.data, .data, .data], laidTests := true, laidLooks := .later }
def HallOnceUptoCardSaid : Prop := Claim7.holds Tryz.pinned (.plain (OpenSpec.upto hallOnceSpec)) hallOnceUptoCard

/-- THE SECOND FORM's CARD OF 'burgagelaw3.HallOrder'. -/
def hallOrderUptoCard : Claim7 := { stood := { row := hallOrderUptoRow, standIns := [], harness := (true, "ad39b3a7246b5edb628cbc9f63ad8598bc2b9197945482b3a8aba4d710c1297f"), looks := true }, kinds := [], alts := [], laidByText := true, laidKinds := [.data, .data, .data], laidTests := true, laidLooks := .later }
def HallOrderUptoCardSaid : Prop := Claim7.holds Tryz.pinned (.plain (OpenSpec.upto hallOrderSpec)) hallOrderUptoCard
end Rows
end Go.Proofs.YthaggkmammfpbaaGreatDoor
