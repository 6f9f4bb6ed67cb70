/-
  DERIVED. GIVEN WITH THE SEED: THE CARDS: each row of YtfnkaehpidaanaaGreatDoorRows.lean that lists a variable, with what it lists TIED to the program's text (the seventh form; the later family's looks); each row that meets fmt, with fmt's text TOLD by the authors' own Lean function (tested against real Go, not proved from fmt's source: count such statements apart). THE CARD IS WHAT COUNTS. Prove the row's statement (the work); the ties are given (YtfnkaehpidaanaaGreatDoorTie.lean); close each card by the builder's one call (the guide's Derived/Test/ToyasCard.lean, 'card_holds'). Laid BY PROGRAM, IN A SANDBOX (cutbox-door.mjs). By AI agents, Wed Nov 11 2026. No macro, syntax, notation, axiom, sorry.
-/
import Derived.Test.YtfnkaehpidaanaaGreatDoorRows
import GoSem.ClaimSeven
namespace Go.Proofs.YtfnkaehpidaanaaGreatDoor
namespace Rows

/-- THE TIED CARD OF 'burgagelaw2.DeskPlays'. -/
def deskPlaysCard : Claim7 := { stood := { row := deskPlaysRow, standIns := [], harness := (true, "88593c5926befd44f371ed4c06c2a2bb7e213627a15873877be758790af54220"), looks := true }, kinds := [], alts := [], laidByText := true, laidKinds := [.handle], laidTests := true, laidLooks := .later }
def DeskPlaysCardSaid : Prop := Claim7.holds Tryz.pinned (.plain (OpenSpec.ofChange deskPlaysSpec)) deskPlaysCard

/-- THE TIED CARD OF 'burgagelaw2.DeskSerial'. -/
def deskSerialCard : Claim7 := { stood := { row := deskSerialRow, standIns := [], harness := (true, "88593c5926befd44f371ed4c06c2a2bb7e213627a15873877be758790af54220"), looks := true }, kinds := [], alts := [], laidByText := true, laidKinds := [.handle], laidTests := true, laidLooks := .later }
def DeskSerialCardSaid : Prop := Claim7.holds Tryz.pinned (.plain (OpenSpec.ofChange deskSerialSpec)) deskSerialCard

/-- THE SECOND FORM's CARD OF 'burgagelaw2.DeskPlays'. -/
def deskPlaysUptoCard : Claim7 := { stood := { row := deskPlaysUptoRow, standIns := [], harness := (true, "88593c5926befd44f371ed4c06c2a2bb7e213627a15873877be758790af54220"), looks := true }, kinds := [], alts := [], laidByText := true, laidKinds := [.handle], laidTests := true, laidLooks := .later }
def DeskPlaysUptoCardSaid : Prop := Claim7.holds Tryz.pinned (.plain (OpenSpec.upto deskPlaysSpec)) deskPlaysUptoCard

/-- THE SECOND FORM's CARD OF 'burgagelaw2.DeskSerial'. -/
def deskSerialUptoCard : Claim7 := { stood := { row := deskSerialUptoRow, standIns := [], harness := (true, "88593c5926befd44f371ed4c06c2a2bb7e213627a15873877be758790af54220"), looks := true }, kinds := [], alts := [], laidByText := true, laidKinds := [.handle], laidTests := true, laidLooks := .later }
def DeskSerialUptoCardSaid : Prop := Claim7.holds Tryz.pinned (.plain (OpenSpec.upto deskSerialSpec)) deskSerialUptoCard
end Rows
end Go.Proofs.YtfnkaehpidaanaaGreatDoor
