/-
  DERIVED. GIVEN WITH THE SEED: THE CARDS: each row of YtdjiodikefoliaaDoorRows.lean that lists a variable, with what it lists TIED to the program's text (the seventh form; the later family's looks); each row that meets fmt, with fmt's text TOLD by the authors' own Lean function (tested against real Go, not proved from fmt's source: count such statements apart). THE CARD IS WHAT COUNTS. Prove the row's statement (the work); the ties are given (YtdjiodikefoliaaDoorTie.lean); close each card by the builder's one call (the guide's Derived/Test/ToyasCard.lean, 'card_holds'). Laid BY PROGRAM, IN A SANDBOX (cutbox-door.mjs). By AI agents, Wed Nov 11 2026. No macro, syntax, notation, axiom, sorry.
-/
import Derived.Test.YtdjiodikefoliaaDoorRows
import GoSem.ClaimSeven
namespace Go.Proofs.YtdjiodikefoliaaDoor
namespace Rows

/-- THE TIED CARD OF 'burgagelaw3.AuditIs'. -/
def auditIsCard : Claim7 := { stood := { row := auditIsRow, standIns := [], harness := (true, "656709c44f791fa56b36ba2a4aad4b3d1801c53604125115f63bffe4c0bde141"), looks := true }, kinds := [], alts := [], laidByText := true, laidKinds := [.handle], laidTests := true, laidLooks := .later }
def AuditIsCardSaid : Prop := Claim7.holds Tryd.pinned (.plain (OpenSpec.ofChange auditIsSpec)) auditIsCard

/-- THE SECOND FORM's CARD OF 'burgagelaw3.AuditIs'. -/
def auditIsUptoCard : Claim7 := { stood := { row := auditIsUptoRow, standIns := [], harness := (true, "656709c44f791fa56b36ba2a4aad4b3d1801c53604125115f63bffe4c0bde141"), looks := true }, kinds := [], alts := [], laidByText := true, laidKinds := [.handle], laidTests := true, laidLooks := .later }
def AuditIsUptoCardSaid : Prop := Claim7.holds Tryd.pinned (.plain (OpenSpec.upto auditIsSpec)) auditIsUptoCard
end Rows
end Go.Proofs.YtdjiodikefoliaaDoor
