/-
  DERIVED. GIVEN WITH THE SEED: THE CARDS: each row of YtfemehgmfbgejaaDoorRows.lean that lists a variable, with what it lists TIED to the program's text (the seventh form; the later family's looks); each row that meets fmt, with fmt's text TOLD by the authors' own Lean function (tested against real Go, not proved from fmt's source: count such statements apart). THE CARD IS WHAT COUNTS. Prove the row's statement (the work); the ties are given (YtfemehgmfbgejaaDoorTie.lean); close each card by the builder's one call (the guide's Derived/Test/ToyasCard.lean, 'card_holds'). Laid BY PROGRAM, IN A SANDBOX (cutbox-door.mjs). By AI agents, Wed Nov 11 2026. No macro, syntax, notation, axiom, sorry.
-/
import Derived.Test.YtfemehgmfbgejaaDoorRows
import GoSem.ClaimSeven
namespace Go.Proofs.YtfemehgmfbgejaaDoor
namespace Rows

/-- THE TIED CARD OF 'burgagelaw1.HostIs'. -/
def hostIsCard : Claim7 := { stood := { row := hostIsRow, standIns := [], harness := (true, "2794245619a36a637f7c494968a1114ee4f94d87eb1aa2347e629782c8401965"), looks := true }, kinds := [], alts := [], laidByText := true, laidKinds := [.handle], laidTests := true, laidLooks := .later }
def HostIsCardSaid : Prop := Claim7.holds Tryd.pinned (.plain (OpenSpec.ofChange hostIsSpec)) hostIsCard

/-- THE SECOND FORM's CARD OF 'burgagelaw1.HostIs'. -/
def hostIsUptoCard : Claim7 := { stood := { row := hostIsUptoRow, standIns := [], harness := (true, "2794245619a36a637f7c494968a1114ee4f94d87eb1aa2347e629782c8401965"), looks := true }, kinds := [], alts := [], laidByText := true, laidKinds := [.handle], laidTests := true, laidLooks := .later }
def HostIsUptoCardSaid : Prop := Claim7.holds Tryd.pinned (.plain (OpenSpec.upto hostIsSpec)) hostIsUptoCard
end Rows
end Go.Proofs.YtfemehgmfbgejaaDoor
