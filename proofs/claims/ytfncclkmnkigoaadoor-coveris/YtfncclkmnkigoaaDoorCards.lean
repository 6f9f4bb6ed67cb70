/-
  DERIVED. GIVEN WITH THE SEED: THE CARDS: each row of YtfncclkmnkigoaaDoorRows.lean that lists a variable, with what it lists TIED to the program's text (the seventh form; the later family's looks); each row that meets fmt, with fmt's text TOLD by the authors' own Lean function (tested against real Go, not proved from fmt's source: count such statements apart). THE CARD IS WHAT COUNTS. Prove the row's statement (the work); the ties are given (YtfncclkmnkigoaaDoorTie.lean); close each card by the builder's one call (the guide's Derived/Test/ToyasCard.lean, 'card_holds'). Laid BY PROGRAM, IN A SANDBOX (cutbox-door.mjs). By AI agents, Wed Nov 11 2026. No macro, syntax, notation, axiom, sorry.
-/
import Derived.Test.YtfncclkmnkigoaaDoorRows
import GoSem.ClaimSeven
namespace Go.Proofs.YtfncclkmnkigoaaDoor
namespace Rows

/-- THE TIED CARD OF 'burgagelaw1.SpanSets'. -/
def spanSetsCard : Claim7 := { stood := { row := spanSetsRow, standIns := [], harness := (true, "49c78fa9024da87154a117eea159be343098b1200507c5a8f13b682a89cfb2d8"), looks := true }, kinds := [], alts := [], laidByText := true, laidKinds := [.handle], laidTests := true, laidLooks := .later }
def SpanSetsCardSaid : Prop := Claim7.holds Tryd.pinned (.plain (OpenSpec.ofChange spanSetsSpec)) spanSetsCard

/-- THE TIED CARD OF 'burgagelaw1.CoverIs'. -/
def coverIsCard : Claim7 := { stood := { row := coverIsRow, standIns := [], harness := (true, "49c78fa9024da87154a117eea159be343098b1200507c5a8f13b682a89cfb2d8"), looks := true }, kinds := [], alts := [], laidByText := true, laidKinds := [.data, .data, .handle], laidTests := true, laidLooks := .later }
def CoverIsCardSaid : Prop := Claim7.holds Tryd.pinned (.plain (OpenSpec.ofChange coverIsSpec)) coverIsCard

/-- THE TIED CARD OF 'burgagelaw1.CoverFew'. -/
def coverFewCard : Claim7 := { stood := { row := coverFewRow, standIns := [], harness := (true, "49c78fa9024da87154a117eea159be343098b1200507c5a8f13b682a89cfb2d8"), looks := true }, kinds := [], alts := [], laidByText := true, laidKinds := [.data, .data], laidTests := true, laidLooks := .later }
def CoverFewCardSaid : Prop := Claim7.holds Tryd.pinned (.plain (OpenSpec.ofChange coverFewSpec)) coverFewCard

/-- THE SECOND FORM's CARD OF 'burgagelaw1.SpanSets'. -/
def spanSetsUptoCard : Claim7 := { stood := { row := spanSetsUptoRow, standIns := [], harness := (true, "49c78fa9024da87154a117eea159be343098b1200507c5a8f13b682a89cfb2d8"), looks := true }, kinds := [], alts := [], laidByText := true, laidKinds := [.handle], laidTests := true, laidLooks := .later }
def SpanSetsUptoCardSaid : Prop := Claim7.holds Tryd.pinned (.plain (OpenSpec.upto spanSetsSpec)) spanSetsUptoCard

/-- THE SECOND FORM's CARD OF 'burgagelaw1.CoverIs'. -/
def coverIsUptoCard : Claim7 := { stood := { row := coverIsUptoRow, standIns := [], harness := (true, "49c78fa9024da87154a117eea159be343098b1200507c5a8f13b682a89cfb2d8"), looks := true }, kinds := [], alts := [], laidByText := true, laidKinds := [.data, .data, .handle], laidTests := true, laidLooks := .later }
def CoverIsUptoCardSaid : Prop := Claim7.holds Tryd.pinned (.plain (OpenSpec.upto coverIsSpec)) coverIsUptoCard

/-- THE SECOND FORM's CARD OF 'burgagelaw1.CoverFew'. -/
def coverFewUptoCard : Claim7 := { stood := { row := coverFewUptoRow, standIns := [], harness := (true, "49c78fa9024da87154a117eea159be343098b1200507c5a8f13b682a89cfb2d8"), looks := true }, kinds := [], alts := [], laidByText := true, laidKinds := [.data, .data], laidTests := true, laidLooks := .later }
def CoverFewUptoCardSaid : Prop := Claim7.holds Tryd.pinned (.plain (OpenSpec.upto coverFewSpec)) coverFewUptoCard
end Rows
end Go.Proofs.YtfncclkmnkigoaaDoor
