/-
  DERIVED. GIVEN WITH THE SEED: THE CARDS: each row of YtdmbnllekmgnhaaDoorRows.lean that lists a variable, with what it lists TIED to the program's text (the seventh form; the later family's looks); each row that meets fmt, with fmt's text TOLD by the authors' own Lean function (tested against real Go, not proved from fmt's source: count such statements apart). THE CARD IS WHAT COUNTS. Prove the row's statement (the work); the ties are given (YtdmbnllekmgnhaaDoorTie.lean); close each card by the builder's one call (the guide's Derived/Test/ToyasCard.lean, 'card_holds'). Laid BY PROGRAM, IN A SANDBOX (cutbox-door.mjs). By AI agents, Wed Nov 11 2026. No macro, syntax, notation, axiom, sorry.
-/
import Derived.Test.YtdmbnllekmgnhaaDoorRows
import GoSem.ClaimSeven
namespace Go.Proofs.YtdmbnllekmgnhaaDoor
namespace Rows

/-- THE TIED CARD OF 'halationlaw04.ImageUnions'. -/
def imageUnionsCard : Claim7 := { stood := { row := imageUnionsRow, standIns := [], harness := (true, "8a6cf2329eca16234b5130d2d72c2ac67caab9de06b1da274af2b2bb5fee3096"), looks := false }, kinds := [], alts := [], laidByText := true, laidKinds := [.data], laidTests := true, laidLooks := .later }
def ImageUnionsCardSaid : Prop := Claim7.holds Tryd.pinned (.plain (OpenSpec.ofChange imageUnionsSpec)) imageUnionsCard

/-- THE SECOND FORM's CARD OF 'halationlaw04.ImageUnions'. -/
def imageUnionsUptoCard : Claim7 := { stood := { row := imageUnionsUptoRow, standIns := [], harness := (true, "8a6cf2329eca16234b5130d2d72c2ac67caab9de06b1da274af2b2bb5fee3096"), looks := false }, kinds := [], alts := [], laidByText := true, laidKinds := [.data], laidTests := true, laidLooks := .later }
def ImageUnionsUptoCardSaid : Prop := Claim7.holds Tryd.pinned (.plain (OpenSpec.upto imageUnionsSpec)) imageUnionsUptoCard
end Rows
end Go.Proofs.YtdmbnllekmgnhaaDoor
