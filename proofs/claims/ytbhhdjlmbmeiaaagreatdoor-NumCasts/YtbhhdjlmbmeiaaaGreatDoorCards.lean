/-
  DERIVED. GIVEN WITH THE SEED: THE CARDS: each row of YtbhhdjlmbmeiaaaGreatDoorRows.lean that lists a variable, with what it lists TIED to the program's text (the seventh form; the later family's looks); each row that meets fmt, with fmt's text TOLD by the authors' own Lean function (tested against real Go, not proved from fmt's source: count such statements apart). THE CARD IS WHAT COUNTS. Prove the row's statement (the work); the ties are given (YtbhhdjlmbmeiaaaGreatDoorTie.lean); close each card by the builder's one call (the guide's Derived/Test/ToyasCard.lean, 'card_holds'). Laid BY PROGRAM, IN A SANDBOX (cutbox-door.mjs). By AI agents, Wed Nov 11 2026. No macro, syntax, notation, axiom, sorry.
-/
import Derived.Test.YtbhhdjlmbmeiaaaGreatDoorRows
import GoSem.ClaimSeven
namespace Go.Proofs.YtbhhdjlmbmeiaaaGreatDoor
namespace Rows

/-- THE TIED CARD OF 'halationlaw01.NumCasts'. -/
def numCastsCard : Claim7 := { stood := { row := numCastsRow, standIns := [], harness := (true, "00f3424dd15216ca1121617edd1d5510e54aa0dc0f72a9de7a8eb75b5e362b29"), looks := true }, kinds := [], alts := [], laidByText := true, laidKinds := [.data, .data, .data, .sentinel, .sentinel, .data], laidTests := true, laidLooks := .later }
def NumCastsCardSaid : Prop := Claim7.holds Tryz.pinned (.plain (OpenSpec.ofChange numCastsSpec)) numCastsCard

/-- THE SECOND FORM's CARD OF 'halationlaw01.NumCasts'. -/
def numCastsUptoCard : Claim7 := { stood := { row := numCastsUptoRow, standIns := [], harness := (true, "00f3424dd15216ca1121617edd1d5510e54aa0dc0f72a9de7a8eb75b5e362b29"), looks := true }, kinds := [], alts := [], laidByText := true, laidKinds := [.data, .data, .data, .sentinel, .sentinel, .data], laidTests := true, laidLooks := .later }
def NumCastsUptoCardSaid : Prop := Claim7.holds Tryz.pinned (.plain (OpenSpec.upto numCastsSpec)) numCastsUptoCard
end Rows
end Go.Proofs.YtbhhdjlmbmeiaaaGreatDoor
