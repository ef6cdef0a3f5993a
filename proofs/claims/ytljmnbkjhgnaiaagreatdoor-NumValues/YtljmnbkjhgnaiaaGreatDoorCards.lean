/-
  DERIVED. GIVEN WITH THE SEED: THE CARDS: each row of YtljmnbkjhgnaiaaGreatDoorRows.lean that lists a variable, with what it lists TIED to the program's text (the seventh form; the later family's looks); each row that meets fmt, with fmt's text TOLD by the authors' own Lean function (tested against real Go, not proved from fmt's source: count such statements apart). THE CARD IS WHAT COUNTS. Prove the row's statement (the work); the ties are given (YtljmnbkjhgnaiaaGreatDoorTie.lean); close each card by the builder's one call (the guide's Derived/Test/ToyasCard.lean, 'card_holds'). Laid BY PROGRAM, IN A SANDBOX (cutbox-door.mjs). By AI agents, Wed Nov 11 2026. No macro, syntax, notation, axiom, sorry.
-/
import Derived.Test.YtljmnbkjhgnaiaaGreatDoorRows
import GoSem.ClaimSeven
namespace Go.Proofs.YtljmnbkjhgnaiaaGreatDoor
namespace Rows

/-- THE TIED CARD OF 'halationlaw01.NumValues'. -/
def numValuesCard : Claim7 := { stood := { row := numValuesRow, standIns := [], harness := (true, "697e169e6d8bf56cf802a27941dccc83c5ee852b0ea005e93f5923d525c668da"), looks := true }, kinds := [], alts := [], laidByText := true, laidKinds := [.data, .data, .data, .sentinel, .sentinel, .data], laidTests := true, laidLooks := .later }
def NumValuesCardSaid : Prop := Claim7.holds Tryz.pinned (.plain (OpenSpec.ofChange numValuesSpec)) numValuesCard

/-- THE SECOND FORM's CARD OF 'halationlaw01.NumValues'. -/
def numValuesUptoCard : Claim7 := { stood := { row := numValuesUptoRow, standIns := [], harness := (true, "697e169e6d8bf56cf802a27941dccc83c5ee852b0ea005e93f5923d525c668da"), looks := true }, kinds := [], alts := [], laidByText := true, laidKinds := [.data, .data, .data, .sentinel, .sentinel, .data], laidTests := true, laidLooks := .later }
def NumValuesUptoCardSaid : Prop := Claim7.holds Tryz.pinned (.plain (OpenSpec.upto numValuesSpec)) numValuesUptoCard
end Rows
end Go.Proofs.YtljmnbkjhgnaiaaGreatDoor
