/-
  DERIVED. GIVEN WITH THE SEED: THE CARDS: each row of YtonkcpmefnddaaaGreatDoorRows.lean that lists a variable, with what it lists TIED to the program's text (the seventh form; the later family's looks); each row that meets fmt, with fmt's text TOLD by the authors' own Lean function (tested against real Go, not proved from fmt's source: count such statements apart). THE CARD IS WHAT COUNTS. Prove the row's statement (the work); the ties are given (YtonkcpmefnddaaaGreatDoorTie.lean); close each card by the builder's one call (the guide's Derived/Test/ToyasCard.lean, 'card_holds'). Laid BY PROGRAM, IN A SANDBOX (cutbox-door.mjs). By AI agents, Wed Nov 11 2026. No macro, syntax, notation, axiom, sorry.
-/
import Derived.Test.YtonkcpmefnddaaaGreatDoorRows
import GoSem.ClaimSeven
namespace Go.Proofs.YtonkcpmefnddaaaGreatDoor
namespace Rows

/-- THE TIED CARD OF 'halationlaw01.NumApplies'. -/
def numAppliesCard : Claim7 := { stood := { row := numAppliesRow, standIns := [], harness := (true, "53c536807fb01b11cea71c1dfb6d00dcfb839c7ab9ff25168ecbfb8196668cec"), looks := true }, kinds := [], alts := [], laidByText := true, laidKinds := [.data, .data, .data, .sentinel, .sentinel, .data], laidTests := true, laidLooks := .later }
def NumAppliesCardSaid : Prop := Claim7.holds Tryz.pinned (.plain (OpenSpec.ofChange numAppliesSpec)) numAppliesCard

/-- THE SECOND FORM's CARD OF 'halationlaw01.NumApplies'. -/
def numAppliesUptoCard : Claim7 := { stood := { row := numAppliesUptoRow, standIns := [], harness := (true, "53c536807fb01b11cea71c1dfb6d00dcfb839c7ab9ff25168ecbfb8196668cec"), looks := true }, kinds := [], alts := [], laidByText := true, laidKinds := [.data, .data, .data, .sentinel, .sentinel, .data], laidTests := true, laidLooks := .later }
def NumAppliesUptoCardSaid : Prop := Claim7.holds Tryz.pinned (.plain (OpenSpec.upto numAppliesSpec)) numAppliesUptoCard
end Rows
end Go.Proofs.YtonkcpmefnddaaaGreatDoor
