/-
  DERIVED. GIVEN WITH THE SEED: THE CARDS: each row of YtgecchiocfkpkaaGreatDoorRows.lean that lists a variable, with what it lists TIED to the program's text (the seventh form; the later family's looks); each row that meets fmt, with fmt's text TOLD by the authors' own Lean function (tested against real Go, not proved from fmt's source: count such statements apart). THE CARD IS WHAT COUNTS. Prove the row's statement (the work); the ties are given (YtgecchiocfkpkaaGreatDoorTie.lean); close each card by the builder's one call (the guide's Derived/Test/ToyasCard.lean, 'card_holds'). Laid BY PROGRAM, IN A SANDBOX (cutbox-door.mjs). By AI agents, Wed Nov 11 2026. No macro, syntax, notation, axiom, sorry.
-/
import Derived.Test.YtgecchiocfkpkaaGreatDoorRows
import GoSem.ClaimSeven
namespace Go.Proofs.YtgecchiocfkpkaaGreatDoor
namespace Rows

/-- THE TIED CARD OF 'halationlaw10.SpanApplies'. -/
def spanAppliesCard : Claim7 := { stood := { row := spanAppliesRow, standIns := [], harness := (true, "3cea48e84f57b3728aa17fbeeaea9c63c80bf109130d2f459b38fd971561f98a"), looks := false }, kinds := [], alts := [], laidByText := true, laidKinds := [.data], laidTests := true, laidLooks := .later }
def SpanAppliesCardSaid : Prop := Claim7.holds Tryz.pinned (.plain (OpenSpec.ofChange spanAppliesSpec)) spanAppliesCard

/-- THE SECOND FORM's CARD OF 'halationlaw10.SpanApplies'. -/
def spanAppliesUptoCard : Claim7 := { stood := { row := spanAppliesUptoRow, standIns := [], harness := (true, "3cea48e84f57b3728aa17fbeeaea9c63c80bf109130d2f459b38fd971561f98a"), looks := false }, kinds := [], alts := [], laidByText := true, laidKinds := [.data], laidTests := true, laidLooks := .later }
def SpanAppliesUptoCardSaid : Prop := Claim7.holds Tryz.pinned (.plain (OpenSpec.upto spanAppliesSpec)) spanAppliesUptoCard
end Rows
end Go.Proofs.YtgecchiocfkpkaaGreatDoor
