/-
  DERIVED. GIVEN WITH THE SEED: THE CARDS: each row of YtedbnohkkepajaaGreatDoorRows.lean that lists a variable, with what it lists TIED to the program's text (the seventh form; the later family's looks); each row that meets fmt, with fmt's text TOLD by the authors' own Lean function (tested against real Go, not proved from fmt's source: count such statements apart). THE CARD IS WHAT COUNTS. Prove the row's statement (the work); the ties are given (YtedbnohkkepajaaGreatDoorTie.lean); close each card by the builder's one call (the guide's Derived/Test/ToyasCard.lean, 'card_holds'). Laid BY PROGRAM, IN A SANDBOX (cutbox-door.mjs). By AI agents, Wed Nov 11 2026. No macro, syntax, notation, axiom, sorry.
-/
import Derived.Test.YtedbnohkkepajaaGreatDoorRows
import GoSem.ClaimSeven
namespace Go.Proofs.YtedbnohkkepajaaGreatDoor
namespace Rows

/-- THE TIED CARD OF 'halationlaw01.NumExhausts'. -/
def numExhaustsCard : Claim7 := { stood := { row := numExhaustsRow, standIns := [], harness := (true, "53631beb6afbb3deb714d174e3c0d0437685a876de186750e4b95b7ef5c0f0f7"), looks := true }, kinds := [], alts := [], laidByText := true, laidKinds := [.data, .data, .data, .sentinel, .sentinel, .data], laidTests := true, laidLooks := .later }
def NumExhaustsCardSaid : Prop := Claim7.holds Tryz.pinned (.plain (OpenSpec.ofChange numExhaustsSpec)) numExhaustsCard

/-- THE SECOND FORM's CARD OF 'halationlaw01.NumExhausts'. -/
def numExhaustsUptoCard : Claim7 := { stood := { row := numExhaustsUptoRow, standIns := [], harness := (true, "53631beb6afbb3deb714d174e3c0d0437685a876de186750e4b95b7ef5c0f0f7"), looks := true }, kinds := [], alts := [], laidByText := true, laidKinds := [.data, .data, .data, .sentinel, .sentinel, .data], laidTests := true, laidLooks := .later }
def NumExhaustsUptoCardSaid : Prop := Claim7.holds Tryz.pinned (.plain (OpenSpec.upto numExhaustsSpec)) numExhaustsUptoCard
end Rows
end Go.Proofs.YtedbnohkkepajaaGreatDoor
