/-
  DERIVED. GIVEN WITH THE SEED: THE CARDS: each row of YthlbienfimdkbaaGreatDoorRows.lean that lists a variable, with what it lists TIED to the program's text (the seventh form; the later family's looks); each row that meets fmt, with fmt's text TOLD by the authors' own Lean function (tested against real Go, not proved from fmt's source: count such statements apart). THE CARD IS WHAT COUNTS. Prove the row's statement (the work); the ties are given (YthlbienfimdkbaaGreatDoorTie.lean); close each card by the builder's one call (the guide's Derived/Test/ToyasCard.lean, 'card_holds'). Laid BY PROGRAM, IN A SANDBOX (cutbox-door.mjs). By AI agents, Wed Nov 11 2026. No macro, syntax, notation, axiom, sorry.
-/
import Derived.Test.YthlbienfimdkbaaGreatDoorRows
import GoSem.ClaimSeven
namespace Go.Proofs.YthlbienfimdkbaaGreatDoor
namespace Rows

/-- THE TIED CARD OF 'halationlaw08.SchedWords'. -/
def schedWordsCard : Claim7 := { stood := { row := schedWordsRow, standIns := [], harness := (true, "a1c19e3a77fb5d0a2ca642be97f6f1e15f60e267be6075b98137ad72f7a31d7f"), looks := true }, kinds := [], alts := [], laidByText := true, laidKinds := [.data, .data, .data, .data, .sentinel, .sentinel, .data, .data, .wider, .data, .pinned], laidTests := true, laidLooks := .later }
def SchedWordsCardSaid : Prop := Claim7.holds Tryz.pinned (.plain (OpenSpec.ofChange schedWordsSpec)) schedWordsCard

/-- THE SECOND FORM's CARD OF 'halationlaw08.SchedWords'. -/
def schedWordsUptoCard : Claim7 := { stood := { row := schedWordsUptoRow, standIns := [], harness := (true, "a1c19e3a77fb5d0a2ca642be97f6f1e15f60e267be6075b98137ad72f7a31d7f"), looks := true }, kinds := [], alts := [], laidByText := true, laidKinds := [.data, .data, .data, .data, .sentinel, .sentinel, .data, .data, .wider, .data, .pinned], laidTests := true, laidLooks := .later }
def SchedWordsUptoCardSaid : Prop := Claim7.holds Tryz.pinned (.plain (OpenSpec.upto schedWordsSpec)) schedWordsUptoCard
end Rows
end Go.Proofs.YthlbienfimdkbaaGreatDoor
