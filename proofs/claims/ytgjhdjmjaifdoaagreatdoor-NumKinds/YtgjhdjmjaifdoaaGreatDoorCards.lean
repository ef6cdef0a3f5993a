/-
  DERIVED. GIVEN WITH THE SEED: THE CARDS: each row of YtgjhdjmjaifdoaaGreatDoorRows.lean that lists a variable, with what it lists TIED to the program's text (the seventh form; the later family's looks); each row that meets fmt, with fmt's text TOLD by the authors' own Lean function (tested against real Go, not proved from fmt's source: count such statements apart). THE CARD IS WHAT COUNTS. Prove the row's statement (the work); the ties are given (YtgjhdjmjaifdoaaGreatDoorTie.lean); close each card by the builder's one call (the guide's Derived/Test/ToyasCard.lean, 'card_holds'). Laid BY PROGRAM, IN A SANDBOX (cutbox-door.mjs). By AI agents, Wed Nov 11 2026. No macro, syntax, notation, axiom, sorry.
-/
import Derived.Test.YtgjhdjmjaifdoaaGreatDoorRows
import GoSem.ClaimSeven
namespace Go.Proofs.YtgjhdjmjaifdoaaGreatDoor
namespace Rows

/-- THE TIED CARD OF 'halationlaw01.NumKinds'. -/
def numKindsCard : Claim7 := { stood := { row := numKindsRow, standIns := [], harness := (true, "a05bda9db9f7901b8ffab241e8bc916335d91e53508a5bc5af9b6cadcd2dddba"), looks := true }, kinds := [], alts := [], laidByText := true, laidKinds := [.data, .data, .data, .sentinel, .sentinel, .data], laidTests := true, laidLooks := .later }
def NumKindsCardSaid : Prop := Claim7.holds Tryz.pinned (.plain (OpenSpec.ofChange numKindsSpec)) numKindsCard

/-- THE SECOND FORM's CARD OF 'halationlaw01.NumKinds'. -/
def numKindsUptoCard : Claim7 := { stood := { row := numKindsUptoRow, standIns := [], harness := (true, "a05bda9db9f7901b8ffab241e8bc916335d91e53508a5bc5af9b6cadcd2dddba"), looks := true }, kinds := [], alts := [], laidByText := true, laidKinds := [.data, .data, .data, .sentinel, .sentinel, .data], laidTests := true, laidLooks := .later }
def NumKindsUptoCardSaid : Prop := Claim7.holds Tryz.pinned (.plain (OpenSpec.upto numKindsSpec)) numKindsUptoCard
end Rows
end Go.Proofs.YtgjhdjmjaifdoaaGreatDoor
