/-
  DERIVED. GIVEN WITH THE SEED: THE CARDS: each row of YtbjldpbngnnghaaGreatDoorRows.lean that lists a variable, with what it lists TIED to the program's text (the seventh form; the later family's looks); each row that meets fmt, with fmt's text TOLD by the authors' own Lean function (tested against real Go, not proved from fmt's source: count such statements apart). THE CARD IS WHAT COUNTS. Prove the row's statement (the work); the ties are given (YtbjldpbngnnghaaGreatDoorTie.lean); close each card by the builder's one call (the guide's Derived/Test/ToyasCard.lean, 'card_holds'). Laid BY PROGRAM, IN A SANDBOX (cutbox-door.mjs). By AI agents, Wed Nov 11 2026. No macro, syntax, notation, axiom, sorry.
-/
import Derived.Test.YtbjldpbngnnghaaGreatDoorRows
import GoSem.ClaimSeven
namespace Go.Proofs.YtbjldpbngnnghaaGreatDoor
namespace Rows

/-- THE TIED CARD OF 'halationlaw01.NumKinds'. -/
def numKindsCard : Claim7 := { stood := { row := numKindsRow, standIns := [], harness := (true, "9b731c7888b8cf5218d4b2adbd858b13ca9c03d2d6950294edbf9543917210d2"), looks := true }, kinds := [], alts := [], laidByText := true, laidKinds := [.data, .data, .data, .sentinel, .sentinel, .data], laidTests := true, laidLooks := .later }
def NumKindsCardSaid : Prop := Claim7.holds Tryz.pinned (.plain (OpenSpec.ofChange numKindsSpec)) numKindsCard

/-- THE TIED CARD OF 'halationlaw01.NumValues'. -/
def numValuesCard : Claim7 := { stood := { row := numValuesRow, standIns := [], harness := (true, "9b731c7888b8cf5218d4b2adbd858b13ca9c03d2d6950294edbf9543917210d2"), looks := true }, kinds := [], alts := [], laidByText := true, laidKinds := [.data, .data, .data, .sentinel, .sentinel, .data], laidTests := true, laidLooks := .later }
def NumValuesCardSaid : Prop := Claim7.holds Tryz.pinned (.plain (OpenSpec.ofChange numValuesSpec)) numValuesCard

/-- THE TIED CARD OF 'halationlaw01.NumApplies'. -/
def numAppliesCard : Claim7 := { stood := { row := numAppliesRow, standIns := [], harness := (true, "9b731c7888b8cf5218d4b2adbd858b13ca9c03d2d6950294edbf9543917210d2"), looks := true }, kinds := [], alts := [], laidByText := true, laidKinds := [.data, .data, .data, .sentinel, .sentinel, .data], laidTests := true, laidLooks := .later }
def NumAppliesCardSaid : Prop := Claim7.holds Tryz.pinned (.plain (OpenSpec.ofChange numAppliesSpec)) numAppliesCard

/-- THE TIED CARD OF 'halationlaw01.NumCasts'. -/
def numCastsCard : Claim7 := { stood := { row := numCastsRow, standIns := [], harness := (true, "9b731c7888b8cf5218d4b2adbd858b13ca9c03d2d6950294edbf9543917210d2"), looks := true }, kinds := [], alts := [], laidByText := true, laidKinds := [.data, .data, .data, .sentinel, .sentinel, .data], laidTests := true, laidLooks := .later }
def NumCastsCardSaid : Prop := Claim7.holds Tryz.pinned (.plain (OpenSpec.ofChange numCastsSpec)) numCastsCard

/-- THE TIED CARD OF 'halationlaw01.NumFloats'. -/
def numFloatsCard : Claim7 := { stood := { row := numFloatsRow, standIns := [], harness := (true, "9b731c7888b8cf5218d4b2adbd858b13ca9c03d2d6950294edbf9543917210d2"), looks := true }, kinds := [], alts := [], laidByText := true, laidKinds := [.data, .data, .data, .sentinel, .sentinel, .data], laidTests := true, laidLooks := .later }
def NumFloatsCardSaid : Prop := Claim7.holds Tryz.pinned (.plain (OpenSpec.ofChange numFloatsSpec)) numFloatsCard

/-- THE TIED CARD OF 'halationlaw01.NumStrings'. -/
def numStringsCard : Claim7 := { stood := { row := numStringsRow, standIns := [], harness := (true, "9b731c7888b8cf5218d4b2adbd858b13ca9c03d2d6950294edbf9543917210d2"), looks := true }, kinds := [], alts := [], laidByText := true, laidKinds := [.data, .data, .data, .sentinel, .sentinel, .data], laidTests := true, laidLooks := .later }
def NumStringsCardSaid : Prop := Claim7.holds Tryz.pinned (.plain (OpenSpec.ofChange numStringsSpec)) numStringsCard

/-- THE TIED CARD OF 'halationlaw01.NumExhausts'. -/
def numExhaustsCard : Claim7 := { stood := { row := numExhaustsRow, standIns := [], harness := (true, "9b731c7888b8cf5218d4b2adbd858b13ca9c03d2d6950294edbf9543917210d2"), looks := true }, kinds := [], alts := [], laidByText := true, laidKinds := [.data, .data, .data, .sentinel, .sentinel, .data], laidTests := true, laidLooks := .later }
def NumExhaustsCardSaid : Prop := Claim7.holds Tryz.pinned (.plain (OpenSpec.ofChange numExhaustsSpec)) numExhaustsCard

/-- THE TIED CARD OF 'halationlaw01.NumSettles'. -/
def numSettlesCard : Claim7 := { stood := { row := numSettlesRow, standIns := [], harness := (true, "9b731c7888b8cf5218d4b2adbd858b13ca9c03d2d6950294edbf9543917210d2"), looks := true }, kinds := [], alts := [], laidByText := true, laidKinds := [.data, .data, .data, .sentinel, .sentinel, .data], laidTests := true, laidLooks := .later }
def NumSettlesCardSaid : Prop := Claim7.holds Tryz.pinned (.plain (OpenSpec.ofChange numSettlesSpec)) numSettlesCard

/-- THE TIED CARD OF 'halationlaw02.ExprChecks'. -/
def exprChecksCard : Claim7 := { stood := { row := exprChecksRow, standIns := [], harness := (true, "9b731c7888b8cf5218d4b2adbd858b13ca9c03d2d6950294edbf9543917210d2"), looks := true }, kinds := [], alts := [], laidByText := true, laidKinds := [.data], laidTests := true, laidLooks := .later }
def ExprChecksCardSaid : Prop := Claim7.holds Tryz.pinned (.plain (OpenSpec.ofChange exprChecksSpec)) exprChecksCard

/-- THE TIED CARD OF 'halationlaw02.ExprParts'. -/
def exprPartsCard : Claim7 := { stood := { row := exprPartsRow, standIns := [], harness := (true, "9b731c7888b8cf5218d4b2adbd858b13ca9c03d2d6950294edbf9543917210d2"), looks := true }, kinds := [], alts := [], laidByText := true, laidKinds := [.data], laidTests := true, laidLooks := .later }
def ExprPartsCardSaid : Prop := Claim7.holds Tryz.pinned (.plain (OpenSpec.ofChange exprPartsSpec)) exprPartsCard

/-- THE TIED CARD OF 'halationlaw02.ExprNames'. -/
def exprNamesCard : Claim7 := { stood := { row := exprNamesRow, standIns := [], harness := (true, "9b731c7888b8cf5218d4b2adbd858b13ca9c03d2d6950294edbf9543917210d2"), looks := true }, kinds := [], alts := [], laidByText := true, laidKinds := [.data], laidTests := true, laidLooks := .later }
def ExprNamesCardSaid : Prop := Claim7.holds Tryz.pinned (.plain (OpenSpec.ofChange exprNamesSpec)) exprNamesCard

/-- THE TIED CARD OF 'halationlaw02.ExprBuilds'. -/
def exprBuildsCard : Claim7 := { stood := { row := exprBuildsRow, standIns := [], harness := (true, "9b731c7888b8cf5218d4b2adbd858b13ca9c03d2d6950294edbf9543917210d2"), looks := true }, kinds := [], alts := [], laidByText := true, laidKinds := [.data], laidTests := true, laidLooks := .later }
def ExprBuildsCardSaid : Prop := Claim7.holds Tryz.pinned (.plain (OpenSpec.ofChange exprBuildsSpec)) exprBuildsCard

/-- THE SECOND FORM's CARD OF 'halationlaw01.NumKinds'. -/
def numKindsUptoCard : Claim7 := { stood := { row := numKindsUptoRow, standIns := [], harness := (true, "9b731c7888b8cf5218d4b2adbd858b13ca9c03d2d6950294edbf9543917210d2"), looks := true }, kinds := [], alts := [], laidByText := true, laidKinds := [.data, .data, .data, .sentinel, .sentinel, .data], laidTests := true, laidLooks := .later }
def NumKindsUptoCardSaid : Prop := Claim7.holds Tryz.pinned (.plain (OpenSpec.upto numKindsSpec)) numKindsUptoCard

/-- THE SECOND FORM's CARD OF 'halationlaw01.NumValues'. -/
def numValuesUptoCard : Claim7 := { stood := { row := numValuesUptoRow, standIns := [], harness := (true, "9b731c7888b8cf5218d4b2adbd858b13ca9c03d2d6950294edbf9543917210d2"), looks := true }, kinds := [], alts := [], laidByText := true, laidKinds := [.data, .data, .data, .sentinel, .sentinel, .data], laidTests := true, laidLooks := .later }
def NumValuesUptoCardSaid : Prop := Claim7.holds Tryz.pinned (.plain (OpenSpec.upto numValuesSpec)) numValuesUptoCard

/-- THE SECOND FORM's CARD OF 'halationlaw01.NumApplies'. -/
def numAppliesUptoCard : Claim7 := { stood := { row := numAppliesUptoRow, standIns := [], harness := (true, "9b731c7888b8cf5218d4b2adbd858b13ca9c03d2d6950294edbf9543917210d2"), looks := true }, kinds := [], alts := [], laidByText := true, laidKinds := [.data, .data, .data, .sentinel, .sentinel, .data], laidTests := true, laidLooks := .later }
def NumAppliesUptoCardSaid : Prop := Claim7.holds Tryz.pinned (.plain (OpenSpec.upto numAppliesSpec)) numAppliesUptoCard

/-- THE SECOND FORM's CARD OF 'halationlaw01.NumCasts'. -/
def numCastsUptoCard : Claim7 := { stood := { row := numCastsUptoRow, standIns := [], harness := (true, "9b731c7888b8cf5218d4b2adbd858b13ca9c03d2d6950294edbf9543917210d2"), looks := true }, kinds := [], alts := [], laidByText := true, laidKinds := [.data, .data, .data, .sentinel, .sentinel, .data], laidTests := true, laidLooks := .later }
def NumCastsUptoCardSaid : Prop := Claim7.holds Tryz.pinned (.plain (OpenSpec.upto numCastsSpec)) numCastsUptoCard

/-- THE SECOND FORM's CARD OF 'halationlaw01.NumFloats'. -/
def numFloatsUptoCard : Claim7 := { stood := { row := numFloatsUptoRow, standIns := [], harness := (true, "9b731c7888b8cf5218d4b2adbd858b13ca9c03d2d6950294edbf9543917210d2"), looks := true }, kinds := [], alts := [], laidByText := true, laidKinds := [.data, .data, .data, .sentinel, .sentinel, .data], laidTests := true, laidLooks := .later }
def NumFloatsUptoCardSaid : Prop := Claim7.holds Tryz.pinned (.plain (OpenSpec.upto numFloatsSpec)) numFloatsUptoCard

/-- THE SECOND FORM's CARD OF 'halationlaw01.NumStrings'. -/
def numStringsUptoCard : Claim7 := { stood := { row := numStringsUptoRow, standIns := [], harness := (true, "9b731c7888b8cf5218d4b2adbd858b13ca9c03d2d6950294edbf9543917210d2"), looks := true }, kinds := [], alts := [], laidByText := true, laidKinds := [.data, .data, .data, .sentinel, .sentinel, .data], laidTests := true, laidLooks := .later }
def NumStringsUptoCardSaid : Prop := Claim7.holds Tryz.pinned (.plain (OpenSpec.upto numStringsSpec)) numStringsUptoCard

/-- THE SECOND FORM's CARD OF 'halationlaw01.NumExhausts'. -/
def numExhaustsUptoCard : Claim7 := { stood := { row := numExhaustsUptoRow, standIns := [], harness := (true, "9b731c7888b8cf5218d4b2adbd858b13ca9c03d2d6950294edbf9543917210d2"), looks := true }, kinds := [], alts := [], laidByText := true, laidKinds := [.data, .data, .data, .sentinel, .sentinel, .data], laidTests := true, laidLooks := .later }
def NumExhaustsUptoCardSaid : Prop := Claim7.holds Tryz.pinned (.plain (OpenSpec.upto numExhaustsSpec)) numExhaustsUptoCard

/-- THE SECOND FORM's CARD OF 'halationlaw01.NumSettles'. -/
def numSettlesUptoCard : Claim7 := { stood := { row := numSettlesUptoRow, standIns := [], harness := (true, "9b731c7888b8cf5218d4b2adbd858b13ca9c03d2d6950294edbf9543917210d2"), looks := true }, kinds := [], alts := [], laidByText := true, laidKinds := [.data, .data, .data, .sentinel, .sentinel, .data], laidTests := true, laidLooks := .later }
def NumSettlesUptoCardSaid : Prop := Claim7.holds Tryz.pinned (.plain (OpenSpec.upto numSettlesSpec)) numSettlesUptoCard

/-- THE SECOND FORM's CARD OF 'halationlaw02.ExprChecks'. -/
def exprChecksUptoCard : Claim7 := { stood := { row := exprChecksUptoRow, standIns := [], harness := (true, "9b731c7888b8cf5218d4b2adbd858b13ca9c03d2d6950294edbf9543917210d2"), looks := true }, kinds := [], alts := [], laidByText := true, laidKinds := [.data], laidTests := true, laidLooks := .later }
def ExprChecksUptoCardSaid : Prop := Claim7.holds Tryz.pinned (.plain (OpenSpec.upto exprChecksSpec)) exprChecksUptoCard

/-- THE SECOND FORM's CARD OF 'halationlaw02.ExprParts'. -/
def exprPartsUptoCard : Claim7 := { stood := { row := exprPartsUptoRow, standIns := [], harness := (true, "9b731c7888b8cf5218d4b2adbd858b13ca9c03d2d6950294edbf9543917210d2"), looks := true }, kinds := [], alts := [], laidByText := true, laidKinds := [.data], laidTests := true, laidLooks := .later }
def ExprPartsUptoCardSaid : Prop := Claim7.holds Tryz.pinned (.plain (OpenSpec.upto exprPartsSpec)) exprPartsUptoCard

/-- THE SECOND FORM's CARD OF 'halationlaw02.ExprNames'. -/
def exprNamesUptoCard : Claim7 := { stood := { row := exprNamesUptoRow, standIns := [], harness := (true, "9b731c7888b8cf5218d4b2adbd858b13ca9c03d2d6950294edbf9543917210d2"), looks := true }, kinds := [], alts := [], laidByText := true, laidKinds := [.data], laidTests := true, laidLooks := .later }
def ExprNamesUptoCardSaid : Prop := Claim7.holds Tryz.pinned (.plain (OpenSpec.upto exprNamesSpec)) exprNamesUptoCard

/-- THE SECOND FORM's CARD OF 'halationlaw02.ExprBuilds'. -/
def exprBuildsUptoCard : Claim7 := { stood := { row := exprBuildsUptoRow, standIns := [], harness := (true, "9b731c7888b8cf5218d4b2adbd858b13ca9c03d2d6950294edbf9543917210d2"), looks := true }, kinds := [], alts := [], laidByText := true, laidKinds := [.data], laidTests := true, laidLooks := .later }
def ExprBuildsUptoCardSaid : Prop := Claim7.holds Tryz.pinned (.plain (OpenSpec.upto exprBuildsSpec)) exprBuildsUptoCard
end Rows
end Go.Proofs.YtbjldpbngnnghaaGreatDoor
