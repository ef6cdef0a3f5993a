/-
  NARROWER THAN 'FOR EVERY INPUT', by the rows' own cells (each row's printed sentence says how): ImageUnions: laid.
  DERIVED. THE GIVEN ROWS OF THIS SEAT. 1 by the template 'for every input the law returns true; each argument reads behind the call as it read before'; 0 by the template 'total and deterministic' (their statements: YtdmbnllekmgnhaaDoorTotals.lean).
  GIVEN WITH THE SEED: the statements are not yours to turn. If you find one false, say at which input.
  Laid BY PROGRAM, IN A SANDBOX (cutbox-rows.mjs): the forced cells as the released guide's own fill.sh prints them over the translation 225d484ce8f8b6e6… (all of the seat's roots in one cut). By AI agents, Wed Nov 11 2026. No macro, syntax, notation, axiom, sorry.
-/
import Derived.Test.YtdmbnllekmgnhaaDoorChecked
import GoSem.Claim
import GoSem.ClaimJoined
import GoSem.ClaimMapViews
import Derived.JoinedTies
import Derived.KernelRfl
namespace Go.Proofs.YtdmbnllekmgnhaaDoor
/- THE CELL 'sum', in the pinned program and in every row, IS THE sha256 OF THE DUMP (.gsa) THAT YtdmbnllekmgnhaaDoorProg.lean LOADS. Nothing in Lean hashes anything: it is a label: what it is worth is what the hold of that sum in a sandbox is worth. -/
noncomputable def Tryd.pinned : Pinned := { name := "ytdmbnllekmgnhaadoor", sum := "225d484ce8f8b6e6b9eb13808cf9d7257232fb7e56ef600b779bc6082f811e2e", checked := Tryd.checked }
namespace Rows
def none {H : Type} : Left H := { results := [], args := [] }

/- WHAT THE LISTED PACKAGE-LEVEL VARIABLES READ AS WHEN THE CALL BEGINS. Each datum BY PROGRAM (the guide's laid-datum.mjs) off the statement by which the dump's own 'gosem.cut.vars' lays the variable. In a bare row this is a premise. The card (YtdmbnllekmgnhaaDoorCards.lean) ties it to the program's text. -/
def laid_halation_num_kindTable {H : Type} : DataW H := .agg [.agg [.lit (.string [98, 111, 111, 108]), .agg [.lit (.int .i64 1), .lit (.int .i64 1), .lit (.bool false), .agg [.lit (.int .u64 0), .lit (.int .u64 1)]]], .agg [.lit (.string [117, 56]), .agg [.lit (.int .i64 2), .lit (.int .i64 8), .lit (.bool false), .agg [.lit (.int .u64 0), .lit (.int .u64 255)]]], .agg [.lit (.string [117, 49, 54]), .agg [.lit (.int .i64 2), .lit (.int .i64 16), .lit (.bool false), .agg [.lit (.int .u64 0), .lit (.int .u64 65535)]]], .agg [.lit (.string [117, 51, 50]), .agg [.lit (.int .i64 2), .lit (.int .i64 32), .lit (.bool false), .agg [.lit (.int .u64 0), .lit (.int .u64 4294967295)]]], .agg [.lit (.string [117, 54, 52]), .agg [.lit (.int .i64 2), .lit (.int .i64 64), .lit (.bool false), .agg [.lit (.int .u64 0), .lit (.int .u64 18446744073709551615)]]], .agg [.lit (.string [105, 56]), .agg [.lit (.int .i64 2), .lit (.int .i64 8), .lit (.bool true), .agg [.lit (.int .u64 128), .lit (.int .u64 127)]]], .agg [.lit (.string [105, 49, 54]), .agg [.lit (.int .i64 2), .lit (.int .i64 16), .lit (.bool true), .agg [.lit (.int .u64 32768), .lit (.int .u64 32767)]]], .agg [.lit (.string [105, 51, 50]), .agg [.lit (.int .i64 2), .lit (.int .i64 32), .lit (.bool true), .agg [.lit (.int .u64 2147483648), .lit (.int .u64 2147483647)]]], .agg [.lit (.string [105, 54, 52]), .agg [.lit (.int .i64 2), .lit (.int .i64 64), .lit (.bool true), .agg [.lit (.int .u64 9223372036854775808), .lit (.int .u64 9223372036854775807)]]], .agg [.lit (.string [102, 51, 50]), .agg [.lit (.int .i64 4), .lit (.int .i64 32), .lit (.bool false), .agg [.lit (.int .u64 4286578687), .lit (.int .u64 2139095039)]]], .agg [.lit (.string [99, 54, 52]), .agg [.lit (.int .i64 8), .lit (.int .i64 64), .lit (.bool false), .agg [.lit (.int .u64 0), .lit (.int .u64 0)]]]]

/-- 'halationlaw04.ImageUnions': WHATEVER THE INPUT: true; the input reads as it did. -/
def imageUnionsSpec : ChangeSpec := { name := "imageUnions", fn := fun _ => fun
  | [d1, d2] => { results := [.lit (.bool true)], args := [d1, d2] }
  | _ => none }
def imageUnionsRow : OpenClaim := { program := "ytdmbnllekmgnhaadoor", sum := "225d484ce8f8b6e6b9eb13808cf9d7257232fb7e56ef600b779bc6082f811e2e", func := "halation/halationlaw04.ImageUnions", spec := "imageUnions", unfollowed := true, recurses := true, named := ["halation/num.kindTable"], apart := false, laid := [("halation/num.kindTable", laid_halation_num_kindTable)] }
def ImageUnionsSaid : Prop := imageUnionsRow.holds Tryd.pinned (OpenSpec.ofChange imageUnionsSpec)

/-- ITS FALSE NEIGHBOUR: 'it returns false'. Refute it at one input. -/
def imageUnionsWrong : ChangeSpec := { name := "imageUnions", fn := fun _ => fun
  | [d1, d2] => { results := [.lit (.bool false)], args := [d1, d2] }
  | _ => none }
def ImageUnionsWrongFalsely : Prop := imageUnionsRow.holds Tryd.pinned (OpenSpec.ofChange imageUnionsWrong)

/- THE SECOND FORM. 'bulk': how many values and letters a reading holds, each counted each time it is reached (what is shared counts as often as it is met; a slice's spare places count too). A statement '..UptoSaid' is the law's where the arguments, and the package variables that the reading takes, are together of bulk at most 1048576: NARROWER than '..Said'. Prove '..Said' where nothing that the law and all that it calls make is longer than what came in: it says more and counts as full. Else prove '..UptoSaid'. A law counts once. -/
mutual
def uptoBulk {H : Type} : DataW H → Nat
  | .lit (.string bytes) => bytes.length + 1
  | .lit _ => 1
  | .nil => 1
  | .ptr d => uptoBulk d + 1
  | .slice elems spare => uptoBulkAll elems + uptoBulkAll spare + 1
  | .agg parts => uptoBulkAll parts + 1
  | .iface _ d => uptoBulk d + 1
  | .map entries => uptoBulkEntries entries + 1
  | .held _ => 1
def uptoBulkAll {H : Type} : List (DataW H) → Nat
  | [] => 0
  | d :: r => uptoBulk d + uptoBulkAll r
def uptoBulkEntries {H : Type} : List (Lit × DataW H) → Nat
  | [] => 0
  | x :: r => uptoBulkEntry x + uptoBulkEntries r
def uptoBulkEntry {H : Type} : Lit × DataW H → Nat
  | (.string bytes, d) => bytes.length + uptoBulk d + 1
  | (_, d) => uptoBulk d + 1
 end
def uptoSmall : (H : Type) → List (DataW H) → Bool := fun _ ds => decide (uptoBulkAll ds ≤ 1048576)
def OpenSpec.upto (s : _root_.Go.ChangeSpec) : _root_.Go.OpenSpec := { _root_.Go.OpenSpec.ofChange s with cond := some uptoSmall }

/-- 'halationlaw04.ImageUnions', WHERE WHAT IT READS IS OF BULK AT MOST 1048576: true; the input reads as it did. -/
def imageUnionsUptoRow : OpenClaim := { program := "ytdmbnllekmgnhaadoor", sum := "225d484ce8f8b6e6b9eb13808cf9d7257232fb7e56ef600b779bc6082f811e2e", func := "halation/halationlaw04.ImageUnions", spec := "imageUnions", unfollowed := true, recurses := true, named := ["halation/num.kindTable"], apart := false, laid := [("halation/num.kindTable", laid_halation_num_kindTable)], narrowed := true }
def ImageUnionsUptoSaid : Prop := imageUnionsUptoRow.holds Tryd.pinned (OpenSpec.upto imageUnionsSpec)

end Rows
end Go.Proofs.YtdmbnllekmgnhaaDoor
