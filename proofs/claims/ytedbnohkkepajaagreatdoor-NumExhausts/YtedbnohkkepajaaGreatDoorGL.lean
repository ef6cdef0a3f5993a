import Derived.Test.YtedbnohkkepajaaGreatDoorGE
import Derived.Test.YtedbnohkkepajaaGreatDoorRXW
namespace Go.Proofs.YtedbnohkkepajaaGreatDoor
noncomputable section
open Go Go.RX
open Go.RowKit (Below)
set_option maxRecDepth 1000000
set_option maxHeartbeats 4000000

noncomputable def cLaw : Code := (Tryz.f3.body).getD .skip
noncomputable def bLaw : Code := (loopBody cLaw).getD .skip
theorem body3 : Tryz.f3.body = some cLaw := by kernel_rfl
theorem loop3 : loopBody cLaw = some bLaw := by kernel_rfl
def exX (lo : Int) : IE := .bin .add .i64 (.lit lo) (.cv .i64 (.var 8))
def opE : IE := .bin .rem .i64 (.cv .i64 (.var 9)) (.lit 20)
def opI (i : Nat) : Int := ((6 + i : Nat) : Int)
def rkI (kind : Int) (i : Nat) : Int := if i = 15 then 1 else if 16 ≤ i then 0 else kind
def knownI (kind lo hi : Int) (i : Nat) : List (Nat × SVal) := [(0, .sym (.int .u8 (.var 9))), (1, .sym (.int .u8 (.var 8))), (7, .v (.int .i64 (opI i))), (8, .v (.int .i64 kind)), (9, .v (.int .i64 lo)), (10, .v (.int .i64 hi)), (11, .sym (.int .i64 (.var 3)))]
def psI : List Nat := [0, 1, 7, 8, 9, 10, 11]
def TI (kind lo : Int) (i : Nat) (told : Bool) : List SEntry := [
  (6, [.v (.int .i64 kind), .sym (.int .i64 (exX lo))], .agg [.v (.int .i64 kind), .sym (.int .u64 (.var 0))]),
  (6, [.v (.int .i64 kind), .sym (.int .i64 (.var 3))], .agg [.v (.int .i64 kind), .sym (.int .u64 (.var 1))]),
  (5, [.v (.int .i64 (opI i)), .agg [.v (.int .i64 kind), .sym (.int .u64 (.var 0))], .agg [.v (.int .i64 kind), .sym (.int .u64 (.var 1))]], .tuple [.agg [.v (.int .i64 (rkI kind i)), .sym (.int .u64 (.var 5))], .v (.int .i64 0)]),
  (7, [.v (.int .i64 (opI i)), .sym (.int .i64 (exX lo)), .sym (.int .i64 (.var 3))], .tuple [.sym (.int .i64 (.var 6)), .v (.bool told)])]
def nE (lo hi : Int) (i : Nat) : IE := if i = 12 ∨ i = 13 then .tri 3 (.tri 2 (.var 6) (.lit lo) (.lit 0)) (.lit hi) (.lit 0) else .var 6
def LI (lo hi : Int) (i : Nat) (told : Bool) : List CF := if told then [⟨.leq, .var 3, .lit hi, true⟩, ⟨.neq, .var 5, .bin .and .u64 (.cv .u64 (nE lo hi i)) (.lit 255), false⟩] else [⟨.leq, .var 3, .lit hi, true⟩]
def LX (hi : Int) : List CF := [⟨.leq, .var 3, .lit hi, false⟩]
def rhoI (op a y R N lo : Int) : Nat → Int := fun i => match i with
  | 0 => (lo + a) % 256
  | 1 => y % 256
  | 3 => y
  | 5 => R
  | 6 => N
  | 8 => a
  | 9 => op
  | _ => 0
def TA : List SEntry := [(4, [], .v (.bool true))]
def argsI (sgn : Bool) : List SVal := [.sym (.int .u8 (.var 9)), .sym (.int .u8 (.var 8)), .v (.bool sgn)]
noncomputable def frontI (ρ : Nat → Int) (aR aS : Addr) (sgn : Bool) (i : Nat) : Option Sx := @front (E ρ (knowL []) [(opE, (i : Int))]) Tryz.prog (glob aR aS) (@call (E ρ (knowL []) [(opE, (i : Int))]) Tryz.prog (glob aR aS) (tabS TA) 300 60) 300 cLaw ((argsI sgn ++ List.replicate (Tryz.f3.ntmps - (argsI sgn).length) (.v undef), []), [])
def viewS (r : Option Sx) : Option (Nat × Nat × List SVal × List Nat) := view psI (match r with | some s => some (SEx.normal, s) | none => none)
def stI (kind lo hi : Int) (i : Nat) (y : SVal) : List SVal := [.sym (.int .u8 (.var 9)), .sym (.int .u8 (.var 8)), .v (.int .i64 (opI i)), .v (.int .i64 kind), .v (.int .i64 lo), .v (.int .i64 hi), y]
noncomputable def iterI (ρ : Nat → Int) (aR aS : Addr) (kind lo hi : Int) (told : Bool) (g : Nat → Value) (i : Nat) : Option (SEx × Sx) := @runCode (E ρ (knowL (LI lo hi i told)) []) Tryz.prog (glob aR aS) (@call (E ρ (knowL (LI lo hi i told)) []) Tryz.prog (glob aR aS) (tabS (TI kind lo i told)) 300 60) 300 none bLaw ((frame 92 (knownI kind lo hi i) g, []), [])
noncomputable def exitI (ρ : Nat → Int) (aR aS : Addr) (kind lo hi : Int) (g : Nat → Value) (i : Nat) : Option (SEx × Sx) := @runCode (E ρ (knowL (LX hi)) []) Tryz.prog (glob aR aS) (@call (E ρ (knowL (LX hi)) []) Tryz.prog (glob aR aS) noO 300 60) 300 none bLaw ((frame 92 (knownI kind lo hi i) g, []), [])
noncomputable def backI (ρ : Nat → Int) (aR aS : Addr) (hi : Int) (r : Option (SEx × Sx)) : Option (Nat × Nat × List Nat × List Nat × Option (List SVal)) :=
  match r with
  | none => none
  | some (e, s) => match @back (E ρ (knowL (LX hi)) []) Tryz.prog (glob aR aS) (@call (E ρ (knowL (LX hi)) []) Tryz.prog (glob aR aS) noO 300 60) 300 cLaw e s with
    | none => none
    | some (e2, s2) => some (viewE e, viewE e2, s.2, s2.2, resE Tryz.prog (glob aR aS) s2.1.1 s2.1.2 Tryz.f3.results.toList)
def toldL : List Nat := [0, 1, 2, 3, 4, 5, 6, 12, 13, 14, 15, 10]
def notL : List Nat := [7, 8, 9, 11, 16, 17, 18, 19, 10]
end
end Go.Proofs.YtedbnohkkepajaaGreatDoor
