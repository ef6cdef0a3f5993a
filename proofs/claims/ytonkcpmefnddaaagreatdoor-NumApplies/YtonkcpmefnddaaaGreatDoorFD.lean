import Derived.Test.YtonkcpmefnddaaaGreatDoorFC
namespace Go.Proofs.YtonkcpmefnddaaaGreatDoor
noncomputable section
open Go Go.RX
open Go.RowKit (Below)
set_option maxRecDepth 1000000
set_option maxHeartbeats 4000000

/-! ### The bits of a float -/
noncomputable def cBt : Code := (Tryz.f148.body).getD .skip
noncomputable def b1Bt : Code := (loopBody cBt).getD .skip
noncomputable def b2Bt : Code := (loopBody2 cBt).getD .skip
theorem body_Bt : Tryz.f148.body = some cBt := by kernel_rfl
theorem loop1_Bt : loopBody cBt = some b1Bt := by kernel_rfl
theorem loop2_Bt : loopBody2 cBt = some b2Bt := by kernel_rfl

def zeroF : SVal := .v (.float .f32 0)
noncomputable def T0B (neg : Bool) : List XE := (kBin .lss, [.sym (.nm 0), zeroF], .v (.bool neg)) :: if neg then [(kBin .sub, [zeroF, .sym (.nm 0)], .sym (.nm 1))] else []
def xB (neg : Bool) : SVal := if neg then .sym (.nm 1) else .sym (.nm 0)
def sgB (neg : Bool) : Int := if neg then 2147483648 else 0
def psB : List Nat := [0, 3, 4]
def viewB (r : Option Sx) : Option (Nat × Nat × List SVal × List Nat) := view psB (match r with | some s => some (SEx.normal, s) | none => none)
def argB : List SVal := [.sym (.nm 0)]
noncomputable def frontB (W : Nat → Nat) (ρ : Nat → Int) (aR aS : Addr) (neg : Bool) : Option Sx := @front (E W c0 ρ [] (T0B neg)) Tryz.prog (glob aR aS) (@call (E W c0 ρ [] (T0B neg)) Tryz.prog (glob aR aS) noO 300 60) 300 cBt ((argB ++ List.replicate (44 - 1) (.v undef), []), [])
theorem frontB_ok (W : Nat → Nat) (ρ : Nat → Int) (aR aS : Addr) : [true, false].map (fun n => viewB (frontB W ρ aR aS n)) = [true, false].map fun n => some (0, 44, [xB n, .v (.int .u64 (sgB n)), .v (.int .u64 150)], []) := by kernel_rfl

def knownB : List (Nat × SVal) := [(0, .sym (.nm 1)), (3, .sym (.int .u64 (.var 3))), (4, .sym (.int .u64 (.var 1)))]
noncomputable def T1B (r : Bool) : List XE := (kBin .geq, [.sym (.nm 1), .v (.float .f32 1266679808)], .v (.bool r)) :: if r then [(kBin .quo, [.sym (.nm 1), two32], .sym (.nm 2))] else []
/-- lt: less than 2 ^ 23; m: the exponent is above 1. -/
def L2B (m : Bool) : List CF := [⟨.gtr, .var 1, .lit 1, m⟩]
noncomputable def T2B (lt m : Bool) : List XE := (kBin .lss, [.sym (.nm 1), .v (.float .f32 1258291200)], .v (.bool lt)) :: (kBin .neq, [.sym (.nm 1), zeroF], .v (.bool true)) :: if lt && m then [(kBin .mul, [.sym (.nm 1), two32], .sym (.nm 2))] else [(kToI Tryz.prog .u64, [.sym (.nm 1)], .sym (.int .u64 (.var 5)))]
def L3B (m sm : Bool) : List CF := [⟨.gtr, .var 1, .lit 1, m⟩, ⟨.lss, .var 5, .lit 8388608, sm⟩]
noncomputable def iter1B (W : Nat → Nat) (ρ : Nat → Int) (aR aS : Addr) (r : Bool) (g : Nat → Value) : Option (SEx × Sx) := @runCode (E W c0 ρ [] (T1B r)) Tryz.prog (glob aR aS) (@call (E W c0 ρ [] (T1B r)) Tryz.prog (glob aR aS) noO 300 60) 300 none b1Bt ((frame 44 knownB g, []), [])
theorem iter1B_ok (W : Nat → Nat) (ρ : Nat → Int) (aR aS : Addr) (g : Nat → Value) : view psB (iter1B W ρ aR aS true g) = some (0, 44, [.sym (.nm 2), .sym (.int .u64 (.var 3)), .sym (.int .u64 (.bin .add .u64 (.var 1) (.lit 1)))], []) := by kernel_rfl
noncomputable def mid1B (W : Nat → Nat) (ρ : Nat → Int) (aR aS : Addr) (r : Option (SEx × Sx)) : Option (Nat × Nat × List Nat × Option (Nat × Nat × List SVal × List Nat)) :=
  match r with
  | none => none
  | some (e, s) => some (viewE e, s.1.1.length, s.2, viewB (@nxt (E W c0 ρ [] (T1B false)) Tryz.prog (glob aR aS) (@call (E W c0 ρ [] (T1B false)) Tryz.prog (glob aR aS) noO 300 60) 300 cBt e s))
theorem exit1B_ok (W : Nat → Nat) (ρ : Nat → Int) (aR aS : Addr) (g : Nat → Value) : mid1B W ρ aR aS (iter1B W ρ aR aS false g) = some (2, 44, [], some (0, 44, [.sym (.nm 1), .sym (.int .u64 (.var 3)), .sym (.int .u64 (.var 1))], [])) := by kernel_rfl
noncomputable def iter2B (W : Nat → Nat) (ρ : Nat → Int) (aR aS : Addr) (g : Nat → Value) : Option (SEx × Sx) := @runCode (E W c0 ρ (L2B true) (T2B true true)) Tryz.prog (glob aR aS) (@call (E W c0 ρ (L2B true) (T2B true true)) Tryz.prog (glob aR aS) noO 300 60) 300 none b2Bt ((frame 44 knownB g, []), [])
theorem iter2B_ok (W : Nat → Nat) (ρ : Nat → Int) (aR aS : Addr) (g : Nat → Value) : view psB (iter2B W ρ aR aS g) = some (0, 44, [.sym (.nm 2), .sym (.int .u64 (.var 3)), .sym (.int .u64 (.bin .sub .u64 (.var 1) (.lit 1)))], []) := by kernel_rfl
noncomputable def exit2B (W : Nat → Nat) (ρ : Nat → Int) (aR aS : Addr) (p : Bool × Bool × Bool) (g : Nat → Value) : Option (SEx × Sx) := @runCode (E W c0 ρ (L3B p.2.1 p.2.2) (T2B p.1 p.2.1)) Tryz.prog (glob aR aS) (@call (E W c0 ρ (L3B p.2.1 p.2.2) (T2B p.1 p.2.1)) Tryz.prog (glob aR aS) noO 300 60) 300 none b2Bt ((frame 44 knownB g, []), [])
noncomputable def end2B (W : Nat → Nat) (ρ : Nat → Int) (aR aS : Addr) (p : Bool × Bool × Bool) (r : Option (SEx × Sx)) : Option (Nat × List Nat × Option (Nat × List Nat × Option (List SVal))) :=
  match r with
  | none => none
  | some (e, s) => some (viewE e, s.2, match @back2 (E W c0 ρ (L3B p.2.1 p.2.2) (T2B p.1 p.2.1)) Tryz.prog (glob aR aS) (@call (E W c0 ρ (L3B p.2.1 p.2.2) (T2B p.1 p.2.1)) Tryz.prog (glob aR aS) noO 300 60) 300 cBt e s with
    | none => none
    | some (e2, s2) => some (viewE e2, s2.2, resE Tryz.prog (glob aR aS) s2.1.1 s2.1.2 Tryz.f148.results.toList))
/-- How the second loop ends: the exponent is 1, or the number is not less than 2 ^ 23; then whether the integer is below 2 ^ 23. -/
def endsB : List (Bool × Bool × Bool) := [(true, false, true), (true, false, false), (false, true, true), (false, true, false), (false, false, true), (false, false, false)]
def resB (sm : Bool) : IE := if sm then .bin .add .u64 (.var 3) (.var 5) else .bin .sub .u64 (.bin .add .u64 (.bin .add .u64 (.var 3) (.bin .mul .u64 (.var 1) (.lit 8388608))) (.var 5)) (.lit 8388608)
theorem exit2B_ok (W : Nat → Nat) (ρ : Nat → Int) (aR aS : Addr) (g : Nat → Value) : endsB.map (fun p => end2B W ρ aR aS p (exit2B W ρ aR aS p g)) = endsB.map fun p => some (4, [], some (1, [], some [.sym (.int .u64 (resB p.2.2))])) := by kernel_rfl
end
end Go.Proofs.YtonkcpmefnddaaaGreatDoor
