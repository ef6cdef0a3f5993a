import Derived.Test.YtonkcpmefnddaaaGreatDoorFA
namespace Go.Proofs.YtonkcpmefnddaaaGreatDoor
noncomputable section
open Go Go.RX
open Go.RowKit (Below)
set_option maxRecDepth 1000000
set_option maxHeartbeats 4000000

/-! ### The float of bits -/
noncomputable def cFl : Code := (Tryz.f95.body).getD .skip
noncomputable def b1Fl : Code := (loopBody cFl).getD .skip
noncomputable def b2Fl : Code := (loopBody2 cFl).getD .skip
theorem body_Fl : Tryz.f95.body = some cFl := by kernel_rfl
theorem loop1_Fl : loopBody cFl = some b1Fl := by kernel_rfl
theorem loop2_Fl : loopBody2 cFl = some b2Fl := by kernel_rfl
theorem tmps_Fl : Tryz.f95.ntmps = 34 := by kernel_rfl

def exE : IE := .bin .rem .u64 (.bin .quo .u64 (.var 0) (.lit 8388608)) (.lit 256)
def mnE : IE := .bin .rem .u64 (.var 0) (.lit 8388608)
def two32 : SVal := .v (.float .f32 1073741824)
def mF (nrm : Bool) : IE := if nrm then .bin .add .u64 mnE (.lit 8388608) else mnE
def eF (nrm : Bool) : SVal := if nrm then .sym (.int .u64 exE) else .v (.int .u64 1)
def L0F (nrm : Bool) : List CF := [⟨.gtr, exE, .lit 0, nrm⟩]
noncomputable def T0F (nrm : Bool) : List XE := [(kToF Tryz.prog, [.sym (.int .u64 (mF nrm))], .sym (.nm 1))]
def argF : List SVal := [.sym (.int .u64 (.var 0))]
def psF : List Nat := [0, 4, 5]
def viewF (r : Option Sx) : Option (Nat × Nat × List SVal × List Nat) := view psF (match r with | some s => some (SEx.normal, s) | none => none)
noncomputable def front0 (W : Nat → Nat) (ρ : Nat → Int) (aR aS : Addr) (nrm : Bool) : Option Sx := @front (E W c0 ρ (L0F nrm) (T0F nrm)) Tryz.prog (glob aR aS) (@call (E W c0 ρ (L0F nrm) (T0F nrm)) Tryz.prog (glob aR aS) noO 300 60) 300 cFl ((argF ++ List.replicate (34 - 1) (.v undef), []), [])
theorem front0_ok (W : Nat → Nat) (ρ : Nat → Int) (aR aS : Addr) : [true, false].map (fun n => viewF (front0 W ρ aR aS n)) = [true, false].map fun n => some (0, 34, [.sym (.int .u64 (.var 0)), eF n, .sym (.nm 1)], []) := by kernel_rfl

def knownF : List (Nat × SVal) := [(0, .sym (.int .u64 (.var 0))), (4, .sym (.int .u64 (.var 1))), (5, .sym (.nm 1))]
def L1F (r : Bool) : List CF := [⟨.gtr, .var 1, .lit 150, r⟩]
def L2F (r : Bool) : List CF := [⟨.lss, .var 1, .lit 150, r⟩]
def L3F (r : Bool) : List CF := [⟨.lss, .var 1, .lit 150, false⟩, ⟨.geq, .var 0, .lit 2147483648, r⟩]
def T1F : List XE := [(kBin .mul, [.sym (.nm 1), two32], .sym (.nm 2))]
def T2F : List XE := [(kBin .quo, [.sym (.nm 1), two32], .sym (.nm 2))]
def T3F (r : Bool) : List XE := if r then [(kBin .sub, [.v (.float .f32 0), .sym (.nm 1)], .sym (.nm 2))] else []
noncomputable def iter1F (W : Nat → Nat) (ρ : Nat → Int) (aR aS : Addr) (r : Bool) (g : Nat → Value) : Option (SEx × Sx) := @runCode (E W c0 ρ (L1F r) T1F) Tryz.prog (glob aR aS) (@call (E W c0 ρ (L1F r) T1F) Tryz.prog (glob aR aS) noO 300 60) 300 none b1Fl ((frame 34 knownF g, []), [])
noncomputable def iter2F (W : Nat → Nat) (ρ : Nat → Int) (aR aS : Addr) (g : Nat → Value) : Option (SEx × Sx) := @runCode (E W c0 ρ (L2F true) T2F) Tryz.prog (glob aR aS) (@call (E W c0 ρ (L2F true) T2F) Tryz.prog (glob aR aS) noO 300 60) 300 none b2Fl ((frame 34 knownF g, []), [])
noncomputable def exit2F (W : Nat → Nat) (ρ : Nat → Int) (aR aS : Addr) (r : Bool) (g : Nat → Value) : Option (SEx × Sx) := @runCode (E W c0 ρ (L3F r) (T3F r)) Tryz.prog (glob aR aS) (@call (E W c0 ρ (L3F r) (T3F r)) Tryz.prog (glob aR aS) noO 300 60) 300 none b2Fl ((frame 34 knownF g, []), [])
theorem iter1F_ok (W : Nat → Nat) (ρ : Nat → Int) (aR aS : Addr) (g : Nat → Value) : view psF (iter1F W ρ aR aS true g) = some (0, 34, [.sym (.int .u64 (.var 0)), .sym (.int .u64 (.bin .sub .u64 (.var 1) (.lit 1))), .sym (.nm 2)], []) := by kernel_rfl
theorem iter2F_ok (W : Nat → Nat) (ρ : Nat → Int) (aR aS : Addr) (g : Nat → Value) : view psF (iter2F W ρ aR aS g) = some (0, 34, [.sym (.int .u64 (.var 0)), .sym (.int .u64 (.bin .add .u64 (.var 1) (.lit 1))), .sym (.nm 2)], []) := by kernel_rfl
/-- From the first loop's end to the second loop. -/
noncomputable def mid1F (W : Nat → Nat) (ρ : Nat → Int) (aR aS : Addr) (r : Option (SEx × Sx)) : Option (Nat × Nat × List Nat × Option (Nat × Nat × List SVal × List Nat)) :=
  match r with
  | none => none
  | some (e, s) => some (viewE e, s.1.1.length, s.2, viewF (@nxt (E W c0 ρ (L1F false) T1F) Tryz.prog (glob aR aS) (@call (E W c0 ρ (L1F false) T1F) Tryz.prog (glob aR aS) noO 300 60) 300 cFl e s))
theorem exit1F_ok (W : Nat → Nat) (ρ : Nat → Int) (aR aS : Addr) (g : Nat → Value) : mid1F W ρ aR aS (iter1F W ρ aR aS false g) = some (2, 34, [], some (0, 34, [.sym (.int .u64 (.var 0)), .sym (.int .u64 (.var 1)), .sym (.nm 1)], [])) := by kernel_rfl
noncomputable def end2F (W : Nat → Nat) (ρ : Nat → Int) (aR aS : Addr) (b : Bool) (r : Option (SEx × Sx)) : Option (Nat × List Nat × Option (Nat × List Nat × Option (List SVal))) :=
  match r with
  | none => none
  | some (e, s) => some (viewE e, s.2, match @back2 (E W c0 ρ (L3F b) (T3F b)) Tryz.prog (glob aR aS) (@call (E W c0 ρ (L3F b) (T3F b)) Tryz.prog (glob aR aS) noO 300 60) 300 cFl e s with
    | none => none
    | some (e2, s2) => some (viewE e2, s2.2, resE Tryz.prog (glob aR aS) s2.1.1 s2.1.2 Tryz.f95.results.toList))
theorem exit2F_ok (W : Nat → Nat) (ρ : Nat → Int) (aR aS : Addr) (g : Nat → Value) : [true, false].map (fun b => end2F W ρ aR aS b (exit2F W ρ aR aS b g)) = [some (4, [], some (1, [], some [.sym (.nm 2)])), some (4, [], some (1, [], some [.sym (.nm 1)]))] := by kernel_rfl
end
end Go.Proofs.YtonkcpmefnddaaaGreatDoor
