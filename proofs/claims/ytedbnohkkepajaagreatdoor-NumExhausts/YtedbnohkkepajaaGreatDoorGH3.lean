import Derived.Test.YtedbnohkkepajaaGreatDoorGE
namespace Go.Proofs.YtedbnohkkepajaaGreatDoor
noncomputable section
open Go Go.RX
open Go.RowKit (Below)
set_option maxRecDepth 1000000
set_option maxHeartbeats 4000000
def L_5_10_0 : List CF := [⟨.eql, (.sh .shr .u64 (.var 0) (.lit 8)), (.lit 0), true⟩,
  ⟨.eql, (.sh .shr .u64 (.var 1) (.lit 8)), (.lit 0), true⟩,
  ⟨.eql, (.cv .u64 (.sh .shr .i64 (.sh .shr .i64 (.cv .i64 (.sh .shl .u64 (.var 1) (.lit 56))) (.lit 56)) (.lit 63))), (.lit 0), true⟩,
  ⟨.eql, (.cv .u64 (.sh .shr .i64 (.cv .i64 (.sh .shl .u64 (.var 1) (.lit 56))) (.lit 56))), (.lit 0), true⟩,
  ⟨.eql, (.var 3), (.lit 0), true⟩]
def J_5_10_0 : List SEntry := [(5, [.v (.int .i64 10), .agg [.v (.int .i64 5), .sym (.int .u64 (.var 0))], .agg [.v (.int .i64 5), .sym (.int .u64 (.var 1))]], .v (.tuple #[.agg #[.int .i64 5, .int .u64 0], .int .i64 0])),
  (7, [.v (.int .i64 10), .sym (.int .i64 (.var 2)), .sym (.int .i64 (.var 3))], .v (.tuple #[.int .i64 0, .bool true]))]
theorem run_5_10_0 (ρ : Nat → Int) (aR aS : Addr) : J_5_10_0.map (fun e => (@call (E ρ (knowL L_5_10_0) []) Tryz.prog (glob aR aS) noO 300 60 (.fn e.1) e.2.1 []).map fun r => nrm r.1) = J_5_10_0.map fun e => some e.2.2 := by kernel_rfl
def L_5_10_1 : List CF := [⟨.eql, (.sh .shr .u64 (.var 0) (.lit 8)), (.lit 0), true⟩,
  ⟨.eql, (.sh .shr .u64 (.var 1) (.lit 8)), (.lit 0), true⟩,
  ⟨.eql, (.cv .u64 (.sh .shr .i64 (.sh .shr .i64 (.cv .i64 (.sh .shl .u64 (.var 1) (.lit 56))) (.lit 56)) (.lit 63))), (.lit 0), true⟩,
  ⟨.eql, (.cv .u64 (.sh .shr .i64 (.cv .i64 (.sh .shl .u64 (.var 1) (.lit 56))) (.lit 56))), (.lit 0), false⟩,
  ⟨.lss, (.cv .i64 (.cv .u64 (.sh .shr .i64 (.sh .shr .i64 (.cv .i64 (.sh .shl .u64 (.var 1) (.lit 56))) (.lit 56)) (.lit 63)))), (.lit 0), false⟩,
  ⟨.lss, (.cv .i64 (.cv .u64 (.sh .shr .i64 (.sh .shr .i64 (.cv .i64 (.sh .shl .u64 (.var 0) (.lit 56))) (.lit 56)) (.lit 63)))), (.lit 0), true⟩,
  ⟨.neq, (.cv .u64 (.sh .shr .i64 (.cv .i64 (.sh .shl .u64 (.var 1) (.lit 56))) (.lit 56))), (.lit 0), true⟩,
  ⟨.neq, (.bin .rem .u64 (.bin .sub .u64 (.lit 0) (.cv .u64 (.sh .shr .i64 (.cv .i64 (.sh .shl .u64 (.var 0) (.lit 56))) (.lit 56)))) (.cv .u64 (.sh .shr .i64 (.cv .i64 (.sh .shl .u64 (.var 1) (.lit 56))) (.lit 56)))), (.lit 0), true⟩,
  ⟨.geq, (.tri 1 (.lit 0) (.bin .add .u64 (.bin .quo .u64 (.bin .sub .u64 (.lit 0) (.cv .u64 (.sh .shr .i64 (.cv .i64 (.sh .shl .u64 (.var 0) (.lit 56))) (.lit 56)))) (.cv .u64 (.sh .shr .i64 (.cv .i64 (.sh .shl .u64 (.var 1) (.lit 56))) (.lit 56)))) (.lit 1)) (.lit 0)), (.lit 0), true⟩,
  ⟨.leq, (.tri 1 (.lit 0) (.bin .add .u64 (.bin .quo .u64 (.bin .sub .u64 (.lit 0) (.cv .u64 (.sh .shr .i64 (.cv .i64 (.sh .shl .u64 (.var 0) (.lit 56))) (.lit 56)))) (.cv .u64 (.sh .shr .i64 (.cv .i64 (.sh .shl .u64 (.var 1) (.lit 56))) (.lit 56)))) (.lit 1)) (.lit 0)), (.lit 1), true⟩,
  ⟨.eql, (.var 3), (.lit 0), false⟩,
  ⟨.neq, (.tri 2 (.var 3) (.bin .sub .i64 (.lit 0) (.var 3)) (.lit 0)), (.lit 0), true⟩,
  ⟨.lss, (.bin .rem .i64 (.var 2) (.tri 2 (.var 3) (.bin .sub .i64 (.lit 0) (.var 3)) (.lit 0))), (.lit 0), true⟩]
def J_5_10_1 : List SEntry := [(5, [.v (.int .i64 10), .agg [.v (.int .i64 5), .sym (.int .u64 (.var 0))], .agg [.v (.int .i64 5), .sym (.int .u64 (.var 1))]], .tuple [.agg [.v (.int .i64 5), .sym (.int .u64 (.sh .shr .u64 (.sh .shl .u64 (.bin .sub .u64 (.cv .u64 (.sh .shr .i64 (.cv .i64 (.sh .shl .u64 (.var 1) (.lit 56))) (.lit 56))) (.bin .rem .u64 (.bin .sub .u64 (.lit 0) (.cv .u64 (.sh .shr .i64 (.cv .i64 (.sh .shl .u64 (.var 0) (.lit 56))) (.lit 56)))) (.cv .u64 (.sh .shr .i64 (.cv .i64 (.sh .shl .u64 (.var 1) (.lit 56))) (.lit 56))))) (.lit 56)) (.lit 56)))], .v (.int .i64 0)]),
  (7, [.v (.int .i64 10), .sym (.int .i64 (.var 2)), .sym (.int .i64 (.var 3))], .tuple [.sym (.int .i64 (.bin .sub .i64 (.var 2) (.bin .mul .i64 (.bin .sub .i64 (.bin .quo .i64 (.var 2) (.tri 2 (.var 3) (.bin .sub .i64 (.lit 0) (.var 3)) (.lit 0))) (.lit 1)) (.tri 2 (.var 3) (.bin .sub .i64 (.lit 0) (.var 3)) (.lit 0))))), .v (.bool true)])]
theorem run_5_10_1 (ρ : Nat → Int) (aR aS : Addr) : J_5_10_1.map (fun e => (@call (E ρ (knowL L_5_10_1) []) Tryz.prog (glob aR aS) noO 300 60 (.fn e.1) e.2.1 []).map fun r => nrm r.1) = J_5_10_1.map fun e => some e.2.2 := by kernel_rfl
def L_5_10_2 : List CF := [⟨.eql, (.sh .shr .u64 (.var 0) (.lit 8)), (.lit 0), true⟩,
  ⟨.eql, (.sh .shr .u64 (.var 1) (.lit 8)), (.lit 0), true⟩,
  ⟨.eql, (.cv .u64 (.sh .shr .i64 (.sh .shr .i64 (.cv .i64 (.sh .shl .u64 (.var 1) (.lit 56))) (.lit 56)) (.lit 63))), (.lit 0), false⟩,
  ⟨.lss, (.cv .i64 (.cv .u64 (.sh .shr .i64 (.sh .shr .i64 (.cv .i64 (.sh .shl .u64 (.var 1) (.lit 56))) (.lit 56)) (.lit 63)))), (.lit 0), true⟩,
  ⟨.lss, (.cv .i64 (.cv .u64 (.sh .shr .i64 (.sh .shr .i64 (.cv .i64 (.sh .shl .u64 (.var 0) (.lit 56))) (.lit 56)) (.lit 63)))), (.lit 0), false⟩,
  ⟨.neq, (.bin .sub .u64 (.lit 0) (.cv .u64 (.sh .shr .i64 (.cv .i64 (.sh .shl .u64 (.var 1) (.lit 56))) (.lit 56)))), (.lit 0), true⟩,
  ⟨.geq, (.tri 1 (.lit 0) (.bin .quo .u64 (.cv .u64 (.sh .shr .i64 (.cv .i64 (.sh .shl .u64 (.var 0) (.lit 56))) (.lit 56))) (.bin .sub .u64 (.lit 0) (.cv .u64 (.sh .shr .i64 (.cv .i64 (.sh .shl .u64 (.var 1) (.lit 56))) (.lit 56))))) (.lit 0)), (.lit 0), true⟩,
  ⟨.leq, (.tri 1 (.lit 0) (.bin .quo .u64 (.cv .u64 (.sh .shr .i64 (.cv .i64 (.sh .shl .u64 (.var 0) (.lit 56))) (.lit 56))) (.bin .sub .u64 (.lit 0) (.cv .u64 (.sh .shr .i64 (.cv .i64 (.sh .shl .u64 (.var 1) (.lit 56))) (.lit 56))))) (.lit 0)), (.lit 1), true⟩,
  ⟨.eql, (.var 3), (.lit 0), false⟩,
  ⟨.neq, (.tri 2 (.var 3) (.bin .sub .i64 (.lit 0) (.var 3)) (.lit 0)), (.lit 0), true⟩,
  ⟨.lss, (.bin .rem .i64 (.var 2) (.tri 2 (.var 3) (.bin .sub .i64 (.lit 0) (.var 3)) (.lit 0))), (.lit 0), false⟩]
def J_5_10_2 : List SEntry := [(5, [.v (.int .i64 10), .agg [.v (.int .i64 5), .sym (.int .u64 (.var 0))], .agg [.v (.int .i64 5), .sym (.int .u64 (.var 1))]], .tuple [.agg [.v (.int .i64 5), .sym (.int .u64 (.sh .shr .u64 (.sh .shl .u64 (.bin .rem .u64 (.cv .u64 (.sh .shr .i64 (.cv .i64 (.sh .shl .u64 (.var 0) (.lit 56))) (.lit 56))) (.bin .sub .u64 (.lit 0) (.cv .u64 (.sh .shr .i64 (.cv .i64 (.sh .shl .u64 (.var 1) (.lit 56))) (.lit 56))))) (.lit 56)) (.lit 56)))], .v (.int .i64 0)]),
  (7, [.v (.int .i64 10), .sym (.int .i64 (.var 2)), .sym (.int .i64 (.var 3))], .tuple [.sym (.int .i64 (.bin .sub .i64 (.var 2) (.bin .mul .i64 (.bin .quo .i64 (.var 2) (.tri 2 (.var 3) (.bin .sub .i64 (.lit 0) (.var 3)) (.lit 0))) (.tri 2 (.var 3) (.bin .sub .i64 (.lit 0) (.var 3)) (.lit 0))))), .v (.bool true)])]
theorem run_5_10_2 (ρ : Nat → Int) (aR aS : Addr) : J_5_10_2.map (fun e => (@call (E ρ (knowL L_5_10_2) []) Tryz.prog (glob aR aS) noO 300 60 (.fn e.1) e.2.1 []).map fun r => nrm r.1) = J_5_10_2.map fun e => some e.2.2 := by kernel_rfl
def L_5_10_3 : List CF := [⟨.eql, (.sh .shr .u64 (.var 0) (.lit 8)), (.lit 0), true⟩,
  ⟨.eql, (.sh .shr .u64 (.var 1) (.lit 8)), (.lit 0), true⟩,
  ⟨.eql, (.cv .u64 (.sh .shr .i64 (.sh .shr .i64 (.cv .i64 (.sh .shl .u64 (.var 1) (.lit 56))) (.lit 56)) (.lit 63))), (.lit 0), true⟩,
  ⟨.eql, (.cv .u64 (.sh .shr .i64 (.cv .i64 (.sh .shl .u64 (.var 1) (.lit 56))) (.lit 56))), (.lit 0), false⟩,
  ⟨.lss, (.cv .i64 (.cv .u64 (.sh .shr .i64 (.sh .shr .i64 (.cv .i64 (.sh .shl .u64 (.var 1) (.lit 56))) (.lit 56)) (.lit 63)))), (.lit 0), false⟩,
  ⟨.lss, (.cv .i64 (.cv .u64 (.sh .shr .i64 (.sh .shr .i64 (.cv .i64 (.sh .shl .u64 (.var 0) (.lit 56))) (.lit 56)) (.lit 63)))), (.lit 0), false⟩,
  ⟨.neq, (.cv .u64 (.sh .shr .i64 (.cv .i64 (.sh .shl .u64 (.var 1) (.lit 56))) (.lit 56))), (.lit 0), true⟩,
  ⟨.eql, (.var 3), (.lit 0), false⟩,
  ⟨.neq, (.tri 2 (.var 3) (.bin .sub .i64 (.lit 0) (.var 3)) (.lit 0)), (.lit 0), true⟩,
  ⟨.lss, (.bin .rem .i64 (.var 2) (.tri 2 (.var 3) (.bin .sub .i64 (.lit 0) (.var 3)) (.lit 0))), (.lit 0), false⟩]
def J_5_10_3 : List SEntry := [(5, [.v (.int .i64 10), .agg [.v (.int .i64 5), .sym (.int .u64 (.var 0))], .agg [.v (.int .i64 5), .sym (.int .u64 (.var 1))]], .tuple [.agg [.v (.int .i64 5), .sym (.int .u64 (.sh .shr .u64 (.sh .shl .u64 (.bin .rem .u64 (.cv .u64 (.sh .shr .i64 (.cv .i64 (.sh .shl .u64 (.var 0) (.lit 56))) (.lit 56))) (.cv .u64 (.sh .shr .i64 (.cv .i64 (.sh .shl .u64 (.var 1) (.lit 56))) (.lit 56)))) (.lit 56)) (.lit 56)))], .v (.int .i64 0)]),
  (7, [.v (.int .i64 10), .sym (.int .i64 (.var 2)), .sym (.int .i64 (.var 3))], .tuple [.sym (.int .i64 (.bin .sub .i64 (.var 2) (.bin .mul .i64 (.bin .quo .i64 (.var 2) (.tri 2 (.var 3) (.bin .sub .i64 (.lit 0) (.var 3)) (.lit 0))) (.tri 2 (.var 3) (.bin .sub .i64 (.lit 0) (.var 3)) (.lit 0))))), .v (.bool true)])]
theorem run_5_10_3 (ρ : Nat → Int) (aR aS : Addr) : J_5_10_3.map (fun e => (@call (E ρ (knowL L_5_10_3) []) Tryz.prog (glob aR aS) noO 300 60 (.fn e.1) e.2.1 []).map fun r => nrm r.1) = J_5_10_3.map fun e => some e.2.2 := by kernel_rfl
def L_5_10_4 : List CF := [⟨.eql, (.sh .shr .u64 (.var 0) (.lit 8)), (.lit 0), true⟩,
  ⟨.eql, (.sh .shr .u64 (.var 1) (.lit 8)), (.lit 0), true⟩,
  ⟨.eql, (.cv .u64 (.sh .shr .i64 (.sh .shr .i64 (.cv .i64 (.sh .shl .u64 (.var 1) (.lit 56))) (.lit 56)) (.lit 63))), (.lit 0), false⟩,
  ⟨.lss, (.cv .i64 (.cv .u64 (.sh .shr .i64 (.sh .shr .i64 (.cv .i64 (.sh .shl .u64 (.var 1) (.lit 56))) (.lit 56)) (.lit 63)))), (.lit 0), true⟩,
  ⟨.lss, (.cv .i64 (.cv .u64 (.sh .shr .i64 (.sh .shr .i64 (.cv .i64 (.sh .shl .u64 (.var 0) (.lit 56))) (.lit 56)) (.lit 63)))), (.lit 0), true⟩,
  ⟨.neq, (.bin .sub .u64 (.lit 0) (.cv .u64 (.sh .shr .i64 (.cv .i64 (.sh .shl .u64 (.var 1) (.lit 56))) (.lit 56)))), (.lit 0), true⟩,
  ⟨.neq, (.bin .rem .u64 (.bin .sub .u64 (.lit 0) (.cv .u64 (.sh .shr .i64 (.cv .i64 (.sh .shl .u64 (.var 0) (.lit 56))) (.lit 56)))) (.bin .sub .u64 (.lit 0) (.cv .u64 (.sh .shr .i64 (.cv .i64 (.sh .shl .u64 (.var 1) (.lit 56))) (.lit 56))))), (.lit 0), false⟩,
  ⟨.eql, (.var 3), (.lit 0), false⟩,
  ⟨.neq, (.tri 2 (.var 3) (.bin .sub .i64 (.lit 0) (.var 3)) (.lit 0)), (.lit 0), true⟩,
  ⟨.lss, (.bin .rem .i64 (.var 2) (.tri 2 (.var 3) (.bin .sub .i64 (.lit 0) (.var 3)) (.lit 0))), (.lit 0), false⟩]
def J_5_10_4 : List SEntry := [(5, [.v (.int .i64 10), .agg [.v (.int .i64 5), .sym (.int .u64 (.var 0))], .agg [.v (.int .i64 5), .sym (.int .u64 (.var 1))]], .tuple [.agg [.v (.int .i64 5), .sym (.int .u64 (.sh .shr .u64 (.sh .shl .u64 (.bin .rem .u64 (.bin .sub .u64 (.lit 0) (.cv .u64 (.sh .shr .i64 (.cv .i64 (.sh .shl .u64 (.var 0) (.lit 56))) (.lit 56)))) (.bin .sub .u64 (.lit 0) (.cv .u64 (.sh .shr .i64 (.cv .i64 (.sh .shl .u64 (.var 1) (.lit 56))) (.lit 56))))) (.lit 56)) (.lit 56)))], .v (.int .i64 0)]),
  (7, [.v (.int .i64 10), .sym (.int .i64 (.var 2)), .sym (.int .i64 (.var 3))], .tuple [.sym (.int .i64 (.bin .sub .i64 (.var 2) (.bin .mul .i64 (.bin .quo .i64 (.var 2) (.tri 2 (.var 3) (.bin .sub .i64 (.lit 0) (.var 3)) (.lit 0))) (.tri 2 (.var 3) (.bin .sub .i64 (.lit 0) (.var 3)) (.lit 0))))), .v (.bool true)])]
theorem run_5_10_4 (ρ : Nat → Int) (aR aS : Addr) : J_5_10_4.map (fun e => (@call (E ρ (knowL L_5_10_4) []) Tryz.prog (glob aR aS) noO 300 60 (.fn e.1) e.2.1 []).map fun r => nrm r.1) = J_5_10_4.map fun e => some e.2.2 := by kernel_rfl
def L_5_10_5 : List CF := [⟨.eql, (.sh .shr .u64 (.var 0) (.lit 8)), (.lit 0), true⟩,
  ⟨.eql, (.sh .shr .u64 (.var 1) (.lit 8)), (.lit 0), true⟩,
  ⟨.eql, (.cv .u64 (.sh .shr .i64 (.sh .shr .i64 (.cv .i64 (.sh .shl .u64 (.var 1) (.lit 56))) (.lit 56)) (.lit 63))), (.lit 0), false⟩,
  ⟨.lss, (.cv .i64 (.cv .u64 (.sh .shr .i64 (.sh .shr .i64 (.cv .i64 (.sh .shl .u64 (.var 1) (.lit 56))) (.lit 56)) (.lit 63)))), (.lit 0), true⟩,
  ⟨.lss, (.cv .i64 (.cv .u64 (.sh .shr .i64 (.sh .shr .i64 (.cv .i64 (.sh .shl .u64 (.var 0) (.lit 56))) (.lit 56)) (.lit 63)))), (.lit 0), true⟩,
  ⟨.neq, (.bin .sub .u64 (.lit 0) (.cv .u64 (.sh .shr .i64 (.cv .i64 (.sh .shl .u64 (.var 1) (.lit 56))) (.lit 56)))), (.lit 0), true⟩,
  ⟨.neq, (.bin .rem .u64 (.bin .sub .u64 (.lit 0) (.cv .u64 (.sh .shr .i64 (.cv .i64 (.sh .shl .u64 (.var 0) (.lit 56))) (.lit 56)))) (.bin .sub .u64 (.lit 0) (.cv .u64 (.sh .shr .i64 (.cv .i64 (.sh .shl .u64 (.var 1) (.lit 56))) (.lit 56))))), (.lit 0), true⟩,
  ⟨.eql, (.var 3), (.lit 0), false⟩,
  ⟨.neq, (.tri 2 (.var 3) (.bin .sub .i64 (.lit 0) (.var 3)) (.lit 0)), (.lit 0), true⟩,
  ⟨.lss, (.bin .rem .i64 (.var 2) (.tri 2 (.var 3) (.bin .sub .i64 (.lit 0) (.var 3)) (.lit 0))), (.lit 0), true⟩]
def J_5_10_5 : List SEntry := [(5, [.v (.int .i64 10), .agg [.v (.int .i64 5), .sym (.int .u64 (.var 0))], .agg [.v (.int .i64 5), .sym (.int .u64 (.var 1))]], .tuple [.agg [.v (.int .i64 5), .sym (.int .u64 (.sh .shr .u64 (.sh .shl .u64 (.bin .sub .u64 (.bin .sub .u64 (.lit 0) (.cv .u64 (.sh .shr .i64 (.cv .i64 (.sh .shl .u64 (.var 1) (.lit 56))) (.lit 56)))) (.bin .rem .u64 (.bin .sub .u64 (.lit 0) (.cv .u64 (.sh .shr .i64 (.cv .i64 (.sh .shl .u64 (.var 0) (.lit 56))) (.lit 56)))) (.bin .sub .u64 (.lit 0) (.cv .u64 (.sh .shr .i64 (.cv .i64 (.sh .shl .u64 (.var 1) (.lit 56))) (.lit 56)))))) (.lit 56)) (.lit 56)))], .v (.int .i64 0)]),
  (7, [.v (.int .i64 10), .sym (.int .i64 (.var 2)), .sym (.int .i64 (.var 3))], .tuple [.sym (.int .i64 (.bin .sub .i64 (.var 2) (.bin .mul .i64 (.bin .sub .i64 (.bin .quo .i64 (.var 2) (.tri 2 (.var 3) (.bin .sub .i64 (.lit 0) (.var 3)) (.lit 0))) (.lit 1)) (.tri 2 (.var 3) (.bin .sub .i64 (.lit 0) (.var 3)) (.lit 0))))), .v (.bool true)])]
theorem run_5_10_5 (ρ : Nat → Int) (aR aS : Addr) : J_5_10_5.map (fun e => (@call (E ρ (knowL L_5_10_5) []) Tryz.prog (glob aR aS) noO 300 60 (.fn e.1) e.2.1 []).map fun r => nrm r.1) = J_5_10_5.map fun e => some e.2.2 := by kernel_rfl
def L_5_10_6 : List CF := [⟨.eql, (.sh .shr .u64 (.var 0) (.lit 8)), (.lit 0), true⟩,
  ⟨.eql, (.sh .shr .u64 (.var 1) (.lit 8)), (.lit 0), true⟩,
  ⟨.eql, (.cv .u64 (.sh .shr .i64 (.sh .shr .i64 (.cv .i64 (.sh .shl .u64 (.var 1) (.lit 56))) (.lit 56)) (.lit 63))), (.lit 0), true⟩,
  ⟨.eql, (.cv .u64 (.sh .shr .i64 (.cv .i64 (.sh .shl .u64 (.var 1) (.lit 56))) (.lit 56))), (.lit 0), false⟩,
  ⟨.lss, (.cv .i64 (.cv .u64 (.sh .shr .i64 (.sh .shr .i64 (.cv .i64 (.sh .shl .u64 (.var 1) (.lit 56))) (.lit 56)) (.lit 63)))), (.lit 0), false⟩,
  ⟨.lss, (.cv .i64 (.cv .u64 (.sh .shr .i64 (.sh .shr .i64 (.cv .i64 (.sh .shl .u64 (.var 0) (.lit 56))) (.lit 56)) (.lit 63)))), (.lit 0), true⟩,
  ⟨.neq, (.cv .u64 (.sh .shr .i64 (.cv .i64 (.sh .shl .u64 (.var 1) (.lit 56))) (.lit 56))), (.lit 0), true⟩,
  ⟨.neq, (.bin .rem .u64 (.bin .sub .u64 (.lit 0) (.cv .u64 (.sh .shr .i64 (.cv .i64 (.sh .shl .u64 (.var 0) (.lit 56))) (.lit 56)))) (.cv .u64 (.sh .shr .i64 (.cv .i64 (.sh .shl .u64 (.var 1) (.lit 56))) (.lit 56)))), (.lit 0), false⟩,
  ⟨.geq, (.tri 1 (.lit 0) (.bin .quo .u64 (.bin .sub .u64 (.lit 0) (.cv .u64 (.sh .shr .i64 (.cv .i64 (.sh .shl .u64 (.var 0) (.lit 56))) (.lit 56)))) (.cv .u64 (.sh .shr .i64 (.cv .i64 (.sh .shl .u64 (.var 1) (.lit 56))) (.lit 56)))) (.lit 0)), (.lit 0), true⟩,
  ⟨.leq, (.tri 1 (.lit 0) (.bin .quo .u64 (.bin .sub .u64 (.lit 0) (.cv .u64 (.sh .shr .i64 (.cv .i64 (.sh .shl .u64 (.var 0) (.lit 56))) (.lit 56)))) (.cv .u64 (.sh .shr .i64 (.cv .i64 (.sh .shl .u64 (.var 1) (.lit 56))) (.lit 56)))) (.lit 0)), (.lit 1), true⟩,
  ⟨.eql, (.var 3), (.lit 0), false⟩,
  ⟨.neq, (.tri 2 (.var 3) (.bin .sub .i64 (.lit 0) (.var 3)) (.lit 0)), (.lit 0), true⟩,
  ⟨.lss, (.bin .rem .i64 (.var 2) (.tri 2 (.var 3) (.bin .sub .i64 (.lit 0) (.var 3)) (.lit 0))), (.lit 0), false⟩]
def J_5_10_6 : List SEntry := [(5, [.v (.int .i64 10), .agg [.v (.int .i64 5), .sym (.int .u64 (.var 0))], .agg [.v (.int .i64 5), .sym (.int .u64 (.var 1))]], .tuple [.agg [.v (.int .i64 5), .sym (.int .u64 (.sh .shr .u64 (.sh .shl .u64 (.bin .rem .u64 (.bin .sub .u64 (.lit 0) (.cv .u64 (.sh .shr .i64 (.cv .i64 (.sh .shl .u64 (.var 0) (.lit 56))) (.lit 56)))) (.cv .u64 (.sh .shr .i64 (.cv .i64 (.sh .shl .u64 (.var 1) (.lit 56))) (.lit 56)))) (.lit 56)) (.lit 56)))], .v (.int .i64 0)]),
  (7, [.v (.int .i64 10), .sym (.int .i64 (.var 2)), .sym (.int .i64 (.var 3))], .tuple [.sym (.int .i64 (.bin .sub .i64 (.var 2) (.bin .mul .i64 (.bin .quo .i64 (.var 2) (.tri 2 (.var 3) (.bin .sub .i64 (.lit 0) (.var 3)) (.lit 0))) (.tri 2 (.var 3) (.bin .sub .i64 (.lit 0) (.var 3)) (.lit 0))))), .v (.bool true)])]
theorem run_5_10_6 (ρ : Nat → Int) (aR aS : Addr) : J_5_10_6.map (fun e => (@call (E ρ (knowL L_5_10_6) []) Tryz.prog (glob aR aS) noO 300 60 (.fn e.1) e.2.1 []).map fun r => nrm r.1) = J_5_10_6.map fun e => some e.2.2 := by kernel_rfl
theorem good_5_10 (aR aS : Addr) (x y : Int) (hx0 : (-128) ≤ x) (hx1 : x ≤ 127) (hy0 : (-128) ≤ y) (hy1 : y ≤ 127) : Good aR aS 10 5 5 (-128) 127 x y := by
  have hx : x < 0 ∨ 0 ≤ x := by omega
  rcases hx with hx | hx
  · have hy : y < 0 ∨ y = 0 ∨ 0 < y := by omega
    rcases hy with hy | hy | hy
    · have a0 := eix_n x y (by omega) (by omega)
      have a1 := eHx_n x y (by omega) (by omega)
      have a2 := ehx_n x y (by omega) (by omega)
      have a3 := eNx_n x y (by omega) (by omega)
      have a4 := eSx_n x y (by omega) (by omega)
      have a5 := esx_n x y (by omega) (by omega)
      have a6 := eVx_n x y (by omega) (by omega)
      have a7 := eiy_n x y (by omega) (by omega)
      have a8 := eHy_n x y (by omega) (by omega)
      have a9 := ehy_n x y (by omega) (by omega)
      have a10 := eNy_n x y (by omega) (by omega)
      have a11 := eSy_n x y (by omega) (by omega)
      have a12 := esy_n x y (by omega) (by omega)
      have a13 := eVy_n x y (by omega) (by omega)
      have hq0 : 0 ≤ (-x) / (-y) := Int.ediv_nonneg (by omega) (by omega)
      have hq1 : (-x) / (-y) ≤ (-x) := Int.ediv_le_self _ (by omega)
      have hr0 : 0 ≤ (-x) % (-y) := Int.emod_nonneg _ (by omega)
      have hr1 : (-x) % (-y) < (-y) := Int.emod_lt_of_pos _ (by omega)
      have hM : max y (-y) = (-y) := by omega
      have m1 : (-x) / (-y) * (-y) = (-x) - (-x) % (-y) := divmul _ _
      have m2 : -((-x) / (-y)) * (-y) = -((-x) - (-x) % (-y)) := by rw [Int.neg_mul, m1]
      have m3 : (-((-x) / (-y)) - 1) * (-y) = -((-x) - (-x) % (-y)) - (-y) := by rw [Int.sub_mul, m2, Int.one_mul]
      by_cases c2 : IE.ev (rho (x % 256) (y % 256) x y) (.cv .u64 (.sh .shr .i64 (.sh .shr .i64 (.cv .i64 (.sh .shl .u64 (.var 1) (.lit 56))) (.lit 56)) (.lit 63))) = IE.ev (rho (x % 256) (y % 256) x y) (.lit 0)
      · exact absurd c2 (by (simp (disch := omega) only [↓a8, IE.ev] <;> try simp only [wrap_i64, wrap_u64]) <;> omega)
      · have c2' := c2
        try (simp (disch := omega) only [↓a8, IE.ev] at c2' <;> try simp only [wrap_i64, wrap_u64] at c2')
        by_cases c4 : IE.ev (rho (x % 256) (y % 256) x y) (.cv .i64 (.cv .u64 (.sh .shr .i64 (.sh .shr .i64 (.cv .i64 (.sh .shl .u64 (.var 0) (.lit 56))) (.lit 56)) (.lit 63)))) < IE.ev (rho (x % 256) (y % 256) x y) (.lit 0)
        · have c4' := c4
          try (simp (disch := omega) only [↓a0, IE.ev] at c4' <;> try simp only [wrap_i64, wrap_u64] at c4')
          by_cases c6 : IE.ev (rho (x % 256) (y % 256) x y) (.bin .rem .u64 (.bin .sub .u64 (.lit 0) (.cv .u64 (.sh .shr .i64 (.cv .i64 (.sh .shl .u64 (.var 0) (.lit 56))) (.lit 56)))) (.bin .sub .u64 (.lit 0) (.cv .u64 (.sh .shr .i64 (.cv .i64 (.sh .shl .u64 (.var 1) (.lit 56))) (.lit 56))))) ≠ IE.ev (rho (x % 256) (y % 256) x y) (.lit 0)
          · have c6' := c6
            try (simp (disch := omega) only [↓a3, ↓a10, IE.ev, rem_u64] at c6' <;> try simp only [wrap_i64, wrap_u64] at c6')
            have hL : ∀ f ∈ L_5_10_5, f.ok (rho (x % 256) (y % 256) x y) := by
              intro f hf
              simp only [L_5_10_5, List.mem_cons, List.not_mem_nil, or_false] at hf
              rcases hf with rfl | rfl | rfl | rfl | rfl | rfl | rfl | rfl | rfl | rfl
              · exact ⟨rfl, cmp_eql_t (by (simp (disch := omega) only [↓a6, IE.ev, shr_u64_8] <;> try simp only [wrap_i64, wrap_u64]) <;> omega)⟩
              · exact ⟨rfl, cmp_eql_t (by (simp (disch := omega) only [↓a13, IE.ev, shr_u64_8] <;> try simp only [wrap_i64, wrap_u64]) <;> omega)⟩
              · exact ⟨rfl, cmp_eql_n c2⟩
              · exact ⟨rfl, cmp_lss_t (by (simp (disch := omega) only [↓a7, IE.ev] <;> try simp only [wrap_i64, wrap_u64]) <;> omega)⟩
              · exact ⟨rfl, cmp_lss_t c4⟩
              · exact ⟨rfl, cmp_neq_t (by (simp (disch := omega) only [↓a10, IE.ev] <;> try simp only [wrap_i64, wrap_u64]) <;> omega)⟩
              · exact ⟨rfl, cmp_neq_t c6⟩
              · exact ⟨rfl, cmp_eql_f (by (simp (disch := omega) only [IE.ev, rho_3] <;> try simp only [wrap_i64, wrap_u64]) <;> omega)⟩
              · exact ⟨rfl, cmp_neq_t (by (simp (disch := omega) only [IE.ev, rho_3, ev_sub, tri2, Int.zero_sub, hM, wrapi_id] <;> try simp only [wrap_i64, wrap_u64]) <;> omega)⟩
              · exact ⟨rfl, cmp_lss_t (by (simp (disch := omega) only [IE.ev, rho_2, rho_3, ev_sub, tri2, ri_n, Int.zero_sub, hM, wrapi_id] <;> try simp only [wrap_i64, wrap_u64]) <;> omega)⟩
            have ht : toldI 10 y = true := by simp [toldI]
            refine ⟨(IE.ev (rho (x % 256) (y % 256) x y) (.sh .shr .u64 (.sh .shl .u64 (.bin .sub .u64 (.bin .sub .u64 (.lit 0) (.cv .u64 (.sh .shr .i64 (.cv .i64 (.sh .shl .u64 (.var 1) (.lit 56))) (.lit 56)))) (.bin .rem .u64 (.bin .sub .u64 (.lit 0) (.cv .u64 (.sh .shr .i64 (.cv .i64 (.sh .shl .u64 (.var 0) (.lit 56))) (.lit 56)))) (.bin .sub .u64 (.lit 0) (.cv .u64 (.sh .shr .i64 (.cv .i64 (.sh .shl .u64 (.var 1) (.lit 56))) (.lit 56)))))) (.lit 56)) (.lit 56))), (IE.ev (rho (x % 256) (y % 256) x y) (.bin .sub .i64 (.var 2) (.bin .mul .i64 (.bin .sub .i64 (.bin .quo .i64 (.var 2) (.tri 2 (.var 3) (.bin .sub .i64 (.lit 0) (.var 3)) (.lit 0))) (.lit 1)) (.tri 2 (.var 3) (.bin .sub .i64 (.lit 0) (.var 3)) (.lit 0))))), fun w hG => ⟨calls_sym hL (run_5_10_5 _ aR aS) List.mem_cons_self rfl rfl rfl rfl hG, ?_⟩, ?_⟩
            · rw [ht]
              exact calls_sym hL (run_5_10_5 _ aR aS) (List.mem_cons_of_mem _ List.mem_cons_self) rfl rfl rfl rfl hG
            · intro _
              clear hL
              unfold clampI
              rw [if_neg (by decide)]
              (simp (disch := omega) only [↓a3, ↓a10, IE.ev, rho_2, rho_3, shl_u64_56, shr_u64_56, ev_sub, ev_mul, rem_u64, tri2, qi_n, Int.zero_sub, hM, m3, wrapi_id, wrapu_id] <;> try simp only [wrap_i64, wrap_u64])
              all_goals omega
          · have c6' := c6
            try (simp (disch := omega) only [↓a3, ↓a10, IE.ev, rem_u64] at c6' <;> try simp only [wrap_i64, wrap_u64] at c6')
            have hL : ∀ f ∈ L_5_10_4, f.ok (rho (x % 256) (y % 256) x y) := by
              intro f hf
              simp only [L_5_10_4, List.mem_cons, List.not_mem_nil, or_false] at hf
              rcases hf with rfl | rfl | rfl | rfl | rfl | rfl | rfl | rfl | rfl | rfl
              · exact ⟨rfl, cmp_eql_t (by (simp (disch := omega) only [↓a6, IE.ev, shr_u64_8] <;> try simp only [wrap_i64, wrap_u64]) <;> omega)⟩
              · exact ⟨rfl, cmp_eql_t (by (simp (disch := omega) only [↓a13, IE.ev, shr_u64_8] <;> try simp only [wrap_i64, wrap_u64]) <;> omega)⟩
              · exact ⟨rfl, cmp_eql_n c2⟩
              · exact ⟨rfl, cmp_lss_t (by (simp (disch := omega) only [↓a7, IE.ev] <;> try simp only [wrap_i64, wrap_u64]) <;> omega)⟩
              · exact ⟨rfl, cmp_lss_t c4⟩
              · exact ⟨rfl, cmp_neq_t (by (simp (disch := omega) only [↓a10, IE.ev] <;> try simp only [wrap_i64, wrap_u64]) <;> omega)⟩
              · exact ⟨rfl, cmp_neq_n c6⟩
              · exact ⟨rfl, cmp_eql_f (by (simp (disch := omega) only [IE.ev, rho_3] <;> try simp only [wrap_i64, wrap_u64]) <;> omega)⟩
              · exact ⟨rfl, cmp_neq_t (by (simp (disch := omega) only [IE.ev, rho_3, ev_sub, tri2, Int.zero_sub, hM, wrapi_id] <;> try simp only [wrap_i64, wrap_u64]) <;> omega)⟩
              · exact ⟨rfl, cmp_lss_f (by (simp (disch := omega) only [IE.ev, rho_2, rho_3, ev_sub, tri2, ri_n, Int.zero_sub, hM, wrapi_id] <;> try simp only [wrap_i64, wrap_u64]) <;> omega)⟩
            have ht : toldI 10 y = true := by simp [toldI]
            refine ⟨(IE.ev (rho (x % 256) (y % 256) x y) (.sh .shr .u64 (.sh .shl .u64 (.bin .rem .u64 (.bin .sub .u64 (.lit 0) (.cv .u64 (.sh .shr .i64 (.cv .i64 (.sh .shl .u64 (.var 0) (.lit 56))) (.lit 56)))) (.bin .sub .u64 (.lit 0) (.cv .u64 (.sh .shr .i64 (.cv .i64 (.sh .shl .u64 (.var 1) (.lit 56))) (.lit 56))))) (.lit 56)) (.lit 56))), (IE.ev (rho (x % 256) (y % 256) x y) (.bin .sub .i64 (.var 2) (.bin .mul .i64 (.bin .quo .i64 (.var 2) (.tri 2 (.var 3) (.bin .sub .i64 (.lit 0) (.var 3)) (.lit 0))) (.tri 2 (.var 3) (.bin .sub .i64 (.lit 0) (.var 3)) (.lit 0))))), fun w hG => ⟨calls_sym hL (run_5_10_4 _ aR aS) List.mem_cons_self rfl rfl rfl rfl hG, ?_⟩, ?_⟩
            · rw [ht]
              exact calls_sym hL (run_5_10_4 _ aR aS) (List.mem_cons_of_mem _ List.mem_cons_self) rfl rfl rfl rfl hG
            · intro _
              clear hL
              unfold clampI
              rw [if_neg (by decide)]
              (simp (disch := omega) only [↓a3, ↓a10, IE.ev, rho_2, rho_3, shl_u64_56, shr_u64_56, ev_sub, ev_mul, rem_u64, tri2, qi_n, Int.zero_sub, hM, m2, wrapi_id, wrapu_id] <;> try simp only [wrap_i64, wrap_u64])
              all_goals omega
        · exact absurd (by (simp (disch := omega) only [↓a0, IE.ev] <;> try simp only [wrap_i64, wrap_u64]) <;> omega) c4
    · have a0 := eix_n x y (by omega) (by omega)
      have a1 := eHx_n x y (by omega) (by omega)
      have a2 := ehx_n x y (by omega) (by omega)
      have a3 := eNx_n x y (by omega) (by omega)
      have a4 := eSx_n x y (by omega) (by omega)
      have a5 := esx_n x y (by omega) (by omega)
      have a6 := eVx_n x y (by omega) (by omega)
      have a7 := eiy_p x y (by omega) (by omega)
      have a8 := eHy_p x y (by omega) (by omega)
      have a9 := ehy_p x y (by omega) (by omega)
      have a10 := eSy_p x y (by omega) (by omega)
      have a11 := esy_p x y (by omega) (by omega)
      have a12 := eVy_p x y (by omega) (by omega)
      by_cases c2 : IE.ev (rho (x % 256) (y % 256) x y) (.cv .u64 (.sh .shr .i64 (.sh .shr .i64 (.cv .i64 (.sh .shl .u64 (.var 1) (.lit 56))) (.lit 56)) (.lit 63))) = IE.ev (rho (x % 256) (y % 256) x y) (.lit 0)
      · have c2' := c2
        try (simp (disch := omega) only [↓a8, IE.ev] at c2' <;> try simp only [wrap_i64, wrap_u64] at c2')
        by_cases c3 : IE.ev (rho (x % 256) (y % 256) x y) (.cv .u64 (.sh .shr .i64 (.cv .i64 (.sh .shl .u64 (.var 1) (.lit 56))) (.lit 56))) = IE.ev (rho (x % 256) (y % 256) x y) (.lit 0)
        · have c3' := c3
          try (simp (disch := omega) only [↓a10, IE.ev] at c3' <;> try simp only [wrap_i64, wrap_u64] at c3')
          have hL : ∀ f ∈ L_5_10_0, f.ok (rho (x % 256) (y % 256) x y) := by
            intro f hf
            simp only [L_5_10_0, List.mem_cons, List.not_mem_nil, or_false] at hf
            rcases hf with rfl | rfl | rfl | rfl | rfl
            · exact ⟨rfl, cmp_eql_t (by (simp (disch := omega) only [↓a6, IE.ev, shr_u64_8] <;> try simp only [wrap_i64, wrap_u64]) <;> omega)⟩
            · exact ⟨rfl, cmp_eql_t (by (simp (disch := omega) only [↓a12, IE.ev, shr_u64_8] <;> try simp only [wrap_i64, wrap_u64]) <;> omega)⟩
            · exact ⟨rfl, cmp_eql_t c2⟩
            · exact ⟨rfl, cmp_eql_t c3⟩
            · exact ⟨rfl, cmp_eql_t (by (simp (disch := omega) only [IE.ev, rho_3] <;> try simp only [wrap_i64, wrap_u64]) <;> omega)⟩
          have ht : toldI 10 y = true := by simp [toldI]
          refine ⟨0, 0, fun w hG => ⟨calls_sym hL (run_5_10_0 _ aR aS) List.mem_cons_self rfl rfl rfl rfl hG, ?_⟩, ?_⟩
          · rw [ht]
            exact calls_sym hL (run_5_10_0 _ aR aS) (List.mem_cons_of_mem _ List.mem_cons_self) rfl rfl rfl rfl hG
          · intro _
            clear hL
            unfold clampI
            rw [if_neg (by decide)]
            all_goals omega
        · exact absurd (by (simp (disch := omega) only [↓a10, IE.ev] <;> try simp only [wrap_i64, wrap_u64]) <;> omega) c3
      · exact absurd (by (simp (disch := omega) only [↓a8, IE.ev] <;> try simp only [wrap_i64, wrap_u64]) <;> omega) c2
    · have a0 := eix_n x y (by omega) (by omega)
      have a1 := eHx_n x y (by omega) (by omega)
      have a2 := ehx_n x y (by omega) (by omega)
      have a3 := eNx_n x y (by omega) (by omega)
      have a4 := eSx_n x y (by omega) (by omega)
      have a5 := esx_n x y (by omega) (by omega)
      have a6 := eVx_n x y (by omega) (by omega)
      have a7 := eiy_p x y (by omega) (by omega)
      have a8 := eHy_p x y (by omega) (by omega)
      have a9 := ehy_p x y (by omega) (by omega)
      have a10 := eSy_p x y (by omega) (by omega)
      have a11 := esy_p x y (by omega) (by omega)
      have a12 := eVy_p x y (by omega) (by omega)
      have hq0 : 0 ≤ (-x) / y := Int.ediv_nonneg (by omega) (by omega)
      have hq1 : (-x) / y ≤ (-x) := Int.ediv_le_self _ (by omega)
      have hr0 : 0 ≤ (-x) % y := Int.emod_nonneg _ (by omega)
      have hr1 : (-x) % y < y := Int.emod_lt_of_pos _ (by omega)
      have hM : max y (-y) = y := by omega
      have m1 : (-x) / y * y = (-x) - (-x) % y := divmul _ _
      have m2 : -((-x) / y) * y = -((-x) - (-x) % y) := by rw [Int.neg_mul, m1]
      have m3 : (-((-x) / y) - 1) * y = -((-x) - (-x) % y) - y := by rw [Int.sub_mul, m2, Int.one_mul]
      by_cases c2 : IE.ev (rho (x % 256) (y % 256) x y) (.cv .u64 (.sh .shr .i64 (.sh .shr .i64 (.cv .i64 (.sh .shl .u64 (.var 1) (.lit 56))) (.lit 56)) (.lit 63))) = IE.ev (rho (x % 256) (y % 256) x y) (.lit 0)
      · have c2' := c2
        try (simp (disch := omega) only [↓a8, IE.ev] at c2' <;> try simp only [wrap_i64, wrap_u64] at c2')
        by_cases c3 : IE.ev (rho (x % 256) (y % 256) x y) (.cv .u64 (.sh .shr .i64 (.cv .i64 (.sh .shl .u64 (.var 1) (.lit 56))) (.lit 56))) = IE.ev (rho (x % 256) (y % 256) x y) (.lit 0)
        · exact absurd c3 (by (simp (disch := omega) only [↓a10, IE.ev] <;> try simp only [wrap_i64, wrap_u64]) <;> omega)
        · have c3' := c3
          try (simp (disch := omega) only [↓a10, IE.ev] at c3' <;> try simp only [wrap_i64, wrap_u64] at c3')
          by_cases c5 : IE.ev (rho (x % 256) (y % 256) x y) (.cv .i64 (.cv .u64 (.sh .shr .i64 (.sh .shr .i64 (.cv .i64 (.sh .shl .u64 (.var 0) (.lit 56))) (.lit 56)) (.lit 63)))) < IE.ev (rho (x % 256) (y % 256) x y) (.lit 0)
          · have c5' := c5
            try (simp (disch := omega) only [↓a0, IE.ev] at c5' <;> try simp only [wrap_i64, wrap_u64] at c5')
            by_cases c7 : IE.ev (rho (x % 256) (y % 256) x y) (.bin .rem .u64 (.bin .sub .u64 (.lit 0) (.cv .u64 (.sh .shr .i64 (.cv .i64 (.sh .shl .u64 (.var 0) (.lit 56))) (.lit 56)))) (.cv .u64 (.sh .shr .i64 (.cv .i64 (.sh .shl .u64 (.var 1) (.lit 56))) (.lit 56)))) ≠ IE.ev (rho (x % 256) (y % 256) x y) (.lit 0)
            · have c7' := c7
              try (simp (disch := omega) only [↓a3, ↓a10, IE.ev, rem_u64] at c7' <;> try simp only [wrap_i64, wrap_u64] at c7')
              have hL : ∀ f ∈ L_5_10_1, f.ok (rho (x % 256) (y % 256) x y) := by
                intro f hf
                simp only [L_5_10_1, List.mem_cons, List.not_mem_nil, or_false] at hf
                rcases hf with rfl | rfl | rfl | rfl | rfl | rfl | rfl | rfl | rfl | rfl | rfl | rfl | rfl
                · exact ⟨rfl, cmp_eql_t (by (simp (disch := omega) only [↓a6, IE.ev, shr_u64_8] <;> try simp only [wrap_i64, wrap_u64]) <;> omega)⟩
                · exact ⟨rfl, cmp_eql_t (by (simp (disch := omega) only [↓a12, IE.ev, shr_u64_8] <;> try simp only [wrap_i64, wrap_u64]) <;> omega)⟩
                · exact ⟨rfl, cmp_eql_t c2⟩
                · exact ⟨rfl, cmp_eql_n c3⟩
                · exact ⟨rfl, cmp_lss_f (by (simp (disch := omega) only [↓a7, IE.ev] <;> try simp only [wrap_i64, wrap_u64]) <;> omega)⟩
                · exact ⟨rfl, cmp_lss_t c5⟩
                · exact ⟨rfl, cmp_neq_t (by (simp (disch := omega) only [↓a10, IE.ev] <;> try simp only [wrap_i64, wrap_u64]) <;> omega)⟩
                · exact ⟨rfl, cmp_neq_t c7⟩
                · exact ⟨rfl, cmp_geq_t (by (simp (disch := omega) only [↓a3, ↓a10, IE.ev, ev_add, quo_u64, tri1, wrapu_id] <;> try simp only [wrap_i64, wrap_u64]) <;> omega)⟩
                · exact ⟨rfl, cmp_leq_t (by (simp (disch := omega) only [↓a3, ↓a10, IE.ev, ev_add, quo_u64, tri1, wrapu_id] <;> try simp only [wrap_i64, wrap_u64]) <;> omega)⟩
                · exact ⟨rfl, cmp_eql_f (by (simp (disch := omega) only [IE.ev, rho_3] <;> try simp only [wrap_i64, wrap_u64]) <;> omega)⟩
                · exact ⟨rfl, cmp_neq_t (by (simp (disch := omega) only [IE.ev, rho_3, ev_sub, tri2, Int.zero_sub, hM, wrapi_id] <;> try simp only [wrap_i64, wrap_u64]) <;> omega)⟩
                · exact ⟨rfl, cmp_lss_t (by (simp (disch := omega) only [IE.ev, rho_2, rho_3, ev_sub, tri2, ri_n, Int.zero_sub, hM, wrapi_id] <;> try simp only [wrap_i64, wrap_u64]) <;> omega)⟩
              have ht : toldI 10 y = true := by simp [toldI]
              refine ⟨(IE.ev (rho (x % 256) (y % 256) x y) (.sh .shr .u64 (.sh .shl .u64 (.bin .sub .u64 (.cv .u64 (.sh .shr .i64 (.cv .i64 (.sh .shl .u64 (.var 1) (.lit 56))) (.lit 56))) (.bin .rem .u64 (.bin .sub .u64 (.lit 0) (.cv .u64 (.sh .shr .i64 (.cv .i64 (.sh .shl .u64 (.var 0) (.lit 56))) (.lit 56)))) (.cv .u64 (.sh .shr .i64 (.cv .i64 (.sh .shl .u64 (.var 1) (.lit 56))) (.lit 56))))) (.lit 56)) (.lit 56))), (IE.ev (rho (x % 256) (y % 256) x y) (.bin .sub .i64 (.var 2) (.bin .mul .i64 (.bin .sub .i64 (.bin .quo .i64 (.var 2) (.tri 2 (.var 3) (.bin .sub .i64 (.lit 0) (.var 3)) (.lit 0))) (.lit 1)) (.tri 2 (.var 3) (.bin .sub .i64 (.lit 0) (.var 3)) (.lit 0))))), fun w hG => ⟨calls_sym hL (run_5_10_1 _ aR aS) List.mem_cons_self rfl rfl rfl rfl hG, ?_⟩, ?_⟩
              · rw [ht]
                exact calls_sym hL (run_5_10_1 _ aR aS) (List.mem_cons_of_mem _ List.mem_cons_self) rfl rfl rfl rfl hG
              · intro _
                clear hL
                unfold clampI
                rw [if_neg (by decide)]
                (simp (disch := omega) only [↓a3, ↓a10, IE.ev, rho_2, rho_3, shl_u64_56, shr_u64_56, ev_sub, ev_mul, rem_u64, tri2, qi_n, Int.zero_sub, hM, m3, wrapi_id, wrapu_id] <;> try simp only [wrap_i64, wrap_u64])
                all_goals omega
            · have c7' := c7
              try (simp (disch := omega) only [↓a3, ↓a10, IE.ev, rem_u64] at c7' <;> try simp only [wrap_i64, wrap_u64] at c7')
              have hL : ∀ f ∈ L_5_10_6, f.ok (rho (x % 256) (y % 256) x y) := by
                intro f hf
                simp only [L_5_10_6, List.mem_cons, List.not_mem_nil, or_false] at hf
                rcases hf with rfl | rfl | rfl | rfl | rfl | rfl | rfl | rfl | rfl | rfl | rfl | rfl | rfl
                · exact ⟨rfl, cmp_eql_t (by (simp (disch := omega) only [↓a6, IE.ev, shr_u64_8] <;> try simp only [wrap_i64, wrap_u64]) <;> omega)⟩
                · exact ⟨rfl, cmp_eql_t (by (simp (disch := omega) only [↓a12, IE.ev, shr_u64_8] <;> try simp only [wrap_i64, wrap_u64]) <;> omega)⟩
                · exact ⟨rfl, cmp_eql_t c2⟩
                · exact ⟨rfl, cmp_eql_n c3⟩
                · exact ⟨rfl, cmp_lss_f (by (simp (disch := omega) only [↓a7, IE.ev] <;> try simp only [wrap_i64, wrap_u64]) <;> omega)⟩
                · exact ⟨rfl, cmp_lss_t c5⟩
                · exact ⟨rfl, cmp_neq_t (by (simp (disch := omega) only [↓a10, IE.ev] <;> try simp only [wrap_i64, wrap_u64]) <;> omega)⟩
                · exact ⟨rfl, cmp_neq_n c7⟩
                · exact ⟨rfl, cmp_geq_t (by (simp (disch := omega) only [↓a3, ↓a10, IE.ev, quo_u64, tri1] <;> try simp only [wrap_i64, wrap_u64]) <;> omega)⟩
                · exact ⟨rfl, cmp_leq_t (by (simp (disch := omega) only [↓a3, ↓a10, IE.ev, quo_u64, tri1] <;> try simp only [wrap_i64, wrap_u64]) <;> omega)⟩
                · exact ⟨rfl, cmp_eql_f (by (simp (disch := omega) only [IE.ev, rho_3] <;> try simp only [wrap_i64, wrap_u64]) <;> omega)⟩
                · exact ⟨rfl, cmp_neq_t (by (simp (disch := omega) only [IE.ev, rho_3, ev_sub, tri2, Int.zero_sub, hM, wrapi_id] <;> try simp only [wrap_i64, wrap_u64]) <;> omega)⟩
                · exact ⟨rfl, cmp_lss_f (by (simp (disch := omega) only [IE.ev, rho_2, rho_3, ev_sub, tri2, ri_n, Int.zero_sub, hM, wrapi_id] <;> try simp only [wrap_i64, wrap_u64]) <;> omega)⟩
              have ht : toldI 10 y = true := by simp [toldI]
              refine ⟨(IE.ev (rho (x % 256) (y % 256) x y) (.sh .shr .u64 (.sh .shl .u64 (.bin .rem .u64 (.bin .sub .u64 (.lit 0) (.cv .u64 (.sh .shr .i64 (.cv .i64 (.sh .shl .u64 (.var 0) (.lit 56))) (.lit 56)))) (.cv .u64 (.sh .shr .i64 (.cv .i64 (.sh .shl .u64 (.var 1) (.lit 56))) (.lit 56)))) (.lit 56)) (.lit 56))), (IE.ev (rho (x % 256) (y % 256) x y) (.bin .sub .i64 (.var 2) (.bin .mul .i64 (.bin .quo .i64 (.var 2) (.tri 2 (.var 3) (.bin .sub .i64 (.lit 0) (.var 3)) (.lit 0))) (.tri 2 (.var 3) (.bin .sub .i64 (.lit 0) (.var 3)) (.lit 0))))), fun w hG => ⟨calls_sym hL (run_5_10_6 _ aR aS) List.mem_cons_self rfl rfl rfl rfl hG, ?_⟩, ?_⟩
              · rw [ht]
                exact calls_sym hL (run_5_10_6 _ aR aS) (List.mem_cons_of_mem _ List.mem_cons_self) rfl rfl rfl rfl hG
              · intro _
                clear hL
                unfold clampI
                rw [if_neg (by decide)]
                (simp (disch := omega) only [↓a3, ↓a10, IE.ev, rho_2, rho_3, shl_u64_56, shr_u64_56, ev_sub, ev_mul, rem_u64, tri2, qi_n, Int.zero_sub, hM, m2, wrapi_id, wrapu_id] <;> try simp only [wrap_i64, wrap_u64])
                all_goals omega
          · exact absurd (by (simp (disch := omega) only [↓a0, IE.ev] <;> try simp only [wrap_i64, wrap_u64]) <;> omega) c5
      · exact absurd (by (simp (disch := omega) only [↓a8, IE.ev] <;> try simp only [wrap_i64, wrap_u64]) <;> omega) c2
  · have hy : y < 0 ∨ y = 0 ∨ 0 < y := by omega
    rcases hy with hy | hy | hy
    · have a0 := eix_p x y (by omega) (by omega)
      have a1 := eHx_p x y (by omega) (by omega)
      have a2 := ehx_p x y (by omega) (by omega)
      have a3 := eSx_p x y (by omega) (by omega)
      have a4 := esx_p x y (by omega) (by omega)
      have a5 := eVx_p x y (by omega) (by omega)
      have a6 := eiy_n x y (by omega) (by omega)
      have a7 := eHy_n x y (by omega) (by omega)
      have a8 := ehy_n x y (by omega) (by omega)
      have a9 := eNy_n x y (by omega) (by omega)
      have a10 := eSy_n x y (by omega) (by omega)
      have a11 := esy_n x y (by omega) (by omega)
      have a12 := eVy_n x y (by omega) (by omega)
      have hq0 : 0 ≤ x / (-y) := Int.ediv_nonneg (by omega) (by omega)
      have hq1 : x / (-y) ≤ x := Int.ediv_le_self _ (by omega)
      have hr0 : 0 ≤ x % (-y) := Int.emod_nonneg _ (by omega)
      have hr1 : x % (-y) < (-y) := Int.emod_lt_of_pos _ (by omega)
      have hM : max y (-y) = (-y) := by omega
      have m1 : x / (-y) * (-y) = x - x % (-y) := divmul _ _
      have m2 : -(x / (-y)) * (-y) = -(x - x % (-y)) := by rw [Int.neg_mul, m1]
      have m3 : (-(x / (-y)) - 1) * (-y) = -(x - x % (-y)) - (-y) := by rw [Int.sub_mul, m2, Int.one_mul]
      by_cases c2 : IE.ev (rho (x % 256) (y % 256) x y) (.cv .u64 (.sh .shr .i64 (.sh .shr .i64 (.cv .i64 (.sh .shl .u64 (.var 1) (.lit 56))) (.lit 56)) (.lit 63))) = IE.ev (rho (x % 256) (y % 256) x y) (.lit 0)
      · exact absurd c2 (by (simp (disch := omega) only [↓a7, IE.ev] <;> try simp only [wrap_i64, wrap_u64]) <;> omega)
      · have c2' := c2
        try (simp (disch := omega) only [↓a7, IE.ev] at c2' <;> try simp only [wrap_i64, wrap_u64] at c2')
        by_cases c4 : IE.ev (rho (x % 256) (y % 256) x y) (.cv .i64 (.cv .u64 (.sh .shr .i64 (.sh .shr .i64 (.cv .i64 (.sh .shl .u64 (.var 0) (.lit 56))) (.lit 56)) (.lit 63)))) < IE.ev (rho (x % 256) (y % 256) x y) (.lit 0)
        · exact absurd c4 (by (simp (disch := omega) only [↓a0, IE.ev] <;> try simp only [wrap_i64, wrap_u64]) <;> omega)
        · have c4' := c4
          try (simp (disch := omega) only [↓a0, IE.ev] at c4' <;> try simp only [wrap_i64, wrap_u64] at c4')
          have hL : ∀ f ∈ L_5_10_2, f.ok (rho (x % 256) (y % 256) x y) := by
            intro f hf
            simp only [L_5_10_2, List.mem_cons, List.not_mem_nil, or_false] at hf
            rcases hf with rfl | rfl | rfl | rfl | rfl | rfl | rfl | rfl | rfl | rfl | rfl
            · exact ⟨rfl, cmp_eql_t (by (simp (disch := omega) only [↓a5, IE.ev, shr_u64_8] <;> try simp only [wrap_i64, wrap_u64]) <;> omega)⟩
            · exact ⟨rfl, cmp_eql_t (by (simp (disch := omega) only [↓a12, IE.ev, shr_u64_8] <;> try simp only [wrap_i64, wrap_u64]) <;> omega)⟩
            · exact ⟨rfl, cmp_eql_n c2⟩
            · exact ⟨rfl, cmp_lss_t (by (simp (disch := omega) only [↓a6, IE.ev] <;> try simp only [wrap_i64, wrap_u64]) <;> omega)⟩
            · exact ⟨rfl, cmp_lss_n c4⟩
            · exact ⟨rfl, cmp_neq_t (by (simp (disch := omega) only [↓a9, IE.ev] <;> try simp only [wrap_i64, wrap_u64]) <;> omega)⟩
            · exact ⟨rfl, cmp_geq_t (by (simp (disch := omega) only [↓a3, ↓a9, IE.ev, quo_u64, tri1] <;> try simp only [wrap_i64, wrap_u64]) <;> omega)⟩
            · exact ⟨rfl, cmp_leq_t (by (simp (disch := omega) only [↓a3, ↓a9, IE.ev, quo_u64, tri1] <;> try simp only [wrap_i64, wrap_u64]) <;> omega)⟩
            · exact ⟨rfl, cmp_eql_f (by (simp (disch := omega) only [IE.ev, rho_3] <;> try simp only [wrap_i64, wrap_u64]) <;> omega)⟩
            · exact ⟨rfl, cmp_neq_t (by (simp (disch := omega) only [IE.ev, rho_3, ev_sub, tri2, Int.zero_sub, hM, wrapi_id] <;> try simp only [wrap_i64, wrap_u64]) <;> omega)⟩
            · exact ⟨rfl, cmp_lss_f (by (simp (disch := omega) only [IE.ev, rho_2, rho_3, ev_sub, tri2, ri_p, Int.zero_sub, hM, wrapi_id] <;> try simp only [wrap_i64, wrap_u64]) <;> omega)⟩
          have ht : toldI 10 y = true := by simp [toldI]
          refine ⟨(IE.ev (rho (x % 256) (y % 256) x y) (.sh .shr .u64 (.sh .shl .u64 (.bin .rem .u64 (.cv .u64 (.sh .shr .i64 (.cv .i64 (.sh .shl .u64 (.var 0) (.lit 56))) (.lit 56))) (.bin .sub .u64 (.lit 0) (.cv .u64 (.sh .shr .i64 (.cv .i64 (.sh .shl .u64 (.var 1) (.lit 56))) (.lit 56))))) (.lit 56)) (.lit 56))), (IE.ev (rho (x % 256) (y % 256) x y) (.bin .sub .i64 (.var 2) (.bin .mul .i64 (.bin .quo .i64 (.var 2) (.tri 2 (.var 3) (.bin .sub .i64 (.lit 0) (.var 3)) (.lit 0))) (.tri 2 (.var 3) (.bin .sub .i64 (.lit 0) (.var 3)) (.lit 0))))), fun w hG => ⟨calls_sym hL (run_5_10_2 _ aR aS) List.mem_cons_self rfl rfl rfl rfl hG, ?_⟩, ?_⟩
          · rw [ht]
            exact calls_sym hL (run_5_10_2 _ aR aS) (List.mem_cons_of_mem _ List.mem_cons_self) rfl rfl rfl rfl hG
          · intro _
            clear hL
            unfold clampI
            rw [if_neg (by decide)]
            (simp (disch := omega) only [↓a3, ↓a9, IE.ev, rho_2, rho_3, shl_u64_56, shr_u64_56, ev_sub, ev_mul, rem_u64, tri2, qi_p, Int.zero_sub, hM, m1, wrapi_id, wrapu_id] <;> try simp only [wrap_i64, wrap_u64])
            all_goals omega
    · have a0 := eix_p x y (by omega) (by omega)
      have a1 := eHx_p x y (by omega) (by omega)
      have a2 := ehx_p x y (by omega) (by omega)
      have a3 := eSx_p x y (by omega) (by omega)
      have a4 := esx_p x y (by omega) (by omega)
      have a5 := eVx_p x y (by omega) (by omega)
      have a6 := eiy_p x y (by omega) (by omega)
      have a7 := eHy_p x y (by omega) (by omega)
      have a8 := ehy_p x y (by omega) (by omega)
      have a9 := eSy_p x y (by omega) (by omega)
      have a10 := esy_p x y (by omega) (by omega)
      have a11 := eVy_p x y (by omega) (by omega)
      by_cases c2 : IE.ev (rho (x % 256) (y % 256) x y) (.cv .u64 (.sh .shr .i64 (.sh .shr .i64 (.cv .i64 (.sh .shl .u64 (.var 1) (.lit 56))) (.lit 56)) (.lit 63))) = IE.ev (rho (x % 256) (y % 256) x y) (.lit 0)
      · have c2' := c2
        try (simp (disch := omega) only [↓a7, IE.ev] at c2' <;> try simp only [wrap_i64, wrap_u64] at c2')
        by_cases c3 : IE.ev (rho (x % 256) (y % 256) x y) (.cv .u64 (.sh .shr .i64 (.cv .i64 (.sh .shl .u64 (.var 1) (.lit 56))) (.lit 56))) = IE.ev (rho (x % 256) (y % 256) x y) (.lit 0)
        · have c3' := c3
          try (simp (disch := omega) only [↓a9, IE.ev] at c3' <;> try simp only [wrap_i64, wrap_u64] at c3')
          have hL : ∀ f ∈ L_5_10_0, f.ok (rho (x % 256) (y % 256) x y) := by
            intro f hf
            simp only [L_5_10_0, List.mem_cons, List.not_mem_nil, or_false] at hf
            rcases hf with rfl | rfl | rfl | rfl | rfl
            · exact ⟨rfl, cmp_eql_t (by (simp (disch := omega) only [↓a5, IE.ev, shr_u64_8] <;> try simp only [wrap_i64, wrap_u64]) <;> omega)⟩
            · exact ⟨rfl, cmp_eql_t (by (simp (disch := omega) only [↓a11, IE.ev, shr_u64_8] <;> try simp only [wrap_i64, wrap_u64]) <;> omega)⟩
            · exact ⟨rfl, cmp_eql_t c2⟩
            · exact ⟨rfl, cmp_eql_t c3⟩
            · exact ⟨rfl, cmp_eql_t (by (simp (disch := omega) only [IE.ev, rho_3] <;> try simp only [wrap_i64, wrap_u64]) <;> omega)⟩
          have ht : toldI 10 y = true := by simp [toldI]
          refine ⟨0, 0, fun w hG => ⟨calls_sym hL (run_5_10_0 _ aR aS) List.mem_cons_self rfl rfl rfl rfl hG, ?_⟩, ?_⟩
          · rw [ht]
            exact calls_sym hL (run_5_10_0 _ aR aS) (List.mem_cons_of_mem _ List.mem_cons_self) rfl rfl rfl rfl hG
          · intro _
            clear hL
            unfold clampI
            rw [if_neg (by decide)]
            all_goals omega
        · exact absurd (by (simp (disch := omega) only [↓a9, IE.ev] <;> try simp only [wrap_i64, wrap_u64]) <;> omega) c3
      · exact absurd (by (simp (disch := omega) only [↓a7, IE.ev] <;> try simp only [wrap_i64, wrap_u64]) <;> omega) c2
    · have a0 := eix_p x y (by omega) (by omega)
      have a1 := eHx_p x y (by omega) (by omega)
      have a2 := ehx_p x y (by omega) (by omega)
      have a3 := eSx_p x y (by omega) (by omega)
      have a4 := esx_p x y (by omega) (by omega)
      have a5 := eVx_p x y (by omega) (by omega)
      have a6 := eiy_p x y (by omega) (by omega)
      have a7 := eHy_p x y (by omega) (by omega)
      have a8 := ehy_p x y (by omega) (by omega)
      have a9 := eSy_p x y (by omega) (by omega)
      have a10 := esy_p x y (by omega) (by omega)
      have a11 := eVy_p x y (by omega) (by omega)
      have hq0 : 0 ≤ x / y := Int.ediv_nonneg (by omega) (by omega)
      have hq1 : x / y ≤ x := Int.ediv_le_self _ (by omega)
      have hr0 : 0 ≤ x % y := Int.emod_nonneg _ (by omega)
      have hr1 : x % y < y := Int.emod_lt_of_pos _ (by omega)
      have hM : max y (-y) = y := by omega
      have m1 : x / y * y = x - x % y := divmul _ _
      have m2 : -(x / y) * y = -(x - x % y) := by rw [Int.neg_mul, m1]
      have m3 : (-(x / y) - 1) * y = -(x - x % y) - y := by rw [Int.sub_mul, m2, Int.one_mul]
      by_cases c2 : IE.ev (rho (x % 256) (y % 256) x y) (.cv .u64 (.sh .shr .i64 (.sh .shr .i64 (.cv .i64 (.sh .shl .u64 (.var 1) (.lit 56))) (.lit 56)) (.lit 63))) = IE.ev (rho (x % 256) (y % 256) x y) (.lit 0)
      · have c2' := c2
        try (simp (disch := omega) only [↓a7, IE.ev] at c2' <;> try simp only [wrap_i64, wrap_u64] at c2')
        by_cases c3 : IE.ev (rho (x % 256) (y % 256) x y) (.cv .u64 (.sh .shr .i64 (.cv .i64 (.sh .shl .u64 (.var 1) (.lit 56))) (.lit 56))) = IE.ev (rho (x % 256) (y % 256) x y) (.lit 0)
        · exact absurd c3 (by (simp (disch := omega) only [↓a9, IE.ev] <;> try simp only [wrap_i64, wrap_u64]) <;> omega)
        · have c3' := c3
          try (simp (disch := omega) only [↓a9, IE.ev] at c3' <;> try simp only [wrap_i64, wrap_u64] at c3')
          by_cases c5 : IE.ev (rho (x % 256) (y % 256) x y) (.cv .i64 (.cv .u64 (.sh .shr .i64 (.sh .shr .i64 (.cv .i64 (.sh .shl .u64 (.var 0) (.lit 56))) (.lit 56)) (.lit 63)))) < IE.ev (rho (x % 256) (y % 256) x y) (.lit 0)
          · exact absurd c5 (by (simp (disch := omega) only [↓a0, IE.ev] <;> try simp only [wrap_i64, wrap_u64]) <;> omega)
          · have c5' := c5
            try (simp (disch := omega) only [↓a0, IE.ev] at c5' <;> try simp only [wrap_i64, wrap_u64] at c5')
            have hL : ∀ f ∈ L_5_10_3, f.ok (rho (x % 256) (y % 256) x y) := by
              intro f hf
              simp only [L_5_10_3, List.mem_cons, List.not_mem_nil, or_false] at hf
              rcases hf with rfl | rfl | rfl | rfl | rfl | rfl | rfl | rfl | rfl | rfl
              · exact ⟨rfl, cmp_eql_t (by (simp (disch := omega) only [↓a5, IE.ev, shr_u64_8] <;> try simp only [wrap_i64, wrap_u64]) <;> omega)⟩
              · exact ⟨rfl, cmp_eql_t (by (simp (disch := omega) only [↓a11, IE.ev, shr_u64_8] <;> try simp only [wrap_i64, wrap_u64]) <;> omega)⟩
              · exact ⟨rfl, cmp_eql_t c2⟩
              · exact ⟨rfl, cmp_eql_n c3⟩
              · exact ⟨rfl, cmp_lss_f (by (simp (disch := omega) only [↓a6, IE.ev] <;> try simp only [wrap_i64, wrap_u64]) <;> omega)⟩
              · exact ⟨rfl, cmp_lss_n c5⟩
              · exact ⟨rfl, cmp_neq_t (by (simp (disch := omega) only [↓a9, IE.ev] <;> try simp only [wrap_i64, wrap_u64]) <;> omega)⟩
              · exact ⟨rfl, cmp_eql_f (by (simp (disch := omega) only [IE.ev, rho_3] <;> try simp only [wrap_i64, wrap_u64]) <;> omega)⟩
              · exact ⟨rfl, cmp_neq_t (by (simp (disch := omega) only [IE.ev, rho_3, ev_sub, tri2, Int.zero_sub, hM, wrapi_id] <;> try simp only [wrap_i64, wrap_u64]) <;> omega)⟩
              · exact ⟨rfl, cmp_lss_f (by (simp (disch := omega) only [IE.ev, rho_2, rho_3, ev_sub, tri2, ri_p, Int.zero_sub, hM, wrapi_id] <;> try simp only [wrap_i64, wrap_u64]) <;> omega)⟩
            have ht : toldI 10 y = true := by simp [toldI]
            refine ⟨(IE.ev (rho (x % 256) (y % 256) x y) (.sh .shr .u64 (.sh .shl .u64 (.bin .rem .u64 (.cv .u64 (.sh .shr .i64 (.cv .i64 (.sh .shl .u64 (.var 0) (.lit 56))) (.lit 56))) (.cv .u64 (.sh .shr .i64 (.cv .i64 (.sh .shl .u64 (.var 1) (.lit 56))) (.lit 56)))) (.lit 56)) (.lit 56))), (IE.ev (rho (x % 256) (y % 256) x y) (.bin .sub .i64 (.var 2) (.bin .mul .i64 (.bin .quo .i64 (.var 2) (.tri 2 (.var 3) (.bin .sub .i64 (.lit 0) (.var 3)) (.lit 0))) (.tri 2 (.var 3) (.bin .sub .i64 (.lit 0) (.var 3)) (.lit 0))))), fun w hG => ⟨calls_sym hL (run_5_10_3 _ aR aS) List.mem_cons_self rfl rfl rfl rfl hG, ?_⟩, ?_⟩
            · rw [ht]
              exact calls_sym hL (run_5_10_3 _ aR aS) (List.mem_cons_of_mem _ List.mem_cons_self) rfl rfl rfl rfl hG
            · intro _
              clear hL
              unfold clampI
              rw [if_neg (by decide)]
              (simp (disch := omega) only [↓a3, ↓a9, IE.ev, rho_2, rho_3, shl_u64_56, shr_u64_56, ev_sub, ev_mul, rem_u64, tri2, qi_p, Int.zero_sub, hM, m1, wrapi_id, wrapu_id] <;> try simp only [wrap_i64, wrap_u64])
              all_goals omega
      · exact absurd (by (simp (disch := omega) only [↓a7, IE.ev] <;> try simp only [wrap_i64, wrap_u64]) <;> omega) c2
end
end Go.Proofs.YtedbnohkkepajaaGreatDoor
