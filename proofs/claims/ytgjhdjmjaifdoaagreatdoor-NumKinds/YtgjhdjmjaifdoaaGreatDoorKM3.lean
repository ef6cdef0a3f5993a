import Derived.Test.YtgjhdjmjaifdoaaGreatDoorKM0
namespace Go.Proofs.YtgjhdjmjaifdoaaGreatDoor
noncomputable section
open Go Go.RX
set_option maxRecDepth 1000000
theorem conc8 (aR aS : Addr) : names.map (fun s => (@call env0 Tryz.prog (glob aR aS) O15 300 60 (.fn 3) [.v (.int .i64 8), .v (.string s)] []).map fun r => nrm r.1) = names.map fun _ => Tr := by kernel_rfl
theorem conc9 (aR aS : Addr) : names.map (fun s => (@call env0 Tryz.prog (glob aR aS) O15 300 60 (.fn 3) [.v (.int .i64 9), .v (.string s)] []).map fun r => nrm r.1) = names.map fun _ => Tr := by kernel_rfl
theorem conc10 (aR aS : Addr) : names.map (fun s => (@call env0 Tryz.prog (glob aR aS) O15 300 60 (.fn 3) [.v (.int .i64 10), .v (.string s)] []).map fun r => nrm r.1) = names.map fun _ => Tr := by kernel_rfl
end
end Go.Proofs.YtgjhdjmjaifdoaaGreatDoor
