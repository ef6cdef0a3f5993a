import Derived.Test.YtbjldpbngnnghaaGreatDoorKM0
namespace Go.Proofs.YtbjldpbngnnghaaGreatDoor
noncomputable section
open Go Go.RX
set_option maxRecDepth 1000000
theorem conc0 (aR aS : Addr) : (List.range' 0 2).map (fun (c : Nat) => names.map fun s => (@call env0 Tryz.prog (glob aR aS) O15 300 60 (.fn 3) [.v (.int .i64 c), .v (.string s)] []).map fun r => nrm r.1) = (List.range' 0 2).map fun _ => names.map fun _ => Tr := by kernel_rfl
end
end Go.Proofs.YtbjldpbngnnghaaGreatDoor
