import Derived.Test.YtgjhdjmjaifdoaaGreatDoorKM0
namespace Go.Proofs.YtgjhdjmjaifdoaaGreatDoor
noncomputable section
open Go Go.RX
set_option maxRecDepth 1000000
theorem symN (aR aS : Addr) (name : ByteArray) (hn : isName name = false) : (List.range 11).map (fun (c : Nat) => (@call (envN name 0 cmp0 false hn) Tryz.prog (glob aR aS) O15 300 60 (.fn 3) [.v (.int .i64 c), .sym (.nm 0)] []).map fun r => nrm r.1) = (List.range 11).map fun _ => Tr := by kernel_rfl
end
end Go.Proofs.YtgjhdjmjaifdoaaGreatDoor
