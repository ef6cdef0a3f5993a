import Derived.Test.YtgjhdjmjaifdoaaGreatDoorKM0
namespace Go.Proofs.YtgjhdjmjaifdoaaGreatDoor
noncomputable section
open Go Go.RX
set_option maxRecDepth 1000000
theorem sym1 (aR aS : Addr) (k : Int) : names.map (fun s => (@call (envN ⟨#[]⟩ k cmp1 false empty_no) Tryz.prog (glob aR aS) O15 300 60 (.fn 3) [.sym (.nm 1), .v (.string s)] []).map fun r => nrm r.1) = names.map fun _ => Tr := by kernel_rfl
theorem sym2 (aR aS : Addr) (k : Int) : names.map (fun s => (@call (envN ⟨#[]⟩ k cmp2 false empty_no) Tryz.prog (glob aR aS) O15 300 60 (.fn 3) [.sym (.nm 1), .v (.string s)] []).map fun r => nrm r.1) = names.map fun _ => Tr := by kernel_rfl
theorem symB1 (aR aS : Addr) (name : ByteArray) (hn : isName name = false) (k : Int) : (@call (envN name k cmp1 false hn) Tryz.prog (glob aR aS) O15 300 60 (.fn 3) [.sym (.nm 1), .sym (.nm 0)] []).map (fun r => nrm r.1) = Tr := by kernel_rfl
theorem symB2 (aR aS : Addr) (name : ByteArray) (hn : isName name = false) (k : Int) : (@call (envN name k cmp2 false hn) Tryz.prog (glob aR aS) O15 300 60 (.fn 3) [.sym (.nm 1), .sym (.nm 0)] []).map (fun r => nrm r.1) = Tr := by kernel_rfl
theorem symL (aR aS : Addr) (name : ByteArray) (hn : isName name = false) (k : Int) : (@call (envN name k cmp0 true hn) Tryz.prog (glob aR aS) O15 300 60 (.fn 3) [.sym (.nm 1), .sym (.nm 0)] []).map (fun r => nrm r.1) = Tr := by kernel_rfl
end
end Go.Proofs.YtgjhdjmjaifdoaaGreatDoor
