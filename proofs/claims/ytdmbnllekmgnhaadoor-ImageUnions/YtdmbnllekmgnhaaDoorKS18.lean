import Derived.Test.YtdmbnllekmgnhaaDoorKS0
namespace Go.Proofs.YtdmbnllekmgnhaaDoor
open Go Go.RX
set_option maxRecDepth 1000000
noncomputable section
theorem seg_ks18 (aR aS : Addr) : run_ks aR aS (((segs c_ks).drop 17).take 1) s_ks17 = some (.normal, s_ks18) := by unfold run_ks; kernel_rfl
end
end Go.Proofs.YtdmbnllekmgnhaaDoor
