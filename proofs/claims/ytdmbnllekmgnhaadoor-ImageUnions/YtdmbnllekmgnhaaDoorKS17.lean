import Derived.Test.YtdmbnllekmgnhaaDoorKS0
namespace Go.Proofs.YtdmbnllekmgnhaaDoor
open Go Go.RX
set_option maxRecDepth 1000000
noncomputable section
theorem seg_ks17 (aR aS : Addr) : run_ks aR aS (((segs c_ks).drop 16).take 1) s_ks16 = some (.normal, s_ks17) := by unfold run_ks; kernel_rfl
end
end Go.Proofs.YtdmbnllekmgnhaaDoor
