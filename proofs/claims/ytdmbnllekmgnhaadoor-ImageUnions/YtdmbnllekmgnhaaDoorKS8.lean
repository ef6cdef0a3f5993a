import Derived.Test.YtdmbnllekmgnhaaDoorKS0
namespace Go.Proofs.YtdmbnllekmgnhaaDoor
open Go Go.RX
set_option maxRecDepth 1000000
noncomputable section
theorem seg_ks8 (aR aS : Addr) : run_ks aR aS (((segs c_ks).drop 6).take 2) s_ks6 = some (.normal, s_ks8) := by unfold run_ks; kernel_rfl
end
end Go.Proofs.YtdmbnllekmgnhaaDoor
