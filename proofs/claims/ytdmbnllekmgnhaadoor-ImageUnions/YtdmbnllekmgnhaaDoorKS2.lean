import Derived.Test.YtdmbnllekmgnhaaDoorKS0
namespace Go.Proofs.YtdmbnllekmgnhaaDoor
open Go Go.RX
set_option maxRecDepth 1000000
noncomputable section
theorem seg_ks2 (aR aS : Addr) : run_ks aR aS (((segs c_ks).drop 0).take 2) s_ks0 = some (.normal, s_ks2) := by unfold run_ks; kernel_rfl
end
end Go.Proofs.YtdmbnllekmgnhaaDoor

namespace Go.Proofs.YtdmbnllekmgnhaaDoor
open Go Go.RX
set_option maxRecDepth 1000000
noncomputable section
theorem seg_ks4 (aR aS : Addr) : run_ks aR aS (((segs c_ks).drop 2).take 2) s_ks2 = some (.normal, s_ks4) := by unfold run_ks; kernel_rfl
end
end Go.Proofs.YtdmbnllekmgnhaaDoor

namespace Go.Proofs.YtdmbnllekmgnhaaDoor
open Go Go.RX
set_option maxRecDepth 1000000
noncomputable section
theorem seg_ks6 (aR aS : Addr) : run_ks aR aS (((segs c_ks).drop 4).take 2) s_ks4 = some (.normal, s_ks6) := by unfold run_ks; kernel_rfl
end
end Go.Proofs.YtdmbnllekmgnhaaDoor
