import Derived.Test.YtdmbnllekmgnhaaDoorKS0
namespace Go.Proofs.YtdmbnllekmgnhaaDoor
open Go Go.RX
set_option maxRecDepth 1000000
noncomputable section
theorem seg_ks11 (aR aS : Addr) : run_ks aR aS (((segs c_ks).drop 10).take 1) s_ks10 = some (.normal, s_ks11) := by unfold run_ks; kernel_rfl
end
end Go.Proofs.YtdmbnllekmgnhaaDoor

namespace Go.Proofs.YtdmbnllekmgnhaaDoor
open Go Go.RX
set_option maxRecDepth 1000000
noncomputable section
theorem seg_ks12 (aR aS : Addr) : run_ks aR aS (((segs c_ks).drop 11).take 1) s_ks11 = some (.normal, s_ks12) := by unfold run_ks; kernel_rfl
end
end Go.Proofs.YtdmbnllekmgnhaaDoor

namespace Go.Proofs.YtdmbnllekmgnhaaDoor
open Go Go.RX
set_option maxRecDepth 1000000
noncomputable section
theorem seg_ks13 (aR aS : Addr) : run_ks aR aS (((segs c_ks).drop 12).take 1) s_ks12 = some (.normal, s_ks13) := by unfold run_ks; kernel_rfl
end
end Go.Proofs.YtdmbnllekmgnhaaDoor

namespace Go.Proofs.YtdmbnllekmgnhaaDoor
open Go Go.RX
set_option maxRecDepth 1000000
noncomputable section
theorem seg_ks15 (aR aS : Addr) : run_ks aR aS (((segs c_ks).drop 14).take 1) s_ks14 = some (.normal, s_ks15) := by unfold run_ks; kernel_rfl
end
end Go.Proofs.YtdmbnllekmgnhaaDoor

namespace Go.Proofs.YtdmbnllekmgnhaaDoor
open Go Go.RX
set_option maxRecDepth 1000000
noncomputable section
theorem seg_ks16 (aR aS : Addr) : run_ks aR aS (((segs c_ks).drop 15).take 1) s_ks15 = some (.normal, s_ks16) := by unfold run_ks; kernel_rfl
end
end Go.Proofs.YtdmbnllekmgnhaaDoor
