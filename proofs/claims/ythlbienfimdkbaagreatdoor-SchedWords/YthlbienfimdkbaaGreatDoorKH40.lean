import Derived.Test.YthlbienfimdkbaaGreatDoorKHB
import Derived.Test.YthlbienfimdkbaaGreatDoorKH12
import Derived.Test.YthlbienfimdkbaaGreatDoorKH42
namespace Go.Proofs.YthlbienfimdkbaaGreatDoor
open Go Go.RX
set_option maxRecDepth 1000000
noncomputable section
theorem hk40_kh (aR aS : Addr) : ∀ e ∈ ([n12_kh, n42_kh] : List HEntry), @HOk env0 Tryz.prog (glob aR aS) e := fun e he => by
  rcases List.mem_cons.1 he with rfl | he
  · exact ok12_kh aR aS
  rcases List.mem_cons.1 he with rfl | he
  · exact ok42_kh aR aS
  cases he
theorem run40_kh (aR aS : Addr) : @callH env0 Tryz.prog (glob aR aS) (orO O0_kh (tabH [n12_kh, n42_kh])) n40_kh.f n40_kh.xs (put n40_kh.H []) = some (n40_kh.x, put n40_kh.H' []) := by kernel_rfl
theorem ok40_kh (aR aS : Addr) : @HOk env0 Tryz.prog (glob aR aS) n40_kh := @hOk_of_run' env0 _ _ _ (@orO_holds env0 _ _ _ _ (O0h_kh aR aS) (@tabH_holds env0 _ _ _ (hk40_kh aR aS))) namesOk0 mixed _ (fun cs h => by
  have h : cs.length = 0 := h.trans (by kernel_rfl : (lcs n40_kh.H).length = 0)
  obtain rfl := lc0 h
  exact run40_kh aR aS )
end
end Go.Proofs.YthlbienfimdkbaaGreatDoor
