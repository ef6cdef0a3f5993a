import Derived.Test.YthlbienfimdkbaaGreatDoorKHB
import Derived.Test.YthlbienfimdkbaaGreatDoorKH40
namespace Go.Proofs.YthlbienfimdkbaaGreatDoor
open Go Go.RX
set_option maxRecDepth 1000000
noncomputable section
theorem hk38_kh (aR aS : Addr) : ∀ e ∈ ([n40_kh] : List HEntry), @HOk env0 Tryz.prog (glob aR aS) e := fun e he => by
  rcases List.mem_cons.1 he with rfl | he
  · exact ok40_kh aR aS
  cases he
theorem run38_kh (aR aS : Addr) : @callH env0 Tryz.prog (glob aR aS) (orO O0_kh (tabH [n40_kh])) n38_kh.f n38_kh.xs (put n38_kh.H []) = some (n38_kh.x, put n38_kh.H' []) := by kernel_rfl
theorem ok38_kh (aR aS : Addr) : @HOk env0 Tryz.prog (glob aR aS) n38_kh := @hOk_of_run' env0 _ _ _ (@orO_holds env0 _ _ _ _ (O0h_kh aR aS) (@tabH_holds env0 _ _ _ (hk38_kh aR aS))) namesOk0 mixed _ (fun cs h => by
  have h : cs.length = 0 := h.trans (by kernel_rfl : (lcs n38_kh.H).length = 0)
  obtain rfl := lc0 h
  exact run38_kh aR aS )
end
end Go.Proofs.YthlbienfimdkbaaGreatDoor
