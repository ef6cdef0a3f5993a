import Derived.Test.YthlbienfimdkbaaGreatDoorKHB
import Derived.Test.YthlbienfimdkbaaGreatDoorKH12
import Derived.Test.YthlbienfimdkbaaGreatDoorHL
namespace Go.Proofs.YthlbienfimdkbaaGreatDoor
open Go Go.RX
set_option maxRecDepth 1000000
noncomputable section
theorem hk62_kh (aR aS : Addr) : ∀ e ∈ ([n12_kh, n63_kh] : List HEntry), @HOk env0 Tryz.prog (glob aR aS) e := fun e he => by
  rcases List.mem_cons.1 he with rfl | he
  · exact ok12_kh aR aS
  rcases List.mem_cons.1 he with rfl | he
  · exact ok63_kh aR aS
  cases he
theorem run62_kh (aR aS : Addr) : @callH env0 Tryz.prog (glob aR aS) (orO O0_kh (tabH [n12_kh, n63_kh])) n62_kh.f n62_kh.xs (put n62_kh.H []) = some (n62_kh.x, put n62_kh.H' []) := by kernel_rfl
theorem ok62_kh (aR aS : Addr) : @HOk env0 Tryz.prog (glob aR aS) n62_kh := @hOk_of_run' env0 _ _ _ (@orO_holds env0 _ _ _ _ (O0h_kh aR aS) (@tabH_holds env0 _ _ _ (hk62_kh aR aS))) namesOk0 mixed _ (fun cs h => by
  have h : cs.length = 0 := h.trans (by kernel_rfl : (lcs n62_kh.H).length = 0)
  obtain rfl := lc0 h
  exact run62_kh aR aS )
end
end Go.Proofs.YthlbienfimdkbaaGreatDoor
