import Derived.Test.YthlbienfimdkbaaGreatDoorKHB
import Derived.Test.YthlbienfimdkbaaGreatDoorKH2
namespace Go.Proofs.YthlbienfimdkbaaGreatDoor
open Go Go.RX
set_option maxRecDepth 1000000
noncomputable section
theorem hk0_kh (aR aS : Addr) : ∀ e ∈ ([n2_kh, n3_kh, n4_kh, n5_kh] : List HEntry), @HOk env0 Tryz.prog (glob aR aS) e := fun e he => by
  rcases List.mem_cons.1 he with rfl | he
  · exact ok2_kh aR aS
  rcases List.mem_cons.1 he with rfl | he
  · exact ok3_kh aR aS
  rcases List.mem_cons.1 he with rfl | he
  · exact ok4_kh aR aS
  rcases List.mem_cons.1 he with rfl | he
  · exact ok5_kh aR aS
  cases he
theorem run0_kh (aR aS : Addr) : @callH env0 Tryz.prog (glob aR aS) (orO O0_kh (tabH [n2_kh, n3_kh, n4_kh, n5_kh])) n0_kh.f n0_kh.xs (put n0_kh.H []) = some (n0_kh.x, put n0_kh.H' []) := by kernel_rfl
theorem ok0_kh (aR aS : Addr) : @HOk env0 Tryz.prog (glob aR aS) n0_kh := @hOk_of_run' env0 _ _ _ (@orO_holds env0 _ _ _ _ (O0h_kh aR aS) (@tabH_holds env0 _ _ _ (hk0_kh aR aS))) namesOk0 mixed _ (fun cs h => by
  have h : cs.length = 0 := h.trans (by kernel_rfl : (lcs n0_kh.H).length = 0)
  obtain rfl := lc0 h
  exact run0_kh aR aS )
end
end Go.Proofs.YthlbienfimdkbaaGreatDoor
