import Derived.Test.YthlbienfimdkbaaGreatDoorKHB
import Derived.Test.YthlbienfimdkbaaGreatDoorKH12
import Derived.Test.YthlbienfimdkbaaGreatDoorHH
import Derived.Test.YthlbienfimdkbaaGreatDoorHI
import Derived.Test.YthlbienfimdkbaaGreatDoorHB
import Derived.Test.YthlbienfimdkbaaGreatDoorKRB
namespace Go.Proofs.YthlbienfimdkbaaGreatDoor
open Go Go.RX
set_option maxRecDepth 1000000
noncomputable section
theorem hk46_kh (aR aS : Addr) : ∀ e ∈ ([n12_kh, n94_kq, n95_kq] : List HEntry), @HOk env0 Tryz.prog (glob aR aS) e := fun e he => by
  rcases List.mem_cons.1 he with rfl | he
  · exact ok12_kh aR aS
  rcases List.mem_cons.1 he with rfl | he
  · exact ok94_kq aR aS
  rcases List.mem_cons.1 he with rfl | he
  · exact ok95_kq aR aS
  cases he
theorem run46_kh (aR aS : Addr) : @callH env0 Tryz.prog (glob aR aS) (orO O0_kh (tabH [n12_kh, n94_kq, n95_kq])) n46_kh.f n46_kh.xs (put n46_kh.H []) = some (n46_kh.x, put n46_kh.H' []) := by kernel_rfl
theorem ok46_kh (aR aS : Addr) : @HOk env0 Tryz.prog (glob aR aS) n46_kh := @hOk_of_run' env0 _ _ _ (@orO_holds env0 _ _ _ _ (O0h_kh aR aS) (@tabH_holds env0 _ _ _ (hk46_kh aR aS))) namesOk0 mixed _ (fun cs h => by
  have h0 : cs.length = 0 := h.trans (by kernel_rfl : (lcs n46_kh.H).length = 0)
  clear h
  obtain rfl := lc0 h0
  exact run46_kh aR aS )
end
end Go.Proofs.YthlbienfimdkbaaGreatDoor

namespace Go.Proofs.YthlbienfimdkbaaGreatDoor
open Go Go.RX
set_option maxRecDepth 1000000
noncomputable section
theorem hk44_kh (aR aS : Addr) : ∀ e ∈ ([n51_kh, n46_kh, n104_kr] : List HEntry), @HOk env0 Tryz.prog (glob aR aS) e := fun e he => by
  rcases List.mem_cons.1 he with rfl | he
  · exact ok51_kh aR aS
  rcases List.mem_cons.1 he with rfl | he
  · exact ok46_kh aR aS
  rcases List.mem_cons.1 he with rfl | he
  · exact ok104_kr aR aS
  cases he
theorem run44_kh (aR aS : Addr) : @callH env0 Tryz.prog (glob aR aS) (orO O0_kh (tabH [n51_kh, n46_kh, n104_kr])) n44_kh.f n44_kh.xs (put n44_kh.H []) = some (n44_kh.x, put n44_kh.H' []) := by kernel_rfl
theorem ok44_kh (aR aS : Addr) : @HOk env0 Tryz.prog (glob aR aS) n44_kh := @hOk_of_run' env0 _ _ _ (@orO_holds env0 _ _ _ _ (O0h_kh aR aS) (@tabH_holds env0 _ _ _ (hk44_kh aR aS))) namesOk0 mixed _ (fun cs h => by
  have h0 : cs.length = 0 := h.trans (by kernel_rfl : (lcs n44_kh.H).length = 0)
  clear h
  obtain rfl := lc0 h0
  exact run44_kh aR aS )
end
end Go.Proofs.YthlbienfimdkbaaGreatDoor
