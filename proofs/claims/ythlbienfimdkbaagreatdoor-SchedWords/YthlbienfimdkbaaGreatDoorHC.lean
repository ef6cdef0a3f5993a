import Derived.Test.YthlbienfimdkbaaGreatDoorKHB
namespace Go.Proofs.YthlbienfimdkbaaGreatDoor
open Go Go.RX
set_option maxRecDepth 1000000
noncomputable section
theorem hk8_kh (aR aS : Addr) : ∀ e ∈ ([] : List HEntry), @HOk env0 Tryz.prog (glob aR aS) e := fun e he => by
  cases he
theorem run8_kh (aR aS : Addr) : @callH env0 Tryz.prog (glob aR aS) (orO O0_kh (tabH [])) n8_kh.f n8_kh.xs (put n8_kh.H []) = some (n8_kh.x, put n8_kh.H' []) := by kernel_rfl
theorem ok8_kh (aR aS : Addr) : @HOk env0 Tryz.prog (glob aR aS) n8_kh := @hOk_of_run' env0 _ _ _ (@orO_holds env0 _ _ _ _ (O0h_kh aR aS) (@tabH_holds env0 _ _ _ (hk8_kh aR aS))) namesOk0 mixed _ (fun cs h => by
  have h : cs.length = 0 := h.trans (by kernel_rfl : (lcs n8_kh.H).length = 0)
  obtain rfl := lc0 h
  exact run8_kh aR aS )
end
end Go.Proofs.YthlbienfimdkbaaGreatDoor

namespace Go.Proofs.YthlbienfimdkbaaGreatDoor
open Go Go.RX
set_option maxRecDepth 1000000
noncomputable section
theorem hk54_kh (aR aS : Addr) : ∀ e ∈ ([] : List HEntry), @HOk env0 Tryz.prog (glob aR aS) e := fun e he => by
  cases he
theorem run54_kh (aR aS : Addr) : @callH env0 Tryz.prog (glob aR aS) (orO O0_kh (tabH [])) n54_kh.f n54_kh.xs (put n54_kh.H []) = some (n54_kh.x, put n54_kh.H' []) := by kernel_rfl
theorem ok54_kh (aR aS : Addr) : @HOk env0 Tryz.prog (glob aR aS) n54_kh := @hOk_of_run' env0 _ _ _ (@orO_holds env0 _ _ _ _ (O0h_kh aR aS) (@tabH_holds env0 _ _ _ (hk54_kh aR aS))) namesOk0 mixed _ (fun cs h => by
  have h : cs.length = 0 := h.trans (by kernel_rfl : (lcs n54_kh.H).length = 0)
  obtain rfl := lc0 h
  exact run54_kh aR aS )
end
end Go.Proofs.YthlbienfimdkbaaGreatDoor
