import Derived.Test.YthlbienfimdkbaaGreatDoorKHB
namespace Go.Proofs.YthlbienfimdkbaaGreatDoor
open Go Go.RX
set_option maxRecDepth 1000000
noncomputable section
theorem hk12_kh (aR aS : Addr) : ∀ e ∈ ([] : List HEntry), @HOk env0 Tryz.prog (glob aR aS) e := fun e he => by
  cases he
theorem run12_kh (aR aS : Addr) : @callH env0 Tryz.prog (glob aR aS) (orO O0_kh (tabH [])) n12_kh.f n12_kh.xs (put n12_kh.H []) = some (n12_kh.x, put n12_kh.H' []) := by kernel_rfl
theorem ok12_kh (aR aS : Addr) : @HOk env0 Tryz.prog (glob aR aS) n12_kh := @hOk_of_run' env0 _ _ _ (@orO_holds env0 _ _ _ _ (O0h_kh aR aS) (@tabH_holds env0 _ _ _ (hk12_kh aR aS))) namesOk0 mixed _ (fun cs h => by
  have h : cs.length = 0 := h.trans (by kernel_rfl : (lcs n12_kh.H).length = 0)
  obtain rfl := lc0 h
  exact run12_kh aR aS )
end
end Go.Proofs.YthlbienfimdkbaaGreatDoor
