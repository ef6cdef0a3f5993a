import Derived.Test.YthlbienfimdkbaaGreatDoorKHB
namespace Go.Proofs.YthlbienfimdkbaaGreatDoor
open Go Go.RX
set_option maxRecDepth 1000000
noncomputable section
theorem hk35_kh (aR aS : Addr) : ∀ e ∈ ([] : List HEntry), @HOk env0 Tryz.prog (glob aR aS) e := fun e he => by
  cases he
theorem run35_kh (aR aS : Addr) : @callH env0 Tryz.prog (glob aR aS) (orO O0_kh (tabH [])) n35_kh.f n35_kh.xs (put n35_kh.H []) = some (n35_kh.x, put n35_kh.H' []) := by kernel_rfl
theorem ok35_kh (aR aS : Addr) : @HOk env0 Tryz.prog (glob aR aS) n35_kh := @hOk_of_run' env0 _ _ _ (@orO_holds env0 _ _ _ _ (O0h_kh aR aS) (@tabH_holds env0 _ _ _ (hk35_kh aR aS))) namesOk0 mixed _ (fun cs h => by
  have h : cs.length = 0 := h.trans (by kernel_rfl : (lcs n35_kh.H).length = 0)
  obtain rfl := lc0 h
  exact run35_kh aR aS )
end
end Go.Proofs.YthlbienfimdkbaaGreatDoor

namespace Go.Proofs.YthlbienfimdkbaaGreatDoor
open Go Go.RX
set_option maxRecDepth 1000000
noncomputable section
theorem hk27_kh (aR aS : Addr) : ∀ e ∈ ([] : List HEntry), @HOk env0 Tryz.prog (glob aR aS) e := fun e he => by
  cases he
theorem run27_kh (aR aS : Addr) : @callH env0 Tryz.prog (glob aR aS) (orO O0_kh (tabH [])) n27_kh.f n27_kh.xs (put n27_kh.H []) = some (n27_kh.x, put n27_kh.H' []) := by kernel_rfl
theorem ok27_kh (aR aS : Addr) : @HOk env0 Tryz.prog (glob aR aS) n27_kh := @hOk_of_run' env0 _ _ _ (@orO_holds env0 _ _ _ _ (O0h_kh aR aS) (@tabH_holds env0 _ _ _ (hk27_kh aR aS))) namesOk0 mixed _ (fun cs h => by
  have h : cs.length = 0 := h.trans (by kernel_rfl : (lcs n27_kh.H).length = 0)
  obtain rfl := lc0 h
  exact run27_kh aR aS )
end
end Go.Proofs.YthlbienfimdkbaaGreatDoor

namespace Go.Proofs.YthlbienfimdkbaaGreatDoor
open Go Go.RX
set_option maxRecDepth 1000000
noncomputable section
theorem hk51_kh (aR aS : Addr) : ∀ e ∈ ([] : List HEntry), @HOk env0 Tryz.prog (glob aR aS) e := fun e he => by
  cases he
theorem run51_kh (aR aS : Addr) : @callH env0 Tryz.prog (glob aR aS) (orO O0_kh (tabH [])) n51_kh.f n51_kh.xs (put n51_kh.H []) = some (n51_kh.x, put n51_kh.H' []) := by kernel_rfl
theorem ok51_kh (aR aS : Addr) : @HOk env0 Tryz.prog (glob aR aS) n51_kh := @hOk_of_run' env0 _ _ _ (@orO_holds env0 _ _ _ _ (O0h_kh aR aS) (@tabH_holds env0 _ _ _ (hk51_kh aR aS))) namesOk0 mixed _ (fun cs h => by
  have h : cs.length = 0 := h.trans (by kernel_rfl : (lcs n51_kh.H).length = 0)
  obtain rfl := lc0 h
  exact run51_kh aR aS )
end
end Go.Proofs.YthlbienfimdkbaaGreatDoor
