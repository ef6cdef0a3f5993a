import Derived.Test.YthlbienfimdkbaaGreatDoorKHB
namespace Go.Proofs.YthlbienfimdkbaaGreatDoor
open Go Go.RX
set_option maxRecDepth 1000000
noncomputable section
theorem hk17_kh (aR aS : Addr) : ∀ e ∈ ([] : List HEntry), @HOk env0 Tryz.prog (glob aR aS) e := fun e he => by
  cases he
theorem run17_kh (aR aS : Addr) : @callH env0 Tryz.prog (glob aR aS) (orO O0_kh (tabH [])) n17_kh.f n17_kh.xs (put n17_kh.H []) = some (n17_kh.x, put n17_kh.H' []) := by kernel_rfl
theorem ok17_kh (aR aS : Addr) : @HOk env0 Tryz.prog (glob aR aS) n17_kh := @hOk_of_run' env0 _ _ _ (@orO_holds env0 _ _ _ _ (O0h_kh aR aS) (@tabH_holds env0 _ _ _ (hk17_kh aR aS))) namesOk0 mixed _ (fun cs h => by
  have h : cs.length = 0 := h.trans (by kernel_rfl : (lcs n17_kh.H).length = 0)
  obtain rfl := lc0 h
  exact run17_kh aR aS )
end
end Go.Proofs.YthlbienfimdkbaaGreatDoor

namespace Go.Proofs.YthlbienfimdkbaaGreatDoor
open Go Go.RX
set_option maxRecDepth 1000000
noncomputable section
theorem hk20_kh (aR aS : Addr) : ∀ e ∈ ([] : List HEntry), @HOk env0 Tryz.prog (glob aR aS) e := fun e he => by
  cases he
theorem run20_kh (aR aS : Addr) : @callH env0 Tryz.prog (glob aR aS) (orO O0_kh (tabH [])) n20_kh.f n20_kh.xs (put n20_kh.H []) = some (n20_kh.x, put n20_kh.H' []) := by kernel_rfl
theorem ok20_kh (aR aS : Addr) : @HOk env0 Tryz.prog (glob aR aS) n20_kh := @hOk_of_run' env0 _ _ _ (@orO_holds env0 _ _ _ _ (O0h_kh aR aS) (@tabH_holds env0 _ _ _ (hk20_kh aR aS))) namesOk0 mixed _ (fun cs h => by
  have h : cs.length = 0 := h.trans (by kernel_rfl : (lcs n20_kh.H).length = 0)
  obtain rfl := lc0 h
  exact run20_kh aR aS )
end
end Go.Proofs.YthlbienfimdkbaaGreatDoor

namespace Go.Proofs.YthlbienfimdkbaaGreatDoor
open Go Go.RX
set_option maxRecDepth 1000000
noncomputable section
theorem hk23_kh (aR aS : Addr) : ∀ e ∈ ([] : List HEntry), @HOk env0 Tryz.prog (glob aR aS) e := fun e he => by
  cases he
theorem run23_kh (aR aS : Addr) : @callH env0 Tryz.prog (glob aR aS) (orO O0_kh (tabH [])) n23_kh.f n23_kh.xs (put n23_kh.H []) = some (n23_kh.x, put n23_kh.H' []) := by kernel_rfl
theorem ok23_kh (aR aS : Addr) : @HOk env0 Tryz.prog (glob aR aS) n23_kh := @hOk_of_run' env0 _ _ _ (@orO_holds env0 _ _ _ _ (O0h_kh aR aS) (@tabH_holds env0 _ _ _ (hk23_kh aR aS))) namesOk0 mixed _ (fun cs h => by
  have h : cs.length = 0 := h.trans (by kernel_rfl : (lcs n23_kh.H).length = 0)
  obtain rfl := lc0 h
  exact run23_kh aR aS )
end
end Go.Proofs.YthlbienfimdkbaaGreatDoor
