import Derived.Test.YthlbienfimdkbaaGreatDoorKHB
namespace Go.Proofs.YthlbienfimdkbaaGreatDoor
open Go Go.RX
set_option maxRecDepth 1000000
noncomputable section
theorem hk59_kh (aR aS : Addr) : ∀ e ∈ ([] : List HEntry), @HOk env0 Tryz.prog (glob aR aS) e := fun e he => by
  cases he
theorem run59_kh (aR aS : Addr) : @callH env0 Tryz.prog (glob aR aS) (orO O0_kh (tabH [])) n59_kh.f n59_kh.xs (put n59_kh.H []) = some (n59_kh.x, put n59_kh.H' []) := by kernel_rfl
theorem ok59_kh (aR aS : Addr) : @HOk env0 Tryz.prog (glob aR aS) n59_kh := @hOk_of_run' env0 _ _ _ (@orO_holds env0 _ _ _ _ (O0h_kh aR aS) (@tabH_holds env0 _ _ _ (hk59_kh aR aS))) namesOk0 mixed _ (fun cs h => by
  have h : cs.length = 0 := h.trans (by kernel_rfl : (lcs n59_kh.H).length = 0)
  obtain rfl := lc0 h
  exact run59_kh aR aS )
end
end Go.Proofs.YthlbienfimdkbaaGreatDoor

namespace Go.Proofs.YthlbienfimdkbaaGreatDoor
open Go Go.RX
set_option maxRecDepth 1000000
noncomputable section
theorem hk65_kh (aR aS : Addr) : ∀ e ∈ ([] : List HEntry), @HOk env0 Tryz.prog (glob aR aS) e := fun e he => by
  cases he
theorem run65_kh (aR aS : Addr) : @callH env0 Tryz.prog (glob aR aS) (orO O0_kh (tabH [])) n65_kh.f n65_kh.xs (put n65_kh.H []) = some (n65_kh.x, put n65_kh.H' []) := by kernel_rfl
theorem ok65_kh (aR aS : Addr) : @HOk env0 Tryz.prog (glob aR aS) n65_kh := @hOk_of_run' env0 _ _ _ (@orO_holds env0 _ _ _ _ (O0h_kh aR aS) (@tabH_holds env0 _ _ _ (hk65_kh aR aS))) namesOk0 mixed _ (fun cs h => by
  have h : cs.length = 0 := h.trans (by kernel_rfl : (lcs n65_kh.H).length = 0)
  obtain rfl := lc0 h
  exact run65_kh aR aS )
end
end Go.Proofs.YthlbienfimdkbaaGreatDoor
