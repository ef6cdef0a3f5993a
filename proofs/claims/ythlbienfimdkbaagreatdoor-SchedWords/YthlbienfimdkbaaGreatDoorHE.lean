import Derived.Test.YthlbienfimdkbaaGreatDoorKHB
import Derived.Test.YthlbienfimdkbaaGreatDoorKH12
namespace Go.Proofs.YthlbienfimdkbaaGreatDoor
open Go Go.RX
set_option maxRecDepth 1000000
noncomputable section
theorem hk14_kh (aR aS : Addr) : ∀ e ∈ ([n12_kh] : List HEntry), @HOk env0 Tryz.prog (glob aR aS) e := fun e he => by
  rcases List.mem_cons.1 he with rfl | he
  · exact ok12_kh aR aS
  cases he
theorem run14_kh (aR aS : Addr) (c0 : LC) : @callH env0 Tryz.prog (glob aR aS) (orO O0_kh (tabH [n12_kh])) n14_kh.f n14_kh.xs (put n14_kh.H [c0]) = some (n14_kh.x, put n14_kh.H' [c0]) := by kernel_rfl
theorem ok14_kh (aR aS : Addr) : @HOk env0 Tryz.prog (glob aR aS) n14_kh := @hOk_of_run' env0 _ _ _ (@orO_holds env0 _ _ _ _ (O0h_kh aR aS) (@tabH_holds env0 _ _ _ (hk14_kh aR aS))) namesOk0 mixed _ (fun cs h => by
  have h0 : cs.length = 1 := h.trans (by kernel_rfl : (lcs n14_kh.H).length = 1)
  clear h
  obtain ⟨c0, d0, rfl, h1⟩ := lcS h0
  obtain rfl := lc0 h1
  exact run14_kh aR aS c0)
end
end Go.Proofs.YthlbienfimdkbaaGreatDoor

namespace Go.Proofs.YthlbienfimdkbaaGreatDoor
open Go Go.RX
set_option maxRecDepth 1000000
noncomputable section
theorem hk11_kh (aR aS : Addr) : ∀ e ∈ ([n12_kh, n14_kh] : List HEntry), @HOk env0 Tryz.prog (glob aR aS) e := fun e he => by
  rcases List.mem_cons.1 he with rfl | he
  · exact ok12_kh aR aS
  rcases List.mem_cons.1 he with rfl | he
  · exact ok14_kh aR aS
  cases he
theorem run11_kh (aR aS : Addr) : @callH env0 Tryz.prog (glob aR aS) (orO O0_kh (tabH [n12_kh, n14_kh])) n11_kh.f n11_kh.xs (put n11_kh.H []) = some (n11_kh.x, put n11_kh.H' []) := by kernel_rfl
theorem ok11_kh (aR aS : Addr) : @HOk env0 Tryz.prog (glob aR aS) n11_kh := @hOk_of_run' env0 _ _ _ (@orO_holds env0 _ _ _ _ (O0h_kh aR aS) (@tabH_holds env0 _ _ _ (hk11_kh aR aS))) namesOk0 mixed _ (fun cs h => by
  have h : cs.length = 0 := h.trans (by kernel_rfl : (lcs n11_kh.H).length = 0)
  obtain rfl := lc0 h
  exact run11_kh aR aS )
end
end Go.Proofs.YthlbienfimdkbaaGreatDoor

namespace Go.Proofs.YthlbienfimdkbaaGreatDoor
open Go Go.RX
set_option maxRecDepth 1000000
noncomputable section
theorem hk10_kh (aR aS : Addr) : ∀ e ∈ ([n11_kh] : List HEntry), @HOk env0 Tryz.prog (glob aR aS) e := fun e he => by
  rcases List.mem_cons.1 he with rfl | he
  · exact ok11_kh aR aS
  cases he
theorem run10_kh (aR aS : Addr) : @callH env0 Tryz.prog (glob aR aS) (orO O0_kh (tabH [n11_kh])) n10_kh.f n10_kh.xs (put n10_kh.H []) = some (n10_kh.x, put n10_kh.H' []) := by kernel_rfl
theorem ok10_kh (aR aS : Addr) : @HOk env0 Tryz.prog (glob aR aS) n10_kh := @hOk_of_run' env0 _ _ _ (@orO_holds env0 _ _ _ _ (O0h_kh aR aS) (@tabH_holds env0 _ _ _ (hk10_kh aR aS))) namesOk0 mixed _ (fun cs h => by
  have h : cs.length = 0 := h.trans (by kernel_rfl : (lcs n10_kh.H).length = 0)
  obtain rfl := lc0 h
  exact run10_kh aR aS )
end
end Go.Proofs.YthlbienfimdkbaaGreatDoor
