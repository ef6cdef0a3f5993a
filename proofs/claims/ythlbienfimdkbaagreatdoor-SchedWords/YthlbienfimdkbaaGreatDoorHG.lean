import Derived.Test.YthlbienfimdkbaaGreatDoorKHB
import Derived.Test.YthlbienfimdkbaaGreatDoorKH12
namespace Go.Proofs.YthlbienfimdkbaaGreatDoor
open Go Go.RX
set_option maxRecDepth 1000000
noncomputable section
theorem hk42_kh (aR aS : Addr) : ∀ e ∈ ([n12_kh] : List HEntry), @HOk env0 Tryz.prog (glob aR aS) e := fun e he => by
  rcases List.mem_cons.1 he with rfl | he
  · exact ok12_kh aR aS
  cases he
theorem run42_kh (aR aS : Addr) (c0 : LC) : @callH env0 Tryz.prog (glob aR aS) (orO O0_kh (tabH [n12_kh])) n42_kh.f n42_kh.xs (put n42_kh.H [c0]) = some (n42_kh.x, put n42_kh.H' [c0]) := by kernel_rfl
theorem ok42_kh (aR aS : Addr) : @HOk env0 Tryz.prog (glob aR aS) n42_kh := @hOk_of_run' env0 _ _ _ (@orO_holds env0 _ _ _ _ (O0h_kh aR aS) (@tabH_holds env0 _ _ _ (hk42_kh aR aS))) namesOk0 mixed _ (fun cs h => by
  have h0 : cs.length = 1 := h.trans (by kernel_rfl : (lcs n42_kh.H).length = 1)
  clear h
  obtain ⟨c0, d0, rfl, h1⟩ := lcS h0
  obtain rfl := lc0 h1
  exact run42_kh aR aS c0)
end
end Go.Proofs.YthlbienfimdkbaaGreatDoor

namespace Go.Proofs.YthlbienfimdkbaaGreatDoor
open Go Go.RX
set_option maxRecDepth 1000000
noncomputable section
theorem hk40_kh (aR aS : Addr) : ∀ e ∈ ([n12_kh, n42_kh] : List HEntry), @HOk env0 Tryz.prog (glob aR aS) e := fun e he => by
  rcases List.mem_cons.1 he with rfl | he
  · exact ok12_kh aR aS
  rcases List.mem_cons.1 he with rfl | he
  · exact ok42_kh aR aS
  cases he
theorem run40_kh (aR aS : Addr) : @callH env0 Tryz.prog (glob aR aS) (orO O0_kh (tabH [n12_kh, n42_kh])) n40_kh.f n40_kh.xs (put n40_kh.H []) = some (n40_kh.x, put n40_kh.H' []) := by kernel_rfl
theorem ok40_kh (aR aS : Addr) : @HOk env0 Tryz.prog (glob aR aS) n40_kh := @hOk_of_run' env0 _ _ _ (@orO_holds env0 _ _ _ _ (O0h_kh aR aS) (@tabH_holds env0 _ _ _ (hk40_kh aR aS))) namesOk0 mixed _ (fun cs h => by
  have h : cs.length = 0 := h.trans (by kernel_rfl : (lcs n40_kh.H).length = 0)
  obtain rfl := lc0 h
  exact run40_kh aR aS )
end
end Go.Proofs.YthlbienfimdkbaaGreatDoor

namespace Go.Proofs.YthlbienfimdkbaaGreatDoor
open Go Go.RX
set_option maxRecDepth 1000000
noncomputable section
theorem hk38_kh (aR aS : Addr) : ∀ e ∈ ([n40_kh] : List HEntry), @HOk env0 Tryz.prog (glob aR aS) e := fun e he => by
  rcases List.mem_cons.1 he with rfl | he
  · exact ok40_kh aR aS
  cases he
theorem run38_kh (aR aS : Addr) : @callH env0 Tryz.prog (glob aR aS) (orO O0_kh (tabH [n40_kh])) n38_kh.f n38_kh.xs (put n38_kh.H []) = some (n38_kh.x, put n38_kh.H' []) := by kernel_rfl
theorem ok38_kh (aR aS : Addr) : @HOk env0 Tryz.prog (glob aR aS) n38_kh := @hOk_of_run' env0 _ _ _ (@orO_holds env0 _ _ _ _ (O0h_kh aR aS) (@tabH_holds env0 _ _ _ (hk38_kh aR aS))) namesOk0 mixed _ (fun cs h => by
  have h : cs.length = 0 := h.trans (by kernel_rfl : (lcs n38_kh.H).length = 0)
  obtain rfl := lc0 h
  exact run38_kh aR aS )
end
end Go.Proofs.YthlbienfimdkbaaGreatDoor
