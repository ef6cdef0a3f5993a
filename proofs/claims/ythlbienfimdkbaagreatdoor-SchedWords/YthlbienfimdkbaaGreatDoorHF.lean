import Derived.Test.YthlbienfimdkbaaGreatDoorKHB
import Derived.Test.YthlbienfimdkbaaGreatDoorKH12
namespace Go.Proofs.YthlbienfimdkbaaGreatDoor
open Go Go.RX
set_option maxRecDepth 1000000
noncomputable section
theorem hk33_kh (aR aS : Addr) : ∀ e ∈ ([n12_kh] : List HEntry), @HOk env0 Tryz.prog (glob aR aS) e := fun e he => by
  rcases List.mem_cons.1 he with rfl | he
  · exact ok12_kh aR aS
  cases he
theorem run33_kh (aR aS : Addr) (c0 : LC) : @callH env0 Tryz.prog (glob aR aS) (orO O0_kh (tabH [n12_kh])) n33_kh.f n33_kh.xs (put n33_kh.H [c0]) = some (n33_kh.x, put n33_kh.H' [c0]) := by kernel_rfl
theorem ok33_kh (aR aS : Addr) : @HOk env0 Tryz.prog (glob aR aS) n33_kh := @hOk_of_run' env0 _ _ _ (@orO_holds env0 _ _ _ _ (O0h_kh aR aS) (@tabH_holds env0 _ _ _ (hk33_kh aR aS))) namesOk0 mixed _ (fun cs h => by
  have h0 : cs.length = 1 := h.trans (by kernel_rfl : (lcs n33_kh.H).length = 1)
  clear h
  obtain ⟨c0, d0, rfl, h1⟩ := lcS h0
  obtain rfl := lc0 h1
  exact run33_kh aR aS c0)
end
end Go.Proofs.YthlbienfimdkbaaGreatDoor

namespace Go.Proofs.YthlbienfimdkbaaGreatDoor
open Go Go.RX
set_option maxRecDepth 1000000
noncomputable section
theorem hk31_kh (aR aS : Addr) : ∀ e ∈ ([n12_kh, n33_kh] : List HEntry), @HOk env0 Tryz.prog (glob aR aS) e := fun e he => by
  rcases List.mem_cons.1 he with rfl | he
  · exact ok12_kh aR aS
  rcases List.mem_cons.1 he with rfl | he
  · exact ok33_kh aR aS
  cases he
theorem run31_kh (aR aS : Addr) : @callH env0 Tryz.prog (glob aR aS) (orO O0_kh (tabH [n12_kh, n33_kh])) n31_kh.f n31_kh.xs (put n31_kh.H []) = some (n31_kh.x, put n31_kh.H' []) := by kernel_rfl
theorem ok31_kh (aR aS : Addr) : @HOk env0 Tryz.prog (glob aR aS) n31_kh := @hOk_of_run' env0 _ _ _ (@orO_holds env0 _ _ _ _ (O0h_kh aR aS) (@tabH_holds env0 _ _ _ (hk31_kh aR aS))) namesOk0 mixed _ (fun cs h => by
  have h : cs.length = 0 := h.trans (by kernel_rfl : (lcs n31_kh.H).length = 0)
  obtain rfl := lc0 h
  exact run31_kh aR aS )
end
end Go.Proofs.YthlbienfimdkbaaGreatDoor

namespace Go.Proofs.YthlbienfimdkbaaGreatDoor
open Go Go.RX
set_option maxRecDepth 1000000
noncomputable section
theorem hk29_kh (aR aS : Addr) : ∀ e ∈ ([n31_kh] : List HEntry), @HOk env0 Tryz.prog (glob aR aS) e := fun e he => by
  rcases List.mem_cons.1 he with rfl | he
  · exact ok31_kh aR aS
  cases he
theorem run29_kh (aR aS : Addr) : @callH env0 Tryz.prog (glob aR aS) (orO O0_kh (tabH [n31_kh])) n29_kh.f n29_kh.xs (put n29_kh.H []) = some (n29_kh.x, put n29_kh.H' []) := by kernel_rfl
theorem ok29_kh (aR aS : Addr) : @HOk env0 Tryz.prog (glob aR aS) n29_kh := @hOk_of_run' env0 _ _ _ (@orO_holds env0 _ _ _ _ (O0h_kh aR aS) (@tabH_holds env0 _ _ _ (hk29_kh aR aS))) namesOk0 mixed _ (fun cs h => by
  have h : cs.length = 0 := h.trans (by kernel_rfl : (lcs n29_kh.H).length = 0)
  obtain rfl := lc0 h
  exact run29_kh aR aS )
end
end Go.Proofs.YthlbienfimdkbaaGreatDoor
