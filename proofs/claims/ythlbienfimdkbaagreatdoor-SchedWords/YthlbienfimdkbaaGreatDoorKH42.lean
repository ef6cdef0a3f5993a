import Derived.Test.YthlbienfimdkbaaGreatDoorKHB
import Derived.Test.YthlbienfimdkbaaGreatDoorKH12
namespace Go.Proofs.YthlbienfimdkbaaGreatDoor
open Go Go.RX
set_option maxRecDepth 1000000
noncomputable section
theorem hk42_kh (aR aS : Addr) : ∀ e ∈ ([n12_kh] : List HEntry), @HOk env0 Tryz.prog (glob aR aS) e := fun e he => by
  rcases List.mem_cons.1 he with rfl | he
  · exact ok12_kh aR aS
  cases he
theorem run42_kh (aR aS : Addr) (c0 : LC) : @callH env0 Tryz.prog (glob aR aS) (orO O0_kh (tabH [n12_kh])) n42_kh.f n42_kh.xs (put n42_kh.H [c0]) = some (n42_kh.x, put n42_kh.H' [c0]) := by kernel_rfl
theorem ok42_kh (aR aS : Addr) : @HOk env0 Tryz.prog (glob aR aS) n42_kh := @hOk_of_run' env0 _ _ _ (@orO_holds env0 _ _ _ _ (O0h_kh aR aS) (@tabH_holds env0 _ _ _ (hk42_kh aR aS))) namesOk0 mixed _ (fun cs h => by
  have h0 : cs.length = 1 := h.trans (by kernel_rfl : (lcs n42_kh.H).length = 1)
  clear h
  obtain ⟨c0, d0, rfl, h1⟩ := lcS h0
  obtain rfl := lc0 h1
  exact run42_kh aR aS c0)
end
end Go.Proofs.YthlbienfimdkbaaGreatDoor
