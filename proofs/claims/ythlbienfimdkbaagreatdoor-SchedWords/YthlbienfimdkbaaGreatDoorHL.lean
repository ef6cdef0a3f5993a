import Derived.Test.YthlbienfimdkbaaGreatDoorKIB
import Derived.Test.YthlbienfimdkbaaGreatDoorKHB
import Derived.Test.YthlbienfimdkbaaGreatDoorKH12
namespace Go.Proofs.YthlbienfimdkbaaGreatDoor
open Go Go.RX
set_option maxRecDepth 1000000
noncomputable section
theorem hk140_ki (aR aS : Addr) : ∀ e ∈ ([n22_ki] : List HEntry), @HOk env0 Tryz.prog (glob aR aS) e := fun e he => by
  rcases List.mem_cons.1 he with rfl | he
  · exact ok22_ki aR aS
  cases he
theorem run140_ki (aR aS : Addr) (c0 c1 : LC) : @callH env0 Tryz.prog (glob aR aS) (orO O0_ki (tabH [n22_ki])) n140_ki.f n140_ki.xs (put n140_ki.H [c0, c1]) = some (n140_ki.x, put n140_ki.H' [c0, c1]) := by kernel_rfl
theorem ok140_ki (aR aS : Addr) : @HOk env0 Tryz.prog (glob aR aS) n140_ki := @hOk_of_run' env0 _ _ _ (@orO_holds env0 _ _ _ _ (O0h_ki aR aS) (@tabH_holds env0 _ _ _ (hk140_ki aR aS))) namesOk0 mixed _ (fun cs h => by
  have h0 : cs.length = 2 := h.trans (by kernel_rfl : (lcs n140_ki.H).length = 2)
  clear h
  obtain ⟨c0, d0, rfl, h1⟩ := lcS h0
  obtain ⟨c1, d1, rfl, h2⟩ := lcS h1
  obtain rfl := lc0 h2
  exact run140_ki aR aS c0 c1)
end
end Go.Proofs.YthlbienfimdkbaaGreatDoor

namespace Go.Proofs.YthlbienfimdkbaaGreatDoor
open Go Go.RX
set_option maxRecDepth 1000000
noncomputable section
theorem hk63_kh (aR aS : Addr) : ∀ e ∈ ([n12_kh, n140_ki] : List HEntry), @HOk env0 Tryz.prog (glob aR aS) e := fun e he => by
  rcases List.mem_cons.1 he with rfl | he
  · exact ok12_kh aR aS
  rcases List.mem_cons.1 he with rfl | he
  · exact ok140_ki aR aS
  cases he
theorem run63_kh (aR aS : Addr) (c0 : LC) : @callH env0 Tryz.prog (glob aR aS) (orO O0_kh (tabH [n12_kh, n140_ki])) n63_kh.f n63_kh.xs (put n63_kh.H [c0]) = some (n63_kh.x, put n63_kh.H' [c0]) := by kernel_rfl
theorem ok63_kh (aR aS : Addr) : @HOk env0 Tryz.prog (glob aR aS) n63_kh := @hOk_of_run' env0 _ _ _ (@orO_holds env0 _ _ _ _ (O0h_kh aR aS) (@tabH_holds env0 _ _ _ (hk63_kh aR aS))) namesOk0 mixed _ (fun cs h => by
  have h0 : cs.length = 1 := h.trans (by kernel_rfl : (lcs n63_kh.H).length = 1)
  clear h
  obtain ⟨c0, d0, rfl, h1⟩ := lcS h0
  obtain rfl := lc0 h1
  exact run63_kh aR aS c0)
end
end Go.Proofs.YthlbienfimdkbaaGreatDoor
