import Derived.Test.YthlbienfimdkbaaGreatDoorKQB
import Derived.Test.YthlbienfimdkbaaGreatDoorHH
namespace Go.Proofs.YthlbienfimdkbaaGreatDoor
open Go Go.RX
set_option maxRecDepth 1000000
noncomputable section
theorem hk100_kq (aR aS : Addr) : ∀ e ∈ ([n22_kq] : List HEntry), @HOk env0 Tryz.prog (glob aR aS) e := fun e he => by
  rcases List.mem_cons.1 he with rfl | he
  · exact ok22_kq aR aS
  cases he
theorem run100_kq (aR aS : Addr) (c0 : LC) : @callH env0 Tryz.prog (glob aR aS) (orO O0_kq (tabH [n22_kq])) n100_kq.f n100_kq.xs (put n100_kq.H [c0]) = some (n100_kq.x, put n100_kq.H' [c0]) := by kernel_rfl
theorem ok100_kq (aR aS : Addr) : @HOk env0 Tryz.prog (glob aR aS) n100_kq := @hOk_of_run' env0 _ _ _ (@orO_holds env0 _ _ _ _ (O0h_kq aR aS) (@tabH_holds env0 _ _ _ (hk100_kq aR aS))) namesOk0 mixed _ (fun cs h => by
  have h0 : cs.length = 1 := h.trans (by kernel_rfl : (lcs n100_kq.H).length = 1)
  clear h
  obtain ⟨c0, d0, rfl, h1⟩ := lcS h0
  obtain rfl := lc0 h1
  exact run100_kq aR aS c0)
end
end Go.Proofs.YthlbienfimdkbaaGreatDoor

namespace Go.Proofs.YthlbienfimdkbaaGreatDoor
open Go Go.RX
set_option maxRecDepth 1000000
noncomputable section
theorem hk95_kq (aR aS : Addr) : ∀ e ∈ ([n96_kq, n100_kq] : List HEntry), @HOk env0 Tryz.prog (glob aR aS) e := fun e he => by
  rcases List.mem_cons.1 he with rfl | he
  · exact ok96_kq aR aS
  rcases List.mem_cons.1 he with rfl | he
  · exact ok100_kq aR aS
  cases he
theorem run95_kq (aR aS : Addr) : @callH env0 Tryz.prog (glob aR aS) (orO O0_kq (tabH [n96_kq, n100_kq])) n95_kq.f n95_kq.xs (put n95_kq.H []) = some (n95_kq.x, put n95_kq.H' []) := by kernel_rfl
theorem ok95_kq (aR aS : Addr) : @HOk env0 Tryz.prog (glob aR aS) n95_kq := @hOk_of_run' env0 _ _ _ (@orO_holds env0 _ _ _ _ (O0h_kq aR aS) (@tabH_holds env0 _ _ _ (hk95_kq aR aS))) namesOk0 mixed _ (fun cs h => by
  have h0 : cs.length = 0 := h.trans (by kernel_rfl : (lcs n95_kq.H).length = 0)
  clear h
  obtain rfl := lc0 h0
  exact run95_kq aR aS )
end
end Go.Proofs.YthlbienfimdkbaaGreatDoor
