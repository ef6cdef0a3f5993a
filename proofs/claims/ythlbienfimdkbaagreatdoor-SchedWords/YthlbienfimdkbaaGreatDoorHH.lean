import Derived.Test.YthlbienfimdkbaaGreatDoorKQB
namespace Go.Proofs.YthlbienfimdkbaaGreatDoor
open Go Go.RX
set_option maxRecDepth 1000000
noncomputable section
theorem hk94_kq (aR aS : Addr) : ∀ e ∈ ([n22_kq] : List HEntry), @HOk env0 Tryz.prog (glob aR aS) e := fun e he => by
  rcases List.mem_cons.1 he with rfl | he
  · exact ok22_kq aR aS
  cases he
theorem run94_kq (aR aS : Addr) : @callH env0 Tryz.prog (glob aR aS) (orO O0_kq (tabH [n22_kq])) n94_kq.f n94_kq.xs (put n94_kq.H []) = some (n94_kq.x, put n94_kq.H' []) := by kernel_rfl
theorem ok94_kq (aR aS : Addr) : @HOk env0 Tryz.prog (glob aR aS) n94_kq := @hOk_of_run' env0 _ _ _ (@orO_holds env0 _ _ _ _ (O0h_kq aR aS) (@tabH_holds env0 _ _ _ (hk94_kq aR aS))) namesOk0 mixed _ (fun cs h => by
  have h0 : cs.length = 0 := h.trans (by kernel_rfl : (lcs n94_kq.H).length = 0)
  clear h
  obtain rfl := lc0 h0
  exact run94_kq aR aS )
end
end Go.Proofs.YthlbienfimdkbaaGreatDoor

namespace Go.Proofs.YthlbienfimdkbaaGreatDoor
open Go Go.RX
set_option maxRecDepth 1000000
noncomputable section
theorem hk96_kq (aR aS : Addr) : ∀ e ∈ ([n22_kq] : List HEntry), @HOk env0 Tryz.prog (glob aR aS) e := fun e he => by
  rcases List.mem_cons.1 he with rfl | he
  · exact ok22_kq aR aS
  cases he
theorem run96_kq (aR aS : Addr) (c0 : LC) : @callH env0 Tryz.prog (glob aR aS) (orO O0_kq (tabH [n22_kq])) n96_kq.f n96_kq.xs (put n96_kq.H [c0]) = some (n96_kq.x, put n96_kq.H' [c0]) := by kernel_rfl
theorem ok96_kq (aR aS : Addr) : @HOk env0 Tryz.prog (glob aR aS) n96_kq := @hOk_of_run' env0 _ _ _ (@orO_holds env0 _ _ _ _ (O0h_kq aR aS) (@tabH_holds env0 _ _ _ (hk96_kq aR aS))) namesOk0 mixed _ (fun cs h => by
  have h0 : cs.length = 1 := h.trans (by kernel_rfl : (lcs n96_kq.H).length = 1)
  clear h
  obtain ⟨c0, d0, rfl, h1⟩ := lcS h0
  obtain rfl := lc0 h1
  exact run96_kq aR aS c0)
end
end Go.Proofs.YthlbienfimdkbaaGreatDoor
