import Derived.Test.YthlbienfimdkbaaGreatDoorKIB
import Derived.Test.YthlbienfimdkbaaGreatDoorKHB
import Derived.Test.YthlbienfimdkbaaGreatDoorKH12
import Derived.Test.YthlbienfimdkbaaGreatDoorHD
namespace Go.Proofs.YthlbienfimdkbaaGreatDoor
open Go Go.RX
set_option maxRecDepth 1000000
noncomputable section
theorem hk127_ki (aR aS : Addr) : ∀ e ∈ ([n22_ki] : List HEntry), @HOk env0 Tryz.prog (glob aR aS) e := fun e he => by
  rcases List.mem_cons.1 he with rfl | he
  · exact ok22_ki aR aS
  cases he
theorem run127_ki (aR aS : Addr) (c0 c1 : LC) : @callH env0 Tryz.prog (glob aR aS) (orO O0_ki (tabH [n22_ki])) n127_ki.f n127_ki.xs (put n127_ki.H [c0, c1]) = some (n127_ki.x, put n127_ki.H' [c0, c1]) := by kernel_rfl
theorem ok127_ki (aR aS : Addr) : @HOk env0 Tryz.prog (glob aR aS) n127_ki := @hOk_of_run' env0 _ _ _ (@orO_holds env0 _ _ _ _ (O0h_ki aR aS) (@tabH_holds env0 _ _ _ (hk127_ki aR aS))) namesOk0 mixed _ (fun cs h => by
  have h0 : cs.length = 2 := h.trans (by kernel_rfl : (lcs n127_ki.H).length = 2)
  clear h
  obtain ⟨c0, d0, rfl, h1⟩ := lcS h0
  obtain ⟨c1, d1, rfl, h2⟩ := lcS h1
  obtain rfl := lc0 h2
  exact run127_ki aR aS c0 c1)
end
end Go.Proofs.YthlbienfimdkbaaGreatDoor

namespace Go.Proofs.YthlbienfimdkbaaGreatDoor
open Go Go.RX
set_option maxRecDepth 1000000
noncomputable section
theorem hk58_kh (aR aS : Addr) : ∀ e ∈ ([n12_kh, n127_ki] : List HEntry), @HOk env0 Tryz.prog (glob aR aS) e := fun e he => by
  rcases List.mem_cons.1 he with rfl | he
  · exact ok12_kh aR aS
  rcases List.mem_cons.1 he with rfl | he
  · exact ok127_ki aR aS
  cases he
theorem run58_kh (aR aS : Addr) (c0 : LC) : @callH env0 Tryz.prog (glob aR aS) (orO O0_kh (tabH [n12_kh, n127_ki])) n58_kh.f n58_kh.xs (put n58_kh.H [c0]) = some (n58_kh.x, put n58_kh.H' [c0]) := by kernel_rfl
theorem ok58_kh (aR aS : Addr) : @HOk env0 Tryz.prog (glob aR aS) n58_kh := @hOk_of_run' env0 _ _ _ (@orO_holds env0 _ _ _ _ (O0h_kh aR aS) (@tabH_holds env0 _ _ _ (hk58_kh aR aS))) namesOk0 mixed _ (fun cs h => by
  have h0 : cs.length = 1 := h.trans (by kernel_rfl : (lcs n58_kh.H).length = 1)
  clear h
  obtain ⟨c0, d0, rfl, h1⟩ := lcS h0
  obtain rfl := lc0 h1
  exact run58_kh aR aS c0)
end
end Go.Proofs.YthlbienfimdkbaaGreatDoor

namespace Go.Proofs.YthlbienfimdkbaaGreatDoor
open Go Go.RX
set_option maxRecDepth 1000000
noncomputable section
theorem hk57_kh (aR aS : Addr) : ∀ e ∈ ([n12_kh, n58_kh] : List HEntry), @HOk env0 Tryz.prog (glob aR aS) e := fun e he => by
  rcases List.mem_cons.1 he with rfl | he
  · exact ok12_kh aR aS
  rcases List.mem_cons.1 he with rfl | he
  · exact ok58_kh aR aS
  cases he
theorem run57_kh (aR aS : Addr) : @callH env0 Tryz.prog (glob aR aS) (orO O0_kh (tabH [n12_kh, n58_kh])) n57_kh.f n57_kh.xs (put n57_kh.H []) = some (n57_kh.x, put n57_kh.H' []) := by kernel_rfl
theorem ok57_kh (aR aS : Addr) : @HOk env0 Tryz.prog (glob aR aS) n57_kh := @hOk_of_run' env0 _ _ _ (@orO_holds env0 _ _ _ _ (O0h_kh aR aS) (@tabH_holds env0 _ _ _ (hk57_kh aR aS))) namesOk0 mixed _ (fun cs h => by
  have h : cs.length = 0 := h.trans (by kernel_rfl : (lcs n57_kh.H).length = 0)
  obtain rfl := lc0 h
  exact run57_kh aR aS )
end
end Go.Proofs.YthlbienfimdkbaaGreatDoor

namespace Go.Proofs.YthlbienfimdkbaaGreatDoor
open Go Go.RX
set_option maxRecDepth 1000000
noncomputable section
theorem hk55_kh (aR aS : Addr) : ∀ e ∈ ([n59_kh, n12_kh, n57_kh] : List HEntry), @HOk env0 Tryz.prog (glob aR aS) e := fun e he => by
  rcases List.mem_cons.1 he with rfl | he
  · exact ok59_kh aR aS
  rcases List.mem_cons.1 he with rfl | he
  · exact ok12_kh aR aS
  rcases List.mem_cons.1 he with rfl | he
  · exact ok57_kh aR aS
  cases he
theorem run55_kh (aR aS : Addr) : @callH env0 Tryz.prog (glob aR aS) (orO O0_kh (tabH [n59_kh, n12_kh, n57_kh])) n55_kh.f n55_kh.xs (put n55_kh.H []) = some (n55_kh.x, put n55_kh.H' []) := by kernel_rfl
theorem ok55_kh (aR aS : Addr) : @HOk env0 Tryz.prog (glob aR aS) n55_kh := @hOk_of_run' env0 _ _ _ (@orO_holds env0 _ _ _ _ (O0h_kh aR aS) (@tabH_holds env0 _ _ _ (hk55_kh aR aS))) namesOk0 mixed _ (fun cs h => by
  have h : cs.length = 0 := h.trans (by kernel_rfl : (lcs n55_kh.H).length = 0)
  obtain rfl := lc0 h
  exact run55_kh aR aS )
end
end Go.Proofs.YthlbienfimdkbaaGreatDoor
