import Derived.Test.YtonkcpmefnddaaaGreatDoorKA1
import Derived.Test.YtonkcpmefnddaaaGreatDoorKA2
import Derived.Test.YtonkcpmefnddaaaGreatDoorKA3
import Derived.Test.YtonkcpmefnddaaaGreatDoorKA4
import Derived.Test.YtonkcpmefnddaaaGreatDoorKA5
import Derived.Test.YtonkcpmefnddaaaGreatDoorKA6
import Derived.Test.YtonkcpmefnddaaaGreatDoorKA7
import Derived.Test.YtonkcpmefnddaaaGreatDoorKA8
import Derived.Test.YtonkcpmefnddaaaGreatDoorKA9
import Derived.Test.YtonkcpmefnddaaaGreatDoorKA10
namespace Go.Proofs.YtonkcpmefnddaaaGreatDoor
open Go Go.RX
open Go.RowKit (Below)
set_option maxRecDepth 1000000
noncomputable section
def tabA : List Entry := tab1 ++ tab2 ++ tab3 ++ tab4 ++ tab5 ++ tab6 ++ tab7 ++ tab8 ++ tab9 ++ tab10
theorem app {G : Glob} {T U : List Entry} (h : TabOk Tryz.prog G T) (k : TabOk Tryz.prog G U) : TabOk Tryz.prog G (T ++ U) := TabOk.append h k
theorem tabA_ok (aR aS : Addr) : TabOk Tryz.prog (glob aR aS) tabA := (app (app (app (app (app (app (app (app (app (tab1_ok aR aS) (tab2_ok aR aS)) (tab3_ok aR aS)) (tab4_ok aR aS)) (tab5_ok aR aS)) (tab6_ok aR aS)) (tab7_ok aR aS)) (tab8_ok aR aS)) (tab9_ok aR aS)) (tab10_ok aR aS))
theorem runA (aR aS : Addr) : [(4, [], .bool true)].map (fun e : Entry => (@call env0 Tryz.prog (glob aR aS) (tabO tabA) 300 60 (.fn e.1) (e.2.1.map .v) []).map fun r => nrm r.1) = [(4, [], .bool true)].map fun e : Entry => some (.v e.2.2) := by kernel_rfl
/-- The examples of the chapter stand. -/
theorem awake_ok (aR aS : Addr) (w : World) (hG : (glob aR aS).holds w) : Calls Tryz.prog 4 #[] w fun r w' => r = .returned (.bool true) ∧ Below w.heap.size w w' :=
  @tabOk_of_run env0 _ _ _ (@tabO_holds env0 _ _ _ (tabA_ok aR aS)) namesOk0 mixed _ _ _ (runA aR aS) _ (List.mem_singleton.2 rfl) w hG
end
end Go.Proofs.YtonkcpmefnddaaaGreatDoor
