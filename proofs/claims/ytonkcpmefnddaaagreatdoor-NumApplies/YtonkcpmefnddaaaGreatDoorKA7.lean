import Derived.Test.YtonkcpmefnddaaaGreatDoorKA0
namespace Go.Proofs.YtonkcpmefnddaaaGreatDoor
open Go Go.RX
set_option maxRecDepth 1000000
noncomputable section
def tab7 : List Entry := [
  (12, [.string ⟨#[99, 54, 52, 40, 49, 112, 48, 44, 49, 112, 49, 41]⟩], .tuple #[.agg #[.int .i64 10, .int .u64 4611686019492741120], .int .i64 0]),
  (12, [.string ⟨#[99, 54, 52, 40, 51, 112, 48, 44, 45, 49, 112, 48, 41]⟩], .tuple #[.agg #[.int .i64 10, .int .u64 13799029259341135872], .int .i64 0])]
theorem run7 (aR aS : Addr) : tab7.map (fun e => (@call env0 Tryz.prog (glob aR aS) (fun _ _ => none) 300 60 (.fn e.1) (e.2.1.map .v) []).map fun r => nrm r.1) = tab7.map fun e => some (.v e.2.2) := by kernel_rfl
theorem tab7_ok (aR aS : Addr) : TabOk Tryz.prog (glob aR aS) tab7 := @tabOk_of_run env0 _ _ _ (@noO_holds env0 _ _) namesOk0 mixed _ _ _ (run7 aR aS)
end
end Go.Proofs.YtonkcpmefnddaaaGreatDoor
