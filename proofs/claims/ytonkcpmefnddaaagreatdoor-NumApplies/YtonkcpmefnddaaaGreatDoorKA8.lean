import Derived.Test.YtonkcpmefnddaaaGreatDoorKA0
namespace Go.Proofs.YtonkcpmefnddaaaGreatDoor
open Go Go.RX
set_option maxRecDepth 1000000
noncomputable section
def tab8 : List Entry := [
  (14, [.int .i64 2, .agg #[.int .i64 5, .int .u64 255]], .tuple #[.agg #[.int .i64 2, .int .u64 65535], .int .i64 0]),
  (14, [.int .i64 9, .agg #[.int .i64 3, .int .u64 16777217]], .tuple #[.agg #[.int .i64 9, .int .u64 1266679808], .int .i64 0]),
  (15, [.int .i64 2, .agg #[.int .i64 5, .int .u64 255]], .tuple #[.agg #[.int .i64 2, .int .u64 0], .int .i64 0])]
theorem run8 (aR aS : Addr) : tab8.map (fun e => (@call env0 Tryz.prog (glob aR aS) (fun _ _ => none) 300 60 (.fn e.1) (e.2.1.map .v) []).map fun r => nrm r.1) = tab8.map fun e => some (.v e.2.2) := by kernel_rfl
theorem tab8_ok (aR aS : Addr) : TabOk Tryz.prog (glob aR aS) tab8 := @tabOk_of_run env0 _ _ _ (@noO_holds env0 _ _) namesOk0 mixed _ _ _ (run8 aR aS)
end
end Go.Proofs.YtonkcpmefnddaaaGreatDoor
