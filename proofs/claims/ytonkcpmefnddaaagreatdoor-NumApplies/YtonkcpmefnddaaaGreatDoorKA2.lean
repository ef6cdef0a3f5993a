import Derived.Test.YtonkcpmefnddaaaGreatDoorKA0
namespace Go.Proofs.YtonkcpmefnddaaaGreatDoor
open Go Go.RX
set_option maxRecDepth 1000000
noncomputable section
def tab2 : List Entry := [
  (7, [.int .i64 17, .agg #[.int .i64 5, .int .u64 251], .agg #[.int .i64 5, .int .u64 255]], .tuple #[.agg #[.int .i64 5, .int .u64 255], .int .i64 0]),
  (7, [.int .i64 17, .agg #[.int .i64 5, .int .u64 5], .agg #[.int .i64 5, .int .u64 255]], .tuple #[.agg #[.int .i64 5, .int .u64 0], .int .i64 0]),
  (7, [.int .i64 18, .agg #[.int .i64 1, .int .u64 200], .agg #[.int .i64 1, .int .u64 100]], .tuple #[.agg #[.int .i64 1, .int .u64 255], .int .i64 0]),
  (7, [.int .i64 19, .agg #[.int .i64 5, .int .u64 100], .agg #[.int .i64 5, .int .u64 156]], .tuple #[.agg #[.int .i64 5, .int .u64 127], .int .i64 0]),
  (7, [.int .i64 20, .agg #[.int .i64 1, .int .u64 1], .agg #[.int .i64 1, .int .u64 2]], .tuple #[.agg #[.int .i64 1, .int .u64 2], .int .i64 0]),
  (7, [.int .i64 20, .agg #[.int .i64 5, .int .u64 255], .agg #[.int .i64 5, .int .u64 254]], .tuple #[.agg #[.int .i64 5, .int .u64 255], .int .i64 0])]
theorem run2 (aR aS : Addr) : tab2.map (fun e => (@call env0 Tryz.prog (glob aR aS) (fun _ _ => none) 300 60 (.fn e.1) (e.2.1.map .v) []).map fun r => nrm r.1) = tab2.map fun e => some (.v e.2.2) := by kernel_rfl
theorem tab2_ok (aR aS : Addr) : TabOk Tryz.prog (glob aR aS) tab2 := @tabOk_of_run env0 _ _ _ (@noO_holds env0 _ _) namesOk0 mixed _ _ _ (run2 aR aS)
end
end Go.Proofs.YtonkcpmefnddaaaGreatDoor
