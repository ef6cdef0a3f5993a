import Derived.Test.YtonkcpmefnddaaaGreatDoorKA0
namespace Go.Proofs.YtonkcpmefnddaaaGreatDoor
open Go Go.RX
set_option maxRecDepth 1000000
noncomputable section
def tab1 : List Entry := [
  (7, [.int .i64 10, .agg #[.int .i64 1, .int .u64 7], .agg #[.int .i64 1, .int .u64 0]], .tuple #[.agg #[.int .i64 1, .int .u64 0], .int .i64 0]),
  (7, [.int .i64 10, .agg #[.int .i64 5, .int .u64 249], .agg #[.int .i64 5, .int .u64 254]], .tuple #[.agg #[.int .i64 5, .int .u64 1], .int .i64 0]),
  (7, [.int .i64 10, .agg #[.int .i64 5, .int .u64 249], .agg #[.int .i64 5, .int .u64 2]], .tuple #[.agg #[.int .i64 5, .int .u64 1], .int .i64 0]),
  (7, [.int .i64 16, .agg #[.int .i64 1, .int .u64 1], .agg #[.int .i64 1, .int .u64 7]], .tuple #[.agg #[.int .i64 1, .int .u64 128], .int .i64 0]),
  (7, [.int .i64 16, .agg #[.int .i64 1, .int .u64 1], .agg #[.int .i64 1, .int .u64 8]], .tuple #[.agg #[.int .i64 1, .int .u64 0], .int .i64 0]),
  (7, [.int .i64 17, .agg #[.int .i64 5, .int .u64 251], .agg #[.int .i64 5, .int .u64 1]], .tuple #[.agg #[.int .i64 5, .int .u64 253], .int .i64 0])]
theorem run1 (aR aS : Addr) : tab1.map (fun e => (@call env0 Tryz.prog (glob aR aS) (fun _ _ => none) 300 60 (.fn e.1) (e.2.1.map .v) []).map fun r => nrm r.1) = tab1.map fun e => some (.v e.2.2) := by kernel_rfl
theorem tab1_ok (aR aS : Addr) : TabOk Tryz.prog (glob aR aS) tab1 := @tabOk_of_run env0 _ _ _ (@noO_holds env0 _ _) namesOk0 mixed _ _ _ (run1 aR aS)
end
end Go.Proofs.YtonkcpmefnddaaaGreatDoor
