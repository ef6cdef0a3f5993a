import Derived.Test.YtonkcpmefnddaaaGreatDoorKA0
namespace Go.Proofs.YtonkcpmefnddaaaGreatDoor
open Go Go.RX
set_option maxRecDepth 1000000
noncomputable section
def tab3 : List Entry := [
  (7, [.int .i64 21, .agg #[.int .i64 5, .int .u64 128], .agg #[.int .i64 5, .int .u64 127]], .tuple #[.agg #[.int .i64 1, .int .u64 255], .int .i64 0]),
  (7, [.int .i64 6, .agg #[.int .i64 1, .int .u64 200], .agg #[.int .i64 1, .int .u64 100]], .tuple #[.agg #[.int .i64 1, .int .u64 44], .int .i64 0]),
  (7, [.int .i64 6, .agg #[.int .i64 9, .int .u64 1069547520], .agg #[.int .i64 9, .int .u64 1056964608]], .tuple #[.agg #[.int .i64 9, .int .u64 1073741824], .int .i64 0]),
  (7, [.int .i64 7, .agg #[.int .i64 5, .int .u64 100], .agg #[.int .i64 5, .int .u64 156]], .tuple #[.agg #[.int .i64 5, .int .u64 200], .int .i64 0]),
  (7, [.int .i64 8, .agg #[.int .i64 1, .int .u64 16], .agg #[.int .i64 1, .int .u64 17]], .tuple #[.agg #[.int .i64 1, .int .u64 16], .int .i64 0]),
  (7, [.int .i64 8, .agg #[.int .i64 10, .int .u64 4611686019492741120], .agg #[.int .i64 10, .int .u64 13799029259341135872]], .tuple #[.agg #[.int .i64 10, .int .u64 4656722015785320448], .int .i64 0])]
theorem run3 (aR aS : Addr) : tab3.map (fun e => (@call env0 Tryz.prog (glob aR aS) (fun _ _ => none) 300 60 (.fn e.1) (e.2.1.map .v) []).map fun r => nrm r.1) = tab3.map fun e => some (.v e.2.2) := by kernel_rfl
theorem tab3_ok (aR aS : Addr) : TabOk Tryz.prog (glob aR aS) tab3 := @tabOk_of_run env0 _ _ _ (@noO_holds env0 _ _) namesOk0 mixed _ _ _ (run3 aR aS)
end
end Go.Proofs.YtonkcpmefnddaaaGreatDoor
