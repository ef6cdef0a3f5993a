import Derived.Test.YtonkcpmefnddaaaGreatDoorKA0
namespace Go.Proofs.YtonkcpmefnddaaaGreatDoor
open Go Go.RX
set_option maxRecDepth 1000000
noncomputable section
def tab10 : List Entry := [
  (11, [.int .i64 1, .int .i64 0], .agg #[.int .i64 1, .int .u64 0]),
  (11, [.int .i64 1, .int .i64 100], .agg #[.int .i64 1, .int .u64 100]),
  (11, [.int .i64 1, .int .i64 128], .agg #[.int .i64 1, .int .u64 128]),
  (11, [.int .i64 1, .int .i64 16], .agg #[.int .i64 1, .int .u64 16]),
  (11, [.int .i64 1, .int .i64 17], .agg #[.int .i64 1, .int .u64 17]),
  (11, [.int .i64 1, .int .i64 1], .agg #[.int .i64 1, .int .u64 1]),
  (11, [.int .i64 1, .int .i64 200], .agg #[.int .i64 1, .int .u64 200]),
  (11, [.int .i64 1, .int .i64 255], .agg #[.int .i64 1, .int .u64 255]),
  (11, [.int .i64 1, .int .i64 2], .agg #[.int .i64 1, .int .u64 2]),
  (11, [.int .i64 1, .int .i64 44], .agg #[.int .i64 1, .int .u64 44]),
  (11, [.int .i64 1, .int .i64 7], .agg #[.int .i64 1, .int .u64 7]),
  (11, [.int .i64 1, .int .i64 8], .agg #[.int .i64 1, .int .u64 8]),
  (11, [.int .i64 2, .int .i64 0], .agg #[.int .i64 2, .int .u64 0]),
  (11, [.int .i64 2, .int .i64 65535], .agg #[.int .i64 2, .int .u64 65535]),
  (11, [.int .i64 3, .int .i64 16777217], .agg #[.int .i64 3, .int .u64 16777217]),
  (11, [.int .i64 5, .int .i64 (-1)], .agg #[.int .i64 5, .int .u64 255]),
  (11, [.int .i64 5, .int .i64 (-100)], .agg #[.int .i64 5, .int .u64 156]),
  (11, [.int .i64 5, .int .i64 (-128)], .agg #[.int .i64 5, .int .u64 128]),
  (11, [.int .i64 5, .int .i64 (-2)], .agg #[.int .i64 5, .int .u64 254]),
  (11, [.int .i64 5, .int .i64 (-3)], .agg #[.int .i64 5, .int .u64 253]),
  (11, [.int .i64 5, .int .i64 (-4)], .agg #[.int .i64 5, .int .u64 252]),
  (11, [.int .i64 5, .int .i64 (-5)], .agg #[.int .i64 5, .int .u64 251]),
  (11, [.int .i64 5, .int .i64 (-56)], .agg #[.int .i64 5, .int .u64 200]),
  (11, [.int .i64 5, .int .i64 (-7)], .agg #[.int .i64 5, .int .u64 249]),
  (11, [.int .i64 5, .int .i64 0], .agg #[.int .i64 5, .int .u64 0]),
  (11, [.int .i64 5, .int .i64 100], .agg #[.int .i64 5, .int .u64 100]),
  (11, [.int .i64 5, .int .i64 127], .agg #[.int .i64 5, .int .u64 127]),
  (11, [.int .i64 5, .int .i64 1], .agg #[.int .i64 5, .int .u64 1]),
  (11, [.int .i64 5, .int .i64 2], .agg #[.int .i64 5, .int .u64 2]),
  (11, [.int .i64 5, .int .i64 4], .agg #[.int .i64 5, .int .u64 4]),
  (11, [.int .i64 5, .int .i64 5], .agg #[.int .i64 5, .int .u64 5]),
  (11, [.int .i64 5, .int .i64 7], .agg #[.int .i64 5, .int .u64 7])]
theorem run10 (aR aS : Addr) : tab10.map (fun e => (@call env0 Tryz.prog (glob aR aS) (fun _ _ => none) 300 60 (.fn e.1) (e.2.1.map .v) []).map fun r => nrm r.1) = tab10.map fun e => some (.v e.2.2) := by kernel_rfl
theorem tab10_ok (aR aS : Addr) : TabOk Tryz.prog (glob aR aS) tab10 := @tabOk_of_run env0 _ _ _ (@noO_holds env0 _ _) namesOk0 mixed _ _ _ (run10 aR aS)
end
end Go.Proofs.YtonkcpmefnddaaaGreatDoor
