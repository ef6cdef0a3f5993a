import Derived.Test.YtdmbnllekmgnhaaDoorKL
namespace Go.Proofs.YtdmbnllekmgnhaaDoor
open Go Go.RX
set_option maxRecDepth 1000000
noncomputable section
def t_kt0 : List Entry := [
  (67, [.agg #[.int .i64 0, .int .i64 2]], .int .i64 2),
  (49, [.agg #[.int .i64 0, .int .i64 2], .int .i64 1], .bool true),
  (67, [.agg #[.int .i64 2, .int .i64 3]], .int .i64 5),
  (49, [.agg #[.int .i64 2, .int .i64 3], .int .i64 5], .bool false),
  (49, [.agg #[.int .i64 2, .int .i64 3], .int .i64 4], .bool true),
  (49, [.agg #[.int .i64 2, .int .i64 3], .int .i64 3], .bool true),
  (47, [.bool false, .int .i64 1], .int .i64 0),
  (47, [.bool false, .int .i64 11], .int .i64 0),
  (62, [.int .i64 1], .int .i64 0),
  (90, [.int .i64 1], .agg #[.string ⟨#[117, 56]⟩, .int .i64 2, .int .i64 8, .bool false, .int .u64 0, .int .u64 255]),
  (84, [.agg #[.int .i64 1, .int .u64 0]], .int .i64 0),
  (47, [.bool false, .int .i64 5], .int .i64 0),
  (47, [.bool false, .int .i64 3], .int .i64 0),
  (63, [.int .i64 2], .bool false),
  (63, [.int .i64 1], .bool false),
  (47, [.bool false, .int .i64 2], .int .i64 0),
  (70, [.agg #[.int .i64 0, .int .i64 2]], .bool true),
  (69, [.agg #[.int .i64 0, .int .i64 2]], .bool false),
  (70, [.agg #[.int .i64 2, .int .i64 3]], .bool true),
  (69, [.agg #[.int .i64 2, .int .i64 3]], .bool false),
  (49, [.agg #[.int .i64 0, .int .i64 2], .int .i64 2], .bool false),
  (47, [.bool false, .int .i64 14], .int .i64 0),
  (84, [.agg #[.int .i64 1, .int .u64 50]], .int .i64 0),
  (84, [.agg #[.int .i64 1, .int .u64 20]], .int .i64 0),
  (47, [.bool false, .int .i64 10], .int .i64 0),
  (76, [.int .i64 5], .bool false),
  (76, [.int .i64 0], .bool false),
  (47, [.bool false, .int .i64 13], .int .i64 0),
  (84, [.agg #[.int .i64 1, .int .u64 60]], .int .i64 0),
  (84, [.agg #[.int .i64 1, .int .u64 40]], .int .i64 0),
  (84, [.agg #[.int .i64 1, .int .u64 30]], .int .i64 0),
  (84, [.agg #[.int .i64 1, .int .u64 10]], .int .i64 0),
  (63, [.int .i64 3], .bool false),
  (67, [.agg #[.int .i64 1, .int .i64 1]], .int .i64 2),
  (67, [.agg #[.int .i64 3, .int .i64 2]], .int .i64 5),
  (31, [.agg #[.int .i64 2, .int .i64 3], .agg #[.int .i64 3, .int .i64 2]], .agg #[.int .i64 3, .int .i64 2]),
  (70, [.agg #[.int .i64 3, .int .i64 2]], .bool true),
  (69, [.agg #[.int .i64 3, .int .i64 2]], .bool false),
  (67, [.agg #[.int .i64 1, .int .i64 5]], .int .i64 6),
  (70, [.agg #[.int .i64 1, .int .i64 5]], .bool true)]
theorem run_kt0 (aR aS : Addr) : t_kt0.map (fun e => (@call env0 Tryd.prog (glob aR aS) ((fun _ _ _ => none)) 300 60 (.fn e.1) (e.2.1.map .v) []).map fun r => nrm r.1) = t_kt0.map fun e => some (.v e.2.2) := by kernel_rfl
def u_kt0 : List Entry := t_kt0
theorem ok_kt0 (aR aS : Addr) : TabOk Tryd.prog (glob aR aS) u_kt0 := @tabOk_of_run env0 _ _ _ (@noO_holds env0 _ _) namesOk0 mixed _ _ _ (run_kt0 aR aS) ro0
end
end Go.Proofs.YtdmbnllekmgnhaaDoor

namespace Go.Proofs.YtdmbnllekmgnhaaDoor
open Go Go.RX
set_option maxRecDepth 1000000
noncomputable section
def t_kt1 : List Entry := [
  (69, [.agg #[.int .i64 1, .int .i64 5]], .bool false)]
theorem run_kt1 (aR aS : Addr) : t_kt1.map (fun e => (@call env0 Tryd.prog (glob aR aS) (tabO u_kt0) 300 60 (.fn e.1) (e.2.1.map .v) []).map fun r => nrm r.1) = t_kt1.map fun e => some (.v e.2.2) := by kernel_rfl
def u_kt1 : List Entry := t_kt1 ++ u_kt0
theorem ok_kt1 (aR aS : Addr) : TabOk Tryd.prog (glob aR aS) u_kt1 := TabOk.append (@tabOk_of_run env0 _ _ _ (@tabO_holds env0 _ _ _ (ok_kt0 aR aS)) namesOk0 mixed _ _ _ (run_kt1 aR aS) ro0) (ok_kt0 aR aS)
end
end Go.Proofs.YtdmbnllekmgnhaaDoor
