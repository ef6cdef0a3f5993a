import Derived.Test.YtgecchiocfkpkaaGreatDoorKA0
namespace Go.Proofs.YtgecchiocfkpkaaGreatDoor
open Go Go.RX
set_option maxRecDepth 1000000
noncomputable section
def t_kt0 : List Entry := [
  (15, [.int .i64 0, .int .i64 255], .agg #[.int .i64 0, .int .i64 255]),
  (45, [.int .i64 0], .agg #[.int .i64 0, .int .i64 0]),
  (168, [.agg #[.int .u64 0, .int .u64 9223372036854775807], .agg #[.int .u64 0, .int .u64 1]], .bool false),
  (208, [.int .i64 9223372036854775807], .agg #[.int .u64 0, .int .u64 9223372036854775807]),
  (42, [.bool false, .int .i64 11], .int .i64 0),
  (46, [.int .i64 0], .int .i64 0),
  (114, [.int .i64 0], .agg #[.string ⟨#[98, 111, 111, 108]⟩, .int .i64 1, .int .i64 1, .bool false, .int .u64 0, .int .u64 1]),
  (170, [.agg #[.int .i64 0, .int .u64 1]], .agg #[.int .u64 0, .int .u64 1]),
  (42, [.bool false, .int .i64 1], .int .i64 0),
  (207, [.agg #[.int .i64 0, .int .u64 1]], .int .i64 0),
  (163, [.agg #[.int .i64 0, .int .u64 1]], .tuple #[.int .i64 1, .int .i64 0]),
  (82, [.agg #[.int .i64 0, .int .u64 1]], .int .i64 1),
  (168, [.agg #[.int .u64 0, .int .u64 9223372036854775807], .agg #[.int .u64 0, .int .u64 0]], .bool false),
  (170, [.agg #[.int .i64 0, .int .u64 0]], .agg #[.int .u64 0, .int .u64 0]),
  (207, [.agg #[.int .i64 0, .int .u64 0]], .int .i64 0),
  (163, [.agg #[.int .i64 0, .int .u64 0]], .tuple #[.int .i64 0, .int .i64 0]),
  (82, [.agg #[.int .i64 0, .int .u64 0]], .int .i64 0),
  (162, [.int .i64 0], .tuple #[.agg #[.int .i64 0, .int .u64 0, .int .i64 0, .int .u64 1], .int .i64 0]),
  (81, [.int .i64 0], .tuple #[.agg #[.int .i64 0, .int .u64 1], .int .i64 0]),
  (80, [.int .i64 0], .tuple #[.agg #[.int .i64 0, .int .u64 0], .int .i64 0]),
  (48, [.int .i64 0], .agg #[.int .i64 0, .int .i64 1]),
  (46, [.int .i64 7], .int .i64 0),
  (114, [.int .i64 7], .agg #[.string ⟨#[105, 51, 50]⟩, .int .i64 2, .int .i64 32, .bool true, .int .u64 2147483648, .int .u64 2147483647]),
  (54, [.int .i64 7], .tuple #[.int .i64 32, .int .i64 0]),
  (109, [.int .i64 7], .int .i64 0),
  (49, [.int .i64 24], .int .i64 0),
  (21, [.int .i64 24, .int .i64 7], .tuple #[.int .i64 0, .int .i64 0]),
  (54, [.int .i64 0], .tuple #[.int .i64 1, .int .i64 0]),
  (47, [.int .i64 0], .bool true),
  (45, [.int .i64 5], .agg #[.int .i64 5, .int .i64 5]),
  (207, [.agg #[.int .i64 7, .int .u64 5]], .int .i64 0),
  (79, [.int .i64 7], .bool true),
  (47, [.int .i64 7], .bool true),
  (176, [.agg #[.int .i64 0, .int .i64 9], .agg #[.int .i64 (-2147483648), .int .i64 2147483647]], .agg #[.int .i64 0, .int .i64 9]),
  (115, [.agg #[.int .i64 0, .int .i64 9]], .bool false),
  (168, [.agg #[.int .u64 0, .int .u64 9223372036854775807], .agg #[.int .u64 0, .int .u64 2147483647]], .bool false),
  (208, [.int .i64 2147483647], .agg #[.int .u64 0, .int .u64 2147483647]),
  (170, [.agg #[.int .i64 7, .int .u64 2147483647]], .agg #[.int .u64 0, .int .u64 2147483647]),
  (207, [.agg #[.int .i64 7, .int .u64 2147483647]], .int .i64 0),
  (163, [.agg #[.int .i64 7, .int .u64 2147483647]], .tuple #[.int .i64 2147483647, .int .i64 0])]
theorem run_kt0 (aR aS : Addr) : t_kt0.map (fun e => (@call env0 Tryz.prog (glob aR aS) ((fun _ _ => none)) 300 60 (.fn e.1) (e.2.1.map .v) []).map fun r => nrm r.1) = t_kt0.map fun e => some (.v e.2.2) := by kernel_rfl
def u_kt0 : List Entry := t_kt0
theorem ok_kt0 (aR aS : Addr) : TabOk Tryz.prog (glob aR aS) u_kt0 := @tabOk_of_run env0 _ _ _ (@noO_holds env0 _ _) namesOk0 mixed _ _ _ (run_kt0 aR aS)
end
end Go.Proofs.YtgecchiocfkpkaaGreatDoor

namespace Go.Proofs.YtgecchiocfkpkaaGreatDoor
open Go Go.RX
set_option maxRecDepth 1000000
noncomputable section
def t_kt1 : List Entry := [
  (82, [.agg #[.int .i64 7, .int .u64 2147483647]], .int .i64 2147483647),
  (168, [.agg #[.int .u64 0, .int .u64 9223372036854775807], .agg #[.int .u64 18446744073709551615, .int .u64 18446744071562067968]], .bool false),
  (208, [.int .i64 (-2147483648)], .agg #[.int .u64 18446744073709551615, .int .u64 18446744071562067968]),
  (170, [.agg #[.int .i64 7, .int .u64 2147483648]], .agg #[.int .u64 18446744073709551615, .int .u64 18446744071562067968]),
  (207, [.agg #[.int .i64 7, .int .u64 2147483648]], .int .i64 0),
  (163, [.agg #[.int .i64 7, .int .u64 2147483648]], .tuple #[.int .i64 (-2147483648), .int .i64 0]),
  (82, [.agg #[.int .i64 7, .int .u64 2147483648]], .int .i64 (-2147483648)),
  (162, [.int .i64 7], .tuple #[.agg #[.int .i64 7, .int .u64 2147483648, .int .i64 7, .int .u64 2147483647], .int .i64 0]),
  (81, [.int .i64 7], .tuple #[.agg #[.int .i64 7, .int .u64 2147483647], .int .i64 0]),
  (80, [.int .i64 7], .tuple #[.agg #[.int .i64 7, .int .u64 2147483648], .int .i64 0]),
  (48, [.int .i64 7], .agg #[.int .i64 (-2147483648), .int .i64 2147483647]),
  (42, [.bool false, .int .i64 7], .int .i64 0),
  (42, [.bool false, .int .i64 3], .int .i64 0),
  (42, [.bool false, .int .i64 9], .int .i64 0),
  (52, [.agg #[.int .i64 0, .int .i64 9]], .int .i64 0),
  (204, [.agg #[.int .i64 0, .int .i64 9]], .int .i64 0),
  (42, [.bool false, .int .i64 6], .int .i64 0),
  (199, [.string ⟨#[120]⟩], .bool true),
  (203, [.int .i64 1], .bool true),
  (152, [.agg #[.int .i64 1, .string ⟨#[120]⟩, .int .i64 0, .int .i64 9]], .int .i64 0),
  (42, [.bool false, .int .i64 5], .int .i64 0),
  (42, [.bool false, .int .i64 21], .int .i64 0),
  (42, [.bool false, .int .i64 12], .int .i64 0),
  (250, [.int .i64 24, .int .i64 7], .tuple #[.int .i64 0, .int .i64 0]),
  (197, [.int .i64 24], .bool true),
  (197, [.int .i64 0], .bool true),
  (197, [.int .i64 1], .bool true),
  (42, [.bool false, .int .i64 10], .int .i64 0),
  (207, [.agg #[.int .i64 7, .int .u64 9]], .int .i64 0),
  (45, [.int .i64 1], .agg #[.int .i64 1, .int .i64 1]),
  (45, [.int .i64 10], .agg #[.int .i64 10, .int .i64 10]),
  (207, [.agg #[.int .i64 7, .int .u64 10]], .int .i64 0),
  (49, [.int .i64 7], .int .i64 0),
  (21, [.int .i64 7, .int .i64 7], .tuple #[.int .i64 7, .int .i64 0]),
  (250, [.int .i64 7, .int .i64 7], .tuple #[.int .i64 7, .int .i64 0]),
  (197, [.int .i64 7], .bool true),
  (119, [.int .i64 10, .int .i64 2], .int .i64 20),
  (119, [.int .i64 1, .int .i64 2], .int .i64 2),
  (49, [.int .i64 8], .int .i64 0),
  (21, [.int .i64 8, .int .i64 7], .tuple #[.int .i64 7, .int .i64 0])]
theorem run_kt1 (aR aS : Addr) : t_kt1.map (fun e => (@call env0 Tryz.prog (glob aR aS) (tabO u_kt0) 300 60 (.fn e.1) (e.2.1.map .v) []).map fun r => nrm r.1) = t_kt1.map fun e => some (.v e.2.2) := by kernel_rfl
def u_kt1 : List Entry := t_kt1 ++ u_kt0
theorem ok_kt1 (aR aS : Addr) : TabOk Tryz.prog (glob aR aS) u_kt1 := TabOk.append (@tabOk_of_run env0 _ _ _ (@tabO_holds env0 _ _ _ (ok_kt0 aR aS)) namesOk0 mixed _ _ _ (run_kt1 aR aS)) (ok_kt0 aR aS)
end
end Go.Proofs.YtgecchiocfkpkaaGreatDoor

namespace Go.Proofs.YtgecchiocfkpkaaGreatDoor
open Go Go.RX
set_option maxRecDepth 1000000
noncomputable section
def t_kt2 : List Entry := [
  (207, [.agg #[.int .i64 7, .int .u64 2]], .int .i64 0),
  (117, [.int .i64 9, .int .i64 1], .int .i64 10),
  (117, [.int .i64 0, .int .i64 1], .int .i64 1),
  (49, [.int .i64 6], .int .i64 0),
  (21, [.int .i64 6, .int .i64 7], .tuple #[.int .i64 7, .int .i64 0]),
  (207, [.agg #[.int .i64 7, .int .u64 1]], .int .i64 0),
  (15, [.int .i64 0, .int .i64 9], .agg #[.int .i64 0, .int .i64 9]),
  (168, [.agg #[.int .u64 0, .int .u64 9223372036854775807], .agg #[.int .u64 0, .int .u64 255]], .bool false),
  (46, [.int .i64 1], .int .i64 0),
  (114, [.int .i64 1], .agg #[.string ⟨#[117, 56]⟩, .int .i64 2, .int .i64 8, .bool false, .int .u64 0, .int .u64 255]),
  (170, [.agg #[.int .i64 1, .int .u64 255]], .agg #[.int .u64 0, .int .u64 255]),
  (207, [.agg #[.int .i64 1, .int .u64 255]], .int .i64 0),
  (163, [.agg #[.int .i64 1, .int .u64 255]], .tuple #[.int .i64 255, .int .i64 0]),
  (82, [.agg #[.int .i64 1, .int .u64 255]], .int .i64 255),
  (170, [.agg #[.int .i64 1, .int .u64 0]], .agg #[.int .u64 0, .int .u64 0]),
  (207, [.agg #[.int .i64 1, .int .u64 0]], .int .i64 0),
  (163, [.agg #[.int .i64 1, .int .u64 0]], .tuple #[.int .i64 0, .int .i64 0]),
  (82, [.agg #[.int .i64 1, .int .u64 0]], .int .i64 0),
  (162, [.int .i64 1], .tuple #[.agg #[.int .i64 1, .int .u64 0, .int .i64 1, .int .u64 255], .int .i64 0]),
  (81, [.int .i64 1], .tuple #[.agg #[.int .i64 1, .int .u64 255], .int .i64 0]),
  (80, [.int .i64 1], .tuple #[.agg #[.int .i64 1, .int .u64 0], .int .i64 0]),
  (48, [.int .i64 1], .agg #[.int .i64 0, .int .i64 255]),
  (53, [.agg #[.int .i64 (-32768), .int .i64 32767], .agg #[.int .i64 250, .int .i64 260]], .bool true),
  (115, [.agg #[.int .i64 250, .int .i64 260]], .bool false),
  (52, [.agg #[.int .i64 250, .int .i64 260]], .int .i64 0),
  (168, [.agg #[.int .u64 0, .int .u64 9223372036854775807], .agg #[.int .u64 0, .int .u64 32767]], .bool false),
  (208, [.int .i64 32767], .agg #[.int .u64 0, .int .u64 32767]),
  (46, [.int .i64 6], .int .i64 0),
  (114, [.int .i64 6], .agg #[.string ⟨#[105, 49, 54]⟩, .int .i64 2, .int .i64 16, .bool true, .int .u64 32768, .int .u64 32767]),
  (170, [.agg #[.int .i64 6, .int .u64 32767]], .agg #[.int .u64 0, .int .u64 32767]),
  (207, [.agg #[.int .i64 6, .int .u64 32767]], .int .i64 0),
  (163, [.agg #[.int .i64 6, .int .u64 32767]], .tuple #[.int .i64 32767, .int .i64 0]),
  (82, [.agg #[.int .i64 6, .int .u64 32767]], .int .i64 32767),
  (168, [.agg #[.int .u64 0, .int .u64 9223372036854775807], .agg #[.int .u64 18446744073709551615, .int .u64 18446744073709518848]], .bool false),
  (208, [.int .i64 (-32768)], .agg #[.int .u64 18446744073709551615, .int .u64 18446744073709518848]),
  (170, [.agg #[.int .i64 6, .int .u64 32768]], .agg #[.int .u64 18446744073709551615, .int .u64 18446744073709518848]),
  (207, [.agg #[.int .i64 6, .int .u64 32768]], .int .i64 0),
  (163, [.agg #[.int .i64 6, .int .u64 32768]], .tuple #[.int .i64 (-32768), .int .i64 0]),
  (82, [.agg #[.int .i64 6, .int .u64 32768]], .int .i64 (-32768)),
  (162, [.int .i64 6], .tuple #[.agg #[.int .i64 6, .int .u64 32768, .int .i64 6, .int .u64 32767], .int .i64 0])]
theorem run_kt2 (aR aS : Addr) : t_kt2.map (fun e => (@call env0 Tryz.prog (glob aR aS) (tabO u_kt1) 300 60 (.fn e.1) (e.2.1.map .v) []).map fun r => nrm r.1) = t_kt2.map fun e => some (.v e.2.2) := by kernel_rfl
def u_kt2 : List Entry := t_kt2 ++ u_kt1
theorem ok_kt2 (aR aS : Addr) : TabOk Tryz.prog (glob aR aS) u_kt2 := TabOk.append (@tabOk_of_run env0 _ _ _ (@tabO_holds env0 _ _ _ (ok_kt1 aR aS)) namesOk0 mixed _ _ _ (run_kt2 aR aS)) (ok_kt1 aR aS)
end
end Go.Proofs.YtgecchiocfkpkaaGreatDoor

namespace Go.Proofs.YtgecchiocfkpkaaGreatDoor
open Go Go.RX
set_option maxRecDepth 1000000
noncomputable section
def t_kt3 : List Entry := [
  (81, [.int .i64 6], .tuple #[.agg #[.int .i64 6, .int .u64 32767], .int .i64 0]),
  (80, [.int .i64 6], .tuple #[.agg #[.int .i64 6, .int .u64 32768], .int .i64 0]),
  (48, [.int .i64 6], .agg #[.int .i64 (-32768), .int .i64 32767]),
  (79, [.int .i64 6], .bool true),
  (54, [.int .i64 6], .tuple #[.int .i64 16, .int .i64 0]),
  (47, [.int .i64 6], .bool true),
  (20, [.int .i64 6], .tuple #[.agg #[.int .i64 (-32768), .int .i64 32767], .int .i64 0]),
  (23, [.int .i64 6, .agg #[.int .i64 250, .int .i64 260]], .int .i64 0),
  (79, [.int .i64 1], .bool true),
  (54, [.int .i64 1], .tuple #[.int .i64 8, .int .i64 0]),
  (47, [.int .i64 1], .bool true),
  (20, [.int .i64 1], .tuple #[.agg #[.int .i64 0, .int .i64 255], .int .i64 0]),
  (12, [.int .i64 28, .int .i64 6, .int .i64 1, .agg #[.int .i64 250, .int .i64 260]], .tuple #[.agg #[.int .i64 250, .int .i64 255], .int .i64 0]),
  (15, [.int .i64 250, .int .i64 260], .agg #[.int .i64 250, .int .i64 260]),
  (12, [.int .i64 27, .int .i64 6, .int .i64 1, .agg #[.int .i64 250, .int .i64 260]], .tuple #[.agg #[.int .i64 0, .int .i64 255], .int .i64 0]),
  (12, [.int .i64 27, .int .i64 6, .int .i64 1, .agg #[.int .i64 300, .int .i64 310]], .tuple #[.agg #[.int .i64 44, .int .i64 54], .int .i64 0]),
  (171, [.int .i64 1], .bool false),
  (107, [.int .i64 1], .int .i64 1),
  (49, [.int .i64 21], .int .i64 0),
  (21, [.int .i64 21, .int .i64 1], .tuple #[.int .i64 1, .int .i64 0]),
  (115, [.agg #[.int .i64 1, .int .i64 3]], .bool false),
  (5, [.int .i64 21, .int .i64 1, .agg #[.int .i64 1, .int .i64 3], .agg #[.int .i64 7, .int .i64 9]], .tuple #[.agg #[.int .i64 4, .int .i64 8], .int .i64 0]),
  (49, [.int .i64 20], .int .i64 0),
  (21, [.int .i64 20, .int .i64 1], .tuple #[.int .i64 1, .int .i64 0]),
  (5, [.int .i64 20, .int .i64 1, .agg #[.int .i64 1, .int .i64 2], .agg #[.int .i64 4, .int .i64 9]], .tuple #[.agg #[.int .i64 3, .int .i64 6], .int .i64 0]),
  (53, [.agg #[.int .i64 (-128), .int .i64 127], .agg #[.int .i64 (-5), .int .i64 3]], .bool true),
  (168, [.agg #[.int .u64 0, .int .u64 9223372036854775807], .agg #[.int .u64 0, .int .u64 127]], .bool false),
  (208, [.int .i64 127], .agg #[.int .u64 0, .int .u64 127]),
  (46, [.int .i64 5], .int .i64 0),
  (114, [.int .i64 5], .agg #[.string ⟨#[105, 56]⟩, .int .i64 2, .int .i64 8, .bool true, .int .u64 128, .int .u64 127]),
  (170, [.agg #[.int .i64 5, .int .u64 127]], .agg #[.int .u64 0, .int .u64 127]),
  (207, [.agg #[.int .i64 5, .int .u64 127]], .int .i64 0),
  (163, [.agg #[.int .i64 5, .int .u64 127]], .tuple #[.int .i64 127, .int .i64 0]),
  (82, [.agg #[.int .i64 5, .int .u64 127]], .int .i64 127),
  (168, [.agg #[.int .u64 0, .int .u64 9223372036854775807], .agg #[.int .u64 18446744073709551615, .int .u64 18446744073709551488]], .bool false),
  (208, [.int .i64 (-128)], .agg #[.int .u64 18446744073709551615, .int .u64 18446744073709551488]),
  (170, [.agg #[.int .i64 5, .int .u64 128]], .agg #[.int .u64 18446744073709551615, .int .u64 18446744073709551488]),
  (207, [.agg #[.int .i64 5, .int .u64 128]], .int .i64 0),
  (163, [.agg #[.int .i64 5, .int .u64 128]], .tuple #[.int .i64 (-128), .int .i64 0]),
  (82, [.agg #[.int .i64 5, .int .u64 128]], .int .i64 (-128))]
theorem run_kt3 (aR aS : Addr) : t_kt3.map (fun e => (@call env0 Tryz.prog (glob aR aS) (tabO u_kt2) 300 60 (.fn e.1) (e.2.1.map .v) []).map fun r => nrm r.1) = t_kt3.map fun e => some (.v e.2.2) := by kernel_rfl
def u_kt3 : List Entry := t_kt3 ++ u_kt2
theorem ok_kt3 (aR aS : Addr) : TabOk Tryz.prog (glob aR aS) u_kt3 := TabOk.append (@tabOk_of_run env0 _ _ _ (@tabO_holds env0 _ _ _ (ok_kt2 aR aS)) namesOk0 mixed _ _ _ (run_kt3 aR aS)) (ok_kt2 aR aS)
end
end Go.Proofs.YtgecchiocfkpkaaGreatDoor

namespace Go.Proofs.YtgecchiocfkpkaaGreatDoor
open Go Go.RX
set_option maxRecDepth 1000000
noncomputable section
def t_kt4 : List Entry := [
  (162, [.int .i64 5], .tuple #[.agg #[.int .i64 5, .int .u64 128, .int .i64 5, .int .u64 127], .int .i64 0]),
  (81, [.int .i64 5], .tuple #[.agg #[.int .i64 5, .int .u64 127], .int .i64 0]),
  (80, [.int .i64 5], .tuple #[.agg #[.int .i64 5, .int .u64 128], .int .i64 0]),
  (48, [.int .i64 5], .agg #[.int .i64 (-128), .int .i64 127]),
  (54, [.int .i64 5], .tuple #[.int .i64 8, .int .i64 0]),
  (49, [.int .i64 17], .int .i64 0),
  (21, [.int .i64 17, .int .i64 5], .tuple #[.int .i64 5, .int .i64 0]),
  (79, [.int .i64 5], .bool true),
  (47, [.int .i64 5], .bool true),
  (20, [.int .i64 5], .tuple #[.agg #[.int .i64 (-128), .int .i64 127], .int .i64 0]),
  (5, [.int .i64 17, .int .i64 5, .agg #[.int .i64 (-5), .int .i64 3], .agg #[.int .i64 0, .int .i64 1]], .tuple #[.agg #[.int .i64 (-5), .int .i64 3], .int .i64 0]),
  (49, [.int .i64 16], .int .i64 0),
  (21, [.int .i64 16, .int .i64 1], .tuple #[.int .i64 1, .int .i64 0]),
  (115, [.agg #[.int .i64 3, .int .i64 5]], .bool false),
  (52, [.agg #[.int .i64 3, .int .i64 5]], .int .i64 0),
  (5, [.int .i64 16, .int .i64 1, .agg #[.int .i64 3, .int .i64 5], .agg #[.int .i64 1, .int .i64 4]], .tuple #[.agg #[.int .i64 6, .int .i64 80], .int .i64 0]),
  (45, [.int .i64 3], .agg #[.int .i64 3, .int .i64 3]),
  (49, [.int .i64 14], .int .i64 0),
  (21, [.int .i64 14, .int .i64 1], .tuple #[.int .i64 1, .int .i64 0]),
  (53, [.agg #[.int .i64 0, .int .i64 255], .agg #[.int .i64 3, .int .i64 12]], .bool true),
  (115, [.agg #[.int .i64 3, .int .i64 12]], .bool false),
  (52, [.agg #[.int .i64 3, .int .i64 12]], .int .i64 0),
  (23, [.int .i64 1, .agg #[.int .i64 3, .int .i64 12]], .int .i64 0),
  (53, [.agg #[.int .i64 0, .int .i64 255], .agg #[.int .i64 5, .int .i64 9]], .bool true),
  (115, [.agg #[.int .i64 5, .int .i64 9]], .bool false),
  (52, [.agg #[.int .i64 5, .int .i64 9]], .int .i64 0),
  (23, [.int .i64 1, .agg #[.int .i64 5, .int .i64 9]], .int .i64 0),
  (5, [.int .i64 14, .int .i64 1, .agg #[.int .i64 5, .int .i64 9], .agg #[.int .i64 3, .int .i64 12]], .tuple #[.agg #[.int .i64 5, .int .i64 15], .int .i64 0]),
  (49, [.int .i64 13], .int .i64 0),
  (21, [.int .i64 13, .int .i64 1], .tuple #[.int .i64 1, .int .i64 0]),
  (5, [.int .i64 13, .int .i64 1, .agg #[.int .i64 5, .int .i64 9], .agg #[.int .i64 3, .int .i64 12]], .tuple #[.agg #[.int .i64 0, .int .i64 9], .int .i64 0]),
  (49, [.int .i64 10], .int .i64 0),
  (21, [.int .i64 10, .int .i64 7], .tuple #[.int .i64 7, .int .i64 0]),
  (20, [.int .i64 7], .tuple #[.agg #[.int .i64 (-2147483648), .int .i64 2147483647], .int .i64 0]),
  (5, [.int .i64 10, .int .i64 7, .agg #[.int .i64 3, .int .i64 5], .agg #[.int .i64 (-4), .int .i64 9]], .tuple #[.agg #[.int .i64 0, .int .i64 5], .int .i64 0]),
  (74, [.int .i64 13, .int .i64 10], .int .i64 1),
  (53, [.agg #[.int .i64 (-2147483648), .int .i64 2147483647], .agg #[.int .i64 10, .int .i64 10]], .bool true),
  (115, [.agg #[.int .i64 10, .int .i64 10]], .bool false),
  (52, [.agg #[.int .i64 10, .int .i64 10]], .int .i64 0),
  (23, [.int .i64 7, .agg #[.int .i64 10, .int .i64 10]], .int .i64 0)]
theorem run_kt4 (aR aS : Addr) : t_kt4.map (fun e => (@call env0 Tryz.prog (glob aR aS) (tabO u_kt3) 300 60 (.fn e.1) (e.2.1.map .v) []).map fun r => nrm r.1) = t_kt4.map fun e => some (.v e.2.2) := by kernel_rfl
def u_kt4 : List Entry := t_kt4 ++ u_kt3
theorem ok_kt4 (aR aS : Addr) : TabOk Tryz.prog (glob aR aS) u_kt4 := TabOk.append (@tabOk_of_run env0 _ _ _ (@tabO_holds env0 _ _ _ (ok_kt3 aR aS)) namesOk0 mixed _ _ _ (run_kt4 aR aS)) (ok_kt3 aR aS)
end
end Go.Proofs.YtgecchiocfkpkaaGreatDoor

namespace Go.Proofs.YtgecchiocfkpkaaGreatDoor
open Go Go.RX
set_option maxRecDepth 1000000
noncomputable section
def t_kt5 : List Entry := [
  (5, [.int .i64 10, .int .i64 7, .agg #[.int .i64 13, .int .i64 21], .agg #[.int .i64 10, .int .i64 10]], .tuple #[.agg #[.int .i64 0, .int .i64 9], .int .i64 0]),
  (74, [.int .i64 17, .int .i64 10], .int .i64 1),
  (5, [.int .i64 10, .int .i64 7, .agg #[.int .i64 13, .int .i64 17], .agg #[.int .i64 10, .int .i64 10]], .tuple #[.agg #[.int .i64 3, .int .i64 7], .int .i64 0]),
  (49, [.int .i64 9], .int .i64 0),
  (21, [.int .i64 9, .int .i64 7], .tuple #[.int .i64 7, .int .i64 0]),
  (5, [.int .i64 9, .int .i64 7, .agg #[.int .i64 (-7), .int .i64 9], .agg #[.int .i64 (-2), .int .i64 3]], .tuple #[.agg #[.int .i64 (-9), .int .i64 9], .int .i64 0]),
  (21, [.int .i64 8, .int .i64 5], .tuple #[.int .i64 5, .int .i64 0]),
  (5, [.int .i64 8, .int .i64 5, .agg #[.int .i64 (-3), .int .i64 4], .agg #[.int .i64 (-2), .int .i64 5]], .tuple #[.agg #[.int .i64 (-15), .int .i64 20], .int .i64 0]),
  (117, [.int .i64 210, .int .i64 10], .int .i64 220),
  (117, [.int .i64 200, .int .i64 10], .int .i64 210),
  (21, [.int .i64 6, .int .i64 1], .tuple #[.int .i64 1, .int .i64 0]),
  (53, [.agg #[.int .i64 0, .int .i64 255], .agg #[.int .i64 200, .int .i64 210]], .bool true),
  (115, [.agg #[.int .i64 200, .int .i64 210]], .bool false),
  (52, [.agg #[.int .i64 200, .int .i64 210]], .int .i64 0),
  (23, [.int .i64 1, .agg #[.int .i64 200, .int .i64 210]], .int .i64 0),
  (5, [.int .i64 6, .int .i64 1, .agg #[.int .i64 200, .int .i64 210], .agg #[.int .i64 10, .int .i64 60]], .tuple #[.agg #[.int .i64 0, .int .i64 255], .int .i64 0]),
  (5, [.int .i64 6, .int .i64 1, .agg #[.int .i64 200, .int .i64 210], .agg #[.int .i64 10, .int .i64 20]], .tuple #[.agg #[.int .i64 210, .int .i64 230], .int .i64 0]),
  (15, [.int .i64 (-5), .int .i64 3], .agg #[.int .i64 (-5), .int .i64 3]),
  (15, [.int .i64 3, .int .i64 5], .agg #[.int .i64 3, .int .i64 5]),
  (15, [.int .i64 3, .int .i64 12], .agg #[.int .i64 3, .int .i64 12]),
  (15, [.int .i64 5, .int .i64 9], .agg #[.int .i64 5, .int .i64 9]),
  (15, [.int .i64 10, .int .i64 10], .agg #[.int .i64 10, .int .i64 10]),
  (15, [.int .i64 200, .int .i64 210], .agg #[.int .i64 200, .int .i64 210])]
theorem run_kt5 (aR aS : Addr) : t_kt5.map (fun e => (@call env0 Tryz.prog (glob aR aS) (tabO u_kt4) 300 60 (.fn e.1) (e.2.1.map .v) []).map fun r => nrm r.1) = t_kt5.map fun e => some (.v e.2.2) := by kernel_rfl
def u_kt5 : List Entry := t_kt5 ++ u_kt4
theorem ok_kt5 (aR aS : Addr) : TabOk Tryz.prog (glob aR aS) u_kt5 := TabOk.append (@tabOk_of_run env0 _ _ _ (@tabO_holds env0 _ _ _ (ok_kt4 aR aS)) namesOk0 mixed _ _ _ (run_kt5 aR aS)) (ok_kt4 aR aS)
end
end Go.Proofs.YtgecchiocfkpkaaGreatDoor
