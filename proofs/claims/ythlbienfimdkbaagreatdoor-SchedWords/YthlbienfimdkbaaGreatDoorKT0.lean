import Derived.Test.YthlbienfimdkbaaGreatDoorKJ
namespace Go.Proofs.YthlbienfimdkbaaGreatDoor
open Go Go.RX
set_option maxRecDepth 1000000
noncomputable section
def t_kt0 : List Entry := [
  (50, [.bool false, .int .i64 2], .int .i64 0),
  (51, [.agg #[.int .i64 1, .int .i64 1], .int .i64 1], .bool true),
  (50, [.bool false, .int .i64 28], .int .i64 0),
  (50, [.bool true, .int .i64 3], .int .i64 3),
  (50, [.bool false, .int .i64 6], .int .i64 0),
  (90, [.string ⟨#[111,117,116]⟩], .bool true),
  (109, [.agg #[.int .i64 1, .int .i64 1], .int .i64 1], .bool true),
  (6, [.string ⟨#[117,110,114,111,108,108]⟩], .tuple #[.int .i64 4, .int .i64 0]),
  (50, [.bool false, .int .i64 3], .int .i64 0),
  (51, [.agg #[.int .i64 0, .int .i64 0], .int .i64 0], .bool true),
  (50, [.bool false, .int .i64 18], .int .i64 0),
  (51, [.agg #[.int .i64 0, .int .i64 3], .int .i64 1], .bool true),
  (50, [.bool false, .int .i64 7], .int .i64 0),
  (90, [.string ⟨#[120,105]⟩], .bool true),
  (90, [.string ⟨#[120,111]⟩], .bool true),
  (90, [.string ⟨#[120]⟩], .bool true),
  (51, [.agg #[.int .i64 3, .int .i64 3], .int .i64 3], .bool true),
  (51, [.agg #[.int .i64 0, .int .i64 3], .int .i64 0], .bool true),
  (30, [.int .i64 0], .bool true),
  (146, [.string ⟨#[48]⟩], .bool true),
  (163, [.string ⟨#[48]⟩, .string ⟨#[48]⟩], .bool true),
  (145, [.string ⟨#[48]⟩, .string ⟨#[48]⟩], .bool true),
  (163, [.string ⟨#[48]⟩, .string ⟨#[45]⟩], .bool false),
  (162, [.string ⟨#[48]⟩, .string ⟨#[45]⟩], .tuple #[.string ⟨#[48]⟩, .bool false]),
  (144, [.string ⟨#[48]⟩, .string ⟨#[45]⟩], .tuple #[.string ⟨#[48]⟩, .bool false]),
  (130, [.string ⟨#[48]⟩, .int .i64 8], .tuple #[.int .i64 0, .bool true]),
  (106, [.string ⟨#[111,117,116,46,48]⟩, .int .u8 46], .int .i64 3),
  (169, [.string ⟨#[111,117,116,46,48]⟩, .string ⟨#[46]⟩], .int .i64 3),
  (149, [.string ⟨#[111,117,116,46,48]⟩, .string ⟨#[46]⟩], .tuple #[.string ⟨#[111, 117, 116]⟩, .string ⟨#[48]⟩, .bool true]),
  (133, [.string ⟨#[111,117,116,46,48]⟩, .string ⟨#[46]⟩], .tuple #[.string ⟨#[111, 117, 116]⟩, .string ⟨#[48]⟩, .bool true]),
  (109, [.agg #[.int .i64 3, .int .i64 3], .int .i64 3], .bool true),
  (6, [.string ⟨#[115,112,108,105,116]⟩], .tuple #[.int .i64 0, .int .i64 0]),
  (51, [.agg #[.int .i64 1, .int .i64 64], .int .i64 8], .bool true),
  (146, [.string ⟨#[56]⟩], .bool true),
  (163, [.string ⟨#[56]⟩, .string ⟨#[48]⟩], .bool false),
  (145, [.string ⟨#[56]⟩, .string ⟨#[48]⟩], .bool false),
  (163, [.string ⟨#[56]⟩, .string ⟨#[45]⟩], .bool false),
  (162, [.string ⟨#[56]⟩, .string ⟨#[45]⟩], .tuple #[.string ⟨#[56]⟩, .bool false]),
  (144, [.string ⟨#[56]⟩, .string ⟨#[45]⟩], .tuple #[.string ⟨#[56]⟩, .bool false]),
  (130, [.string ⟨#[56]⟩, .int .i64 8], .tuple #[.int .i64 8, .bool true]),
  (106, [.string ⟨#[56,32,103,117,97,114,100]⟩, .int .u8 32], .int .i64 1),
  (169, [.string ⟨#[56,32,103,117,97,114,100]⟩, .string ⟨#[32]⟩], .int .i64 1),
  (168, [.string ⟨#[56,32,103,117,97,114,100]⟩, .string ⟨#[32]⟩], .int .i64 1),
  (106, [.string ⟨#[120,105,32,56,32,103,117,97,114,100]⟩, .int .u8 32], .int .i64 2),
  (169, [.string ⟨#[120,105,32,56,32,103,117,97,114,100]⟩, .string ⟨#[32]⟩], .int .i64 2)]
theorem run_kt0 (aR aS : Addr) : t_kt0.map (fun e => (@call env0 Tryz.prog (glob aR aS) (JC) 300 60 (.fn e.1) (e.2.1.map .v) []).map fun r => nrm r.1) = t_kt0.map fun e => some (.v e.2.2) := by kernel_rfl
def u_kt0 : List Entry := t_kt0
theorem ok_kt0 (aR aS : Addr) : TabOk Tryz.prog (glob aR aS) u_kt0 := @tabOk_of_run env0 _ _ _ (JC_holds env0 aR aS) namesOk0 mixed _ _ _ (run_kt0 aR aS)
end
end Go.Proofs.YthlbienfimdkbaaGreatDoor

namespace Go.Proofs.YthlbienfimdkbaaGreatDoor
open Go Go.RX
set_option maxRecDepth 1000000
noncomputable section
def t_kt1 : List Entry := [
  (168, [.string ⟨#[120,105,32,56,32,103,117,97,114,100]⟩, .string ⟨#[32]⟩], .int .i64 2),
  (106, [.string ⟨#[120,111,32,120,105,32,56,32,103,117,97,114,100]⟩, .int .u8 32], .int .i64 2),
  (169, [.string ⟨#[120,111,32,120,105,32,56,32,103,117,97,114,100]⟩, .string ⟨#[32]⟩], .int .i64 2),
  (168, [.string ⟨#[120,111,32,120,105,32,56,32,103,117,97,114,100]⟩, .string ⟨#[32]⟩], .int .i64 2),
  (106, [.string ⟨#[120,32,120,111,32,120,105,32,56,32,103,117,97,114,100]⟩, .int .u8 32], .int .i64 1),
  (169, [.string ⟨#[120,32,120,111,32,120,105,32,56,32,103,117,97,114,100]⟩, .string ⟨#[32]⟩], .int .i64 1),
  (168, [.string ⟨#[120,32,120,111,32,120,105,32,56,32,103,117,97,114,100]⟩, .string ⟨#[32]⟩], .int .i64 1),
  (106, [.string ⟨#[115,112,108,105,116,32,120,32,120,111,32,120,105,32,56,32,103,117,97,114,100]⟩, .int .u8 32], .int .i64 5),
  (169, [.string ⟨#[115,112,108,105,116,32,120,32,120,111,32,120,105,32,56,32,103,117,97,114,100]⟩, .string ⟨#[32]⟩], .int .i64 5),
  (168, [.string ⟨#[115,112,108,105,116,32,120,32,120,111,32,120,105,32,56,32,103,117,97,114,100]⟩, .string ⟨#[32]⟩], .int .i64 5),
  (13, [], .string ⟨#[111, 117, 116, 46, 48, 32, 115, 112, 108, 105, 116, 32, 120, 32, 120, 111, 32, 120, 105, 32, 56, 32, 103, 117, 97, 114, 100, 10, 111, 117, 116, 46, 48, 32, 114, 101, 111, 114, 100, 101, 114, 32, 120, 105, 32, 121, 32, 120, 111, 10, 98, 108, 117, 114, 32, 99, 111, 109, 112, 117, 116, 101, 95, 97, 116, 32, 111, 117, 116, 32, 120, 111, 10, 98, 108, 117, 114, 32, 115, 116, 111, 114, 101, 95, 114, 111, 111, 116, 10, 98, 108, 117, 114, 32, 102, 111, 108, 100, 32, 120, 32, 49, 54, 10, 98, 108, 117, 114, 46, 48, 32, 118, 101, 99, 116, 111, 114, 105, 122, 101, 32, 120, 10]⟩),
  (50, [.bool false, .int .i64 8], .int .i64 0),
  (85, [.int .i64 2], .bool false),
  (85, [.int .i64 0], .bool false),
  (90, [.string ⟨#[98,108,117,114]⟩], .bool true),
  (30, [.int .i64 5], .bool true),
  (51, [.agg #[.int .i64 1, .int .i64 64], .int .i64 16], .bool true),
  (30, [.int .i64 13], .bool true),
  (30, [.int .i64 11], .bool true),
  (30, [.int .i64 10], .bool true),
  (90, [.string ⟨#[121]⟩], .bool true),
  (51, [.agg #[.int .i64 2, .int .i64 24], .int .i64 3], .bool true),
  (30, [.int .i64 2], .bool true),
  (120, [.agg #[.int .i64 1, .int .i64 1, .int .i64 0], .int .i64 0], .agg #[.int .i64 0, .int .i64 0, .int .i64 0, .int .i64 0]),
  (50, [.bool false, .int .i64 16], .int .i64 0),
  (50, [.bool false, .int .i64 12], .int .i64 0),
  (50, [.bool false, .int .i64 13], .int .i64 0),
  (50, [.bool false, .int .i64 21], .int .i64 0),
  (50, [.bool false, .int .i64 11], .int .i64 0),
  (116, [.int .i64 7], .int .i64 0),
  (226, [.int .i64 3], .bool true),
  (226, [.int .i64 1], .bool true),
  (50, [.bool false, .int .i64 5], .int .i64 0),
  (50, [.bool false, .int .i64 10], .int .i64 0),
  (120, [.agg #[.int .i64 1, .int .i64 1, .int .i64 2], .int .i64 0], .agg #[.int .i64 0, .int .i64 0, .int .i64 0, .int .i64 0]),
  (120, [.agg #[.int .i64 1, .int .i64 1, .int .i64 1], .int .i64 0], .agg #[.int .i64 0, .int .i64 0, .int .i64 0, .int .i64 0]),
  (120, [.agg #[.int .i64 1, .int .i64 0, .int .i64 0], .int .i64 0], .agg #[.int .i64 0, .int .i64 0, .int .i64 0, .int .i64 0]),
  (117, [.int .i64 2], .int .i64 0),
  (120, [.agg #[.int .i64 0, .int .i64 0, .int .i64 0], .int .i64 0], .agg #[.int .i64 0, .int .i64 0, .int .i64 0, .int .i64 0]),
  (90, [.string ⟨#[112]⟩], .bool true),
  (50, [.bool false, .int .i64 9], .int .i64 0),
  (30, [.int .i64 9], .bool true),
  (129, [.string ⟨#[120]⟩], .bool false),
  (129, [.string ⟨#[]⟩], .bool false),
  (128, [.int .i64 13], .bool false)]
theorem run_kt1 (aR aS : Addr) : t_kt1.map (fun e => (@call env0 Tryz.prog (glob aR aS) (orO JC (tabO u_kt0)) 300 60 (.fn e.1) (e.2.1.map .v) []).map fun r => nrm r.1) = t_kt1.map fun e => some (.v e.2.2) := by kernel_rfl
def u_kt1 : List Entry := t_kt1 ++ u_kt0
theorem ok_kt1 (aR aS : Addr) : TabOk Tryz.prog (glob aR aS) u_kt1 := TabOk.append (@tabOk_of_run env0 _ _ _ (@orO_holds env0 _ _ _ _ (JC_holds env0 aR aS) (@tabO_holds env0 _ _ _ (ok_kt0 aR aS))) namesOk0 mixed _ _ _ (run_kt1 aR aS)) (ok_kt0 aR aS)
end
end Go.Proofs.YthlbienfimdkbaaGreatDoor

namespace Go.Proofs.YthlbienfimdkbaaGreatDoor
open Go Go.RX
set_option maxRecDepth 1000000
noncomputable section
def t_kt2 : List Entry := [
  (128, [.int .i64 16], .bool false),
  (128, [.int .i64 0], .bool false),
  (99, [.int .i64 0, .int .i64 0], .int .i64 0),
  (101, [.string ⟨#[]⟩, .string ⟨#[]⟩], .int .i64 0),
  (99, [.int .i64 16, .int .i64 16], .int .i64 0),
  (128, [.int .i64 1], .bool false),
  (99, [.int .i64 0, .int .i64 1], .int .i64 (-1)),
  (101, [.string ⟨#[120]⟩, .string ⟨#[]⟩], .int .i64 1),
  (128, [.int .i64 11], .bool false),
  (99, [.int .i64 13, .int .i64 16], .int .i64 (-1)),
  (128, [.int .i64 10], .bool false),
  (99, [.int .i64 11, .int .i64 16], .int .i64 (-1)),
  (99, [.int .i64 10, .int .i64 16], .int .i64 (-1)),
  (150, [.int .i64 0], .string ⟨#[48]⟩),
  (134, [.int .i64 0, .int .i64 10], .string ⟨#[48]⟩),
  (113, [.int .i64 0], .string ⟨#[48]⟩),
  (81, [.int .i64 0], .string ⟨#[48]⟩),
  (150, [.int .i64 16], .string ⟨#[49, 54]⟩),
  (134, [.int .i64 16, .int .i64 10], .string ⟨#[49, 54]⟩),
  (113, [.int .i64 16], .string ⟨#[49, 54]⟩),
  (81, [.int .i64 16], .string ⟨#[49, 54]⟩),
  (150, [.int .i64 8], .string ⟨#[56]⟩),
  (134, [.int .i64 8, .int .i64 10], .string ⟨#[56]⟩),
  (113, [.int .i64 8], .string ⟨#[56]⟩),
  (81, [.int .i64 8], .string ⟨#[56]⟩),
  (6, [.string ⟨#[118,101,99,116,111,114,105,122,101]⟩], .tuple #[.int .i64 5, .int .i64 0]),
  (106, [.string ⟨#[98,108,117,114]⟩, .int .u8 46], .int .i64 (-1)),
  (169, [.string ⟨#[98,108,117,114]⟩, .string ⟨#[46]⟩], .int .i64 (-1)),
  (149, [.string ⟨#[98,108,117,114]⟩, .string ⟨#[46]⟩], .tuple #[.string ⟨#[98, 108, 117, 114]⟩, .string ⟨#[]⟩, .bool false]),
  (133, [.string ⟨#[98,108,117,114]⟩, .string ⟨#[46]⟩], .tuple #[.string ⟨#[98, 108, 117, 114]⟩, .string ⟨#[]⟩, .bool false]),
  (6, [.string ⟨#[102,111,108,100]⟩], .tuple #[.int .i64 13, .int .i64 0]),
  (6, [.string ⟨#[115,116,111,114,101,95,114,111,111,116]⟩], .tuple #[.int .i64 11, .int .i64 0]),
  (6, [.string ⟨#[99,111,109,112,117,116,101,95,97,116]⟩], .tuple #[.int .i64 10, .int .i64 0]),
  (6, [.string ⟨#[114,101,111,114,100,101,114]⟩], .tuple #[.int .i64 2, .int .i64 0])]
theorem run_kt2 (aR aS : Addr) : t_kt2.map (fun e => (@call env0 Tryz.prog (glob aR aS) (orO JC (tabO u_kt1)) 300 60 (.fn e.1) (e.2.1.map .v) []).map fun r => nrm r.1) = t_kt2.map fun e => some (.v e.2.2) := by kernel_rfl
def u_kt2 : List Entry := t_kt2 ++ u_kt1
theorem ok_kt2 (aR aS : Addr) : TabOk Tryz.prog (glob aR aS) u_kt2 := TabOk.append (@tabOk_of_run env0 _ _ _ (@orO_holds env0 _ _ _ _ (JC_holds env0 aR aS) (@tabO_holds env0 _ _ _ (ok_kt1 aR aS))) namesOk0 mixed _ _ _ (run_kt2 aR aS)) (ok_kt1 aR aS)
end
end Go.Proofs.YthlbienfimdkbaaGreatDoor
