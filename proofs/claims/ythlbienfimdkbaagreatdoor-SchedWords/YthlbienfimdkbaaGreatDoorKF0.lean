import Derived.Test.YthlbienfimdkbaaGreatDoorKL
namespace Go.Proofs.YthlbienfimdkbaaGreatDoor
open Go Go.RX
set_option maxRecDepth 1000000
noncomputable section
def t_kf0 : List Entry := [
  (31, [.int .i64 0], .agg #[.string ⟨#[115, 112, 108, 105, 116]⟩, .bool true, .int .i64 3, .int .i64 3, .int .i64 1, .int .i64 64, .int .i64 0, .int .i64 3, .int .i64 0, .int .i64 0, .bool false, .int .i64 2, .func (.func 66) #[] #[], .func (.func 67) #[] #[]]),
  (31, [.int .i64 1], .agg #[.string ⟨#[102, 117, 115, 101]⟩, .bool true, .int .i64 3, .int .i64 3, .int .i64 0, .int .i64 0, .int .i64 0, .int .i64 0, .int .i64 0, .int .i64 0, .bool false, .int .i64 0, .func (.func 68) #[] #[], .func (.func 69) #[] #[]]),
  (31, [.int .i64 2], .agg #[.string ⟨#[114, 101, 111, 114, 100, 101, 114]⟩, .bool true, .int .i64 2, .int .i64 24, .int .i64 0, .int .i64 0, .int .i64 0, .int .i64 0, .int .i64 0, .int .i64 0, .bool false, .int .i64 0, .func (.func 68) #[] #[], .func (.func 69) #[] #[]]),
  (31, [.int .i64 3], .agg #[.string ⟨#[114, 101, 110, 97, 109, 101]⟩, .bool true, .int .i64 2, .int .i64 2, .int .i64 0, .int .i64 0, .int .i64 0, .int .i64 0, .int .i64 0, .int .i64 0, .bool false, .int .i64 0, .func (.func 68) #[] #[], .func (.func 69) #[] #[]]),
  (31, [.int .i64 4], .agg #[.string ⟨#[117, 110, 114, 111, 108, 108]⟩, .bool true, .int .i64 1, .int .i64 1, .int .i64 0, .int .i64 0, .int .i64 0, .int .i64 0, .int .i64 0, .int .i64 0, .bool false, .int .i64 0, .func (.func 68) #[] #[], .func (.func 69) #[] #[]]),
  (31, [.int .i64 5], .agg #[.string ⟨#[118, 101, 99, 116, 111, 114, 105, 122, 101]⟩, .bool true, .int .i64 1, .int .i64 1, .int .i64 0, .int .i64 0, .int .i64 0, .int .i64 0, .int .i64 0, .int .i64 0, .bool false, .int .i64 0, .func (.func 68) #[] #[], .func (.func 69) #[] #[]]),
  (31, [.int .i64 6], .agg #[.string ⟨#[112, 97, 114, 97, 108, 108, 101, 108]⟩, .bool true, .int .i64 1, .int .i64 1, .int .i64 0, .int .i64 0, .int .i64 0, .int .i64 0, .int .i64 0, .int .i64 0, .bool false, .int .i64 0, .func (.func 68) #[] #[], .func (.func 69) #[] #[]]),
  (31, [.int .i64 7], .agg #[.string ⟨#[98, 108, 111, 99, 107, 115]⟩, .bool true, .int .i64 1, .int .i64 1, .int .i64 0, .int .i64 0, .int .i64 0, .int .i64 0, .int .i64 0, .int .i64 0, .bool false, .int .i64 0, .func (.func 68) #[] #[], .func (.func 69) #[] #[]]),
  (31, [.int .i64 8], .agg #[.string ⟨#[116, 104, 114, 101, 97, 100, 115]⟩, .bool true, .int .i64 1, .int .i64 1, .int .i64 0, .int .i64 0, .int .i64 0, .int .i64 0, .int .i64 0, .int .i64 0, .bool false, .int .i64 0, .func (.func 68) #[] #[], .func (.func 69) #[] #[]]),
  (31, [.int .i64 9], .agg #[.string ⟨#[99, 111, 109, 112, 117, 116, 101, 95, 114, 111, 111, 116]⟩, .bool false, .int .i64 0, .int .i64 0, .int .i64 0, .int .i64 0, .int .i64 0, .int .i64 0, .int .i64 0, .int .i64 0, .bool false, .int .i64 0, .func (.func 68) #[] #[], .func (.func 69) #[] #[]]),
  (31, [.int .i64 10], .agg #[.string ⟨#[99, 111, 109, 112, 117, 116, 101, 95, 97, 116]⟩, .bool false, .int .i64 1, .int .i64 1, .int .i64 0, .int .i64 0, .int .i64 0, .int .i64 0, .int .i64 0, .int .i64 0, .bool true, .int .i64 1, .func (.func 70) #[] #[], .func (.func 71) #[] #[]]),
  (31, [.int .i64 11], .agg #[.string ⟨#[115, 116, 111, 114, 101, 95, 114, 111, 111, 116]⟩, .bool false, .int .i64 0, .int .i64 0, .int .i64 0, .int .i64 0, .int .i64 0, .int .i64 0, .int .i64 0, .int .i64 0, .bool false, .int .i64 0, .func (.func 68) #[] #[], .func (.func 69) #[] #[]]),
  (31, [.int .i64 12], .agg #[.string ⟨#[115, 116, 111, 114, 101, 95, 97, 116]⟩, .bool false, .int .i64 1, .int .i64 1, .int .i64 0, .int .i64 0, .int .i64 0, .int .i64 0, .int .i64 0, .int .i64 0, .bool true, .int .i64 1, .func (.func 70) #[] #[], .func (.func 71) #[] #[]]),
  (31, [.int .i64 13], .agg #[.string ⟨#[102, 111, 108, 100]⟩, .bool false, .int .i64 1, .int .i64 1, .int .i64 1, .int .i64 64, .int .i64 0, .int .i64 0, .int .i64 0, .int .i64 0, .bool false, .int .i64 1, .func (.func 72) #[] #[], .func (.func 73) #[] #[]]),
  (31, [.int .i64 14], .agg #[.string ⟨#[98, 111, 117, 110, 100]⟩, .bool false, .int .i64 1, .int .i64 1, .int .i64 1, .int .i64 64, .int .i64 0, .int .i64 0, .int .i64 (-1048576), .int .i64 1048576, .bool false, .int .i64 2, .func (.func 74) #[] #[], .func (.func 75) #[] #[]]),
  (31, [.int .i64 15], .agg #[.string ⟨#[109, 101, 109, 111, 105, 122, 101]⟩, .bool false, .int .i64 0, .int .i64 0, .int .i64 0, .int .i64 0, .int .i64 0, .int .i64 0, .int .i64 0, .int .i64 0, .bool false, .int .i64 0, .func (.func 68) #[] #[], .func (.func 69) #[] #[]])]
theorem run_kf0 (aR aS : Addr) : t_kf0.map (fun e => (@call env0 Tryz.prog (glob aR aS) ((fun _ _ _ => none)) 300 60 (.fn e.1) (e.2.1.map .v) []).map fun r => nrm r.1) = t_kf0.map fun e => some (.v e.2.2) := by kernel_rfl
def u_kf0 : List Entry := t_kf0
theorem ok_kf0 (aR aS : Addr) : TabOk Tryz.prog (glob aR aS) u_kf0 := @tabOk_of_run env0 _ _ _ (@noO_holds env0 _ _) namesOk0 mixed _ _ _ (run_kf0 aR aS)
end
end Go.Proofs.YthlbienfimdkbaaGreatDoor

namespace Go.Proofs.YthlbienfimdkbaaGreatDoor
open Go Go.RX
set_option maxRecDepth 1000000
noncomputable section
def t_kf1 : List Entry := [
  (5, [.int .i64 0], .tuple #[.string ⟨#[115, 112, 108, 105, 116]⟩, .int .i64 0]),
  (5, [.int .i64 1], .tuple #[.string ⟨#[102, 117, 115, 101]⟩, .int .i64 0]),
  (5, [.int .i64 2], .tuple #[.string ⟨#[114, 101, 111, 114, 100, 101, 114]⟩, .int .i64 0]),
  (5, [.int .i64 3], .tuple #[.string ⟨#[114, 101, 110, 97, 109, 101]⟩, .int .i64 0]),
  (5, [.int .i64 4], .tuple #[.string ⟨#[117, 110, 114, 111, 108, 108]⟩, .int .i64 0]),
  (5, [.int .i64 5], .tuple #[.string ⟨#[118, 101, 99, 116, 111, 114, 105, 122, 101]⟩, .int .i64 0]),
  (5, [.int .i64 6], .tuple #[.string ⟨#[112, 97, 114, 97, 108, 108, 101, 108]⟩, .int .i64 0]),
  (5, [.int .i64 7], .tuple #[.string ⟨#[98, 108, 111, 99, 107, 115]⟩, .int .i64 0]),
  (5, [.int .i64 8], .tuple #[.string ⟨#[116, 104, 114, 101, 97, 100, 115]⟩, .int .i64 0]),
  (5, [.int .i64 9], .tuple #[.string ⟨#[99, 111, 109, 112, 117, 116, 101, 95, 114, 111, 111, 116]⟩, .int .i64 0]),
  (5, [.int .i64 10], .tuple #[.string ⟨#[99, 111, 109, 112, 117, 116, 101, 95, 97, 116]⟩, .int .i64 0]),
  (5, [.int .i64 11], .tuple #[.string ⟨#[115, 116, 111, 114, 101, 95, 114, 111, 111, 116]⟩, .int .i64 0]),
  (5, [.int .i64 12], .tuple #[.string ⟨#[115, 116, 111, 114, 101, 95, 97, 116]⟩, .int .i64 0]),
  (5, [.int .i64 13], .tuple #[.string ⟨#[102, 111, 108, 100]⟩, .int .i64 0]),
  (5, [.int .i64 14], .tuple #[.string ⟨#[98, 111, 117, 110, 100]⟩, .int .i64 0]),
  (5, [.int .i64 15], .tuple #[.string ⟨#[109, 101, 109, 111, 105, 122, 101]⟩, .int .i64 0]),
  (7, [.int .i64 0], .tuple #[.string ⟨#[114, 111, 117, 110, 100, 95, 117, 112]⟩, .int .i64 0]),
  (7, [.int .i64 1], .tuple #[.string ⟨#[103, 117, 97, 114, 100]⟩, .int .i64 0]),
  (7, [.int .i64 2], .tuple #[.string ⟨#[115, 104, 105, 102, 116]⟩, .int .i64 0]),
  (7, [.int .i64 3], .tuple #[.string ⟨#[101, 120, 97, 99, 116]⟩, .int .i64 0])]
theorem run_kf1 (aR aS : Addr) : t_kf1.map (fun e => (@call env0 Tryz.prog (glob aR aS) (tabO u_kf0) 300 60 (.fn e.1) (e.2.1.map .v) []).map fun r => nrm r.1) = t_kf1.map fun e => some (.v e.2.2) := by kernel_rfl
def u_kf1 : List Entry := t_kf1 ++ u_kf0
theorem ok_kf1 (aR aS : Addr) : TabOk Tryz.prog (glob aR aS) u_kf1 := TabOk.append (@tabOk_of_run env0 _ _ _ (@tabO_holds env0 _ _ _ (ok_kf0 aR aS)) namesOk0 mixed _ _ _ (run_kf1 aR aS)) (ok_kf0 aR aS)
end
end Go.Proofs.YthlbienfimdkbaaGreatDoor

namespace Go.Proofs.YthlbienfimdkbaaGreatDoor
open Go Go.RX
set_option maxRecDepth 1000000
noncomputable section
def t_kf2 : List Entry := [
  (6, [.string ⟨#[115, 112, 108, 105, 116]⟩], .tuple #[.int .i64 0, .int .i64 0]),
  (6, [.string ⟨#[102, 117, 115, 101]⟩], .tuple #[.int .i64 1, .int .i64 0]),
  (6, [.string ⟨#[114, 101, 111, 114, 100, 101, 114]⟩], .tuple #[.int .i64 2, .int .i64 0]),
  (6, [.string ⟨#[114, 101, 110, 97, 109, 101]⟩], .tuple #[.int .i64 3, .int .i64 0]),
  (6, [.string ⟨#[117, 110, 114, 111, 108, 108]⟩], .tuple #[.int .i64 4, .int .i64 0]),
  (6, [.string ⟨#[118, 101, 99, 116, 111, 114, 105, 122, 101]⟩], .tuple #[.int .i64 5, .int .i64 0]),
  (6, [.string ⟨#[112, 97, 114, 97, 108, 108, 101, 108]⟩], .tuple #[.int .i64 6, .int .i64 0]),
  (6, [.string ⟨#[98, 108, 111, 99, 107, 115]⟩], .tuple #[.int .i64 7, .int .i64 0]),
  (6, [.string ⟨#[116, 104, 114, 101, 97, 100, 115]⟩], .tuple #[.int .i64 8, .int .i64 0]),
  (6, [.string ⟨#[99, 111, 109, 112, 117, 116, 101, 95, 114, 111, 111, 116]⟩], .tuple #[.int .i64 9, .int .i64 0]),
  (6, [.string ⟨#[99, 111, 109, 112, 117, 116, 101, 95, 97, 116]⟩], .tuple #[.int .i64 10, .int .i64 0]),
  (6, [.string ⟨#[115, 116, 111, 114, 101, 95, 114, 111, 111, 116]⟩], .tuple #[.int .i64 11, .int .i64 0]),
  (6, [.string ⟨#[115, 116, 111, 114, 101, 95, 97, 116]⟩], .tuple #[.int .i64 12, .int .i64 0]),
  (6, [.string ⟨#[102, 111, 108, 100]⟩], .tuple #[.int .i64 13, .int .i64 0]),
  (6, [.string ⟨#[98, 111, 117, 110, 100]⟩], .tuple #[.int .i64 14, .int .i64 0]),
  (6, [.string ⟨#[109, 101, 109, 111, 105, 122, 101]⟩], .tuple #[.int .i64 15, .int .i64 0])]
theorem run_kf2 (aR aS : Addr) : t_kf2.map (fun e => (@call env0 Tryz.prog (glob aR aS) (tabO u_kf1) 300 60 (.fn e.1) (e.2.1.map .v) []).map fun r => nrm r.1) = t_kf2.map fun e => some (.v e.2.2) := by kernel_rfl
def u_kf2 : List Entry := t_kf2 ++ u_kf1
theorem ok_kf2 (aR aS : Addr) : TabOk Tryz.prog (glob aR aS) u_kf2 := TabOk.append (@tabOk_of_run env0 _ _ _ (@tabO_holds env0 _ _ _ (ok_kf1 aR aS)) namesOk0 mixed _ _ _ (run_kf2 aR aS)) (ok_kf1 aR aS)
end
end Go.Proofs.YthlbienfimdkbaaGreatDoor
