import Derived.Test.YtonkcpmefnddaaaGreatDoorKA0
namespace Go.Proofs.YtonkcpmefnddaaaGreatDoor
open Go Go.RX
set_option maxRecDepth 1000000
noncomputable section
def tab9 : List Entry := [
  (13, [.agg #[.int .i64 10, .int .u64 4656722015785320448]], .tuple #[.string ⟨#[99, 54, 52, 40, 53, 112, 48, 44, 53, 112, 48, 41]⟩, .int .i64 0]),
  (13, [.agg #[.int .i64 9, .int .u64 1073741824]], .tuple #[.string ⟨#[49, 112, 49, 102, 51, 50]⟩, .int .i64 0]),
  (13, [.agg #[.int .i64 9, .int .u64 1266679808]], .tuple #[.string ⟨#[49, 112, 50, 52, 102, 51, 50]⟩, .int .i64 0])]
theorem run9 (aR aS : Addr) : tab9.map (fun e => (@call env0 Tryz.prog (glob aR aS) (fun _ _ => none) 300 60 (.fn e.1) (e.2.1.map .v) []).map fun r => nrm r.1) = tab9.map fun e => some (.v e.2.2) := by kernel_rfl
theorem tab9_ok (aR aS : Addr) : TabOk Tryz.prog (glob aR aS) tab9 := @tabOk_of_run env0 _ _ _ (@noO_holds env0 _ _) namesOk0 mixed _ _ _ (run9 aR aS)
end
end Go.Proofs.YtonkcpmefnddaaaGreatDoor
