import Derived.Test.YtonkcpmefnddaaaGreatDoorKA0
namespace Go.Proofs.YtonkcpmefnddaaaGreatDoor
open Go Go.RX
set_option maxRecDepth 1000000
noncomputable section
def tab6 : List Entry := [
  (12, [.string ⟨#[50, 112, 48, 102, 51, 50]⟩], .tuple #[.agg #[.int .i64 0, .int .u64 0], .int .i64 3]),
  (12, [.string ⟨#[50, 53, 54, 117, 56]⟩], .tuple #[.agg #[.int .i64 0, .int .u64 0], .int .i64 3]),
  (12, [.string ⟨#[51, 112, 45, 49, 102, 51, 50]⟩], .tuple #[.agg #[.int .i64 9, .int .u64 1069547520], .int .i64 0])]
theorem run6 (aR aS : Addr) : tab6.map (fun e => (@call env0 Tryz.prog (glob aR aS) (fun _ _ => none) 300 60 (.fn e.1) (e.2.1.map .v) []).map fun r => nrm r.1) = tab6.map fun e => some (.v e.2.2) := by kernel_rfl
theorem tab6_ok (aR aS : Addr) : TabOk Tryz.prog (glob aR aS) tab6 := @tabOk_of_run env0 _ _ _ (@noO_holds env0 _ _) namesOk0 mixed _ _ _ (run6 aR aS)
end
end Go.Proofs.YtonkcpmefnddaaaGreatDoor
