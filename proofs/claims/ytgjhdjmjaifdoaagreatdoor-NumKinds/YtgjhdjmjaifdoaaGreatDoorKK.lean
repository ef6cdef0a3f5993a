import Derived.Test.YtgjhdjmjaifdoaaGreatDoorKA
namespace Go.Proofs.YtgjhdjmjaifdoaaGreatDoor
open Go Go.RX
set_option maxRecDepth 1000000
noncomputable section
def tabK1 : List Entry := [
  (10, [.string ⟨#[98, 111, 111, 108]⟩], .tuple #[.int .i64 0, .int .i64 0]),
  (10, [.string ⟨#[117, 56]⟩], .tuple #[.int .i64 1, .int .i64 0]),
  (10, [.string ⟨#[117, 49, 54]⟩], .tuple #[.int .i64 2, .int .i64 0]),
  (10, [.string ⟨#[117, 51, 50]⟩], .tuple #[.int .i64 3, .int .i64 0]),
  (10, [.string ⟨#[117, 54, 52]⟩], .tuple #[.int .i64 4, .int .i64 0]),
  (10, [.string ⟨#[105, 56]⟩], .tuple #[.int .i64 5, .int .i64 0]),
  (10, [.string ⟨#[105, 49, 54]⟩], .tuple #[.int .i64 6, .int .i64 0]),
  (10, [.string ⟨#[105, 51, 50]⟩], .tuple #[.int .i64 7, .int .i64 0]),
  (10, [.string ⟨#[105, 54, 52]⟩], .tuple #[.int .i64 8, .int .i64 0]),
  (10, [.string ⟨#[102, 51, 50]⟩], .tuple #[.int .i64 9, .int .i64 0]),
  (10, [.string ⟨#[99, 54, 52]⟩], .tuple #[.int .i64 10, .int .i64 0])]
theorem runK1 (aR aS : Addr) : tabK1.map (fun e => (@call env0 Tryz.prog (glob aR aS) (fun _ _ => none) 300 60 (.fn e.1) (e.2.1.map .v) []).map fun r => nrm r.1) = tabK1.map fun e => some (.v e.2.2) := by kernel_rfl
theorem tabK1_ok (aR aS : Addr) : TabOk Tryz.prog (glob aR aS) tabK1 := @tabOk_of_run env0 _ _ _ (@noO_holds env0 _ _) namesOk0 mixed _ _ _ (runK1 aR aS)
def tabK2 : List Entry := [
  (11, [.string ⟨#[98, 111, 111, 108]⟩], .tuple #[.int .i64 0, .int .i64 0]),
  (11, [.string ⟨#[117, 56]⟩], .tuple #[.int .i64 1, .int .i64 0]),
  (11, [.string ⟨#[117, 49, 54]⟩], .tuple #[.int .i64 2, .int .i64 0]),
  (11, [.string ⟨#[117, 51, 50]⟩], .tuple #[.int .i64 3, .int .i64 0]),
  (11, [.string ⟨#[117, 54, 52]⟩], .tuple #[.int .i64 4, .int .i64 0]),
  (11, [.string ⟨#[105, 56]⟩], .tuple #[.int .i64 5, .int .i64 0]),
  (11, [.string ⟨#[105, 49, 54]⟩], .tuple #[.int .i64 6, .int .i64 0]),
  (11, [.string ⟨#[105, 51, 50]⟩], .tuple #[.int .i64 7, .int .i64 0]),
  (11, [.string ⟨#[105, 54, 52]⟩], .tuple #[.int .i64 8, .int .i64 0]),
  (11, [.string ⟨#[102, 51, 50]⟩], .tuple #[.int .i64 9, .int .i64 0]),
  (11, [.string ⟨#[99, 54, 52]⟩], .tuple #[.int .i64 10, .int .i64 0])]
theorem runK2 (aR aS : Addr) : tabK2.map (fun e => (@call env0 Tryz.prog (glob aR aS) (fun _ _ => none) 300 60 (.fn e.1) (e.2.1.map .v) []).map fun r => nrm r.1) = tabK2.map fun e => some (.v e.2.2) := by kernel_rfl
theorem tabK2_ok (aR aS : Addr) : TabOk Tryz.prog (glob aR aS) tabK2 := @tabOk_of_run env0 _ _ _ (@noO_holds env0 _ _) namesOk0 mixed _ _ _ (runK2 aR aS)
end
end Go.Proofs.YtgjhdjmjaifdoaaGreatDoor
