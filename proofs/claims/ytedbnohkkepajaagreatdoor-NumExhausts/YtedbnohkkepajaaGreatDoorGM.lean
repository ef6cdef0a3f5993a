import Derived.Test.YtedbnohkkepajaaGreatDoorGL
namespace Go.Proofs.YtedbnohkkepajaaGreatDoor
noncomputable section
open Go Go.RX
open Go.RowKit (Below)
set_option maxRecDepth 1000000
set_option maxHeartbeats 4000000
theorem front_u (ρ : Nat → Int) (aR aS : Addr) : (List.range 20).map (fun i => viewS (frontI ρ aR aS false i)) = (List.range 20).map fun i => some (0, 92, stI 1 0 255 i (.v (.int .i64 0)), []) := by kernel_rfl
theorem iter_u_t (ρ : Nat → Int) (aR aS : Addr) (g : Nat → Value) : toldL.map (fun i => view psI (iterI ρ aR aS 1 0 255 true g i)) = toldL.map fun i => some (0, 92, stI 1 0 255 i (.sym (.int .i64 (.bin .add .i64 (.var 3) (.lit 1)))), []) := by kernel_rfl
theorem iter_u_n (ρ : Nat → Int) (aR aS : Addr) (g : Nat → Value) : notL.map (fun i => view psI (iterI ρ aR aS 1 0 255 false g i)) = notL.map fun i => some (0, 92, stI 1 0 255 i (.sym (.int .i64 (.bin .add .i64 (.var 3) (.lit 1)))), []) := by kernel_rfl
theorem exit_u (ρ : Nat → Int) (aR aS : Addr) (g : Nat → Value) : (List.range 20).map (fun i => backI ρ aR aS 255 (exitI ρ aR aS 1 0 255 g i)) = (List.range 20).map fun _ => some (2, 1, [], [], some [.v (.bool true)]) := by kernel_rfl
theorem front_s (ρ : Nat → Int) (aR aS : Addr) : (List.range 20).map (fun i => viewS (frontI ρ aR aS true i)) = (List.range 20).map fun i => some (0, 92, stI 5 (-128) 127 i (.v (.int .i64 (-128))), []) := by kernel_rfl
theorem iter_s_t (ρ : Nat → Int) (aR aS : Addr) (g : Nat → Value) : toldL.map (fun i => view psI (iterI ρ aR aS 5 (-128) 127 true g i)) = toldL.map fun i => some (0, 92, stI 5 (-128) 127 i (.sym (.int .i64 (.bin .add .i64 (.var 3) (.lit 1)))), []) := by kernel_rfl
theorem iter_s_n (ρ : Nat → Int) (aR aS : Addr) (g : Nat → Value) : notL.map (fun i => view psI (iterI ρ aR aS 5 (-128) 127 false g i)) = notL.map fun i => some (0, 92, stI 5 (-128) 127 i (.sym (.int .i64 (.bin .add .i64 (.var 3) (.lit 1)))), []) := by kernel_rfl
theorem exit_s (ρ : Nat → Int) (aR aS : Addr) (g : Nat → Value) : (List.range 20).map (fun i => backI ρ aR aS 127 (exitI ρ aR aS 5 (-128) 127 g i)) = (List.range 20).map fun _ => some (2, 1, [], [], some [.v (.bool true)]) := by kernel_rfl
end
end Go.Proofs.YtedbnohkkepajaaGreatDoor
