import Derived.Test.YthlbienfimdkbaaGreatDoorKPF
namespace Go.Proofs.YthlbienfimdkbaaGreatDoor
open Go Go.RX
set_option maxRecDepth 1000000
set_option maxHeartbeats 4000000
noncomputable section
theorem f_12 (s : ByteArray) (hn : isWord words s = false) (ρ : Nat → Int) (aR aS : Addr) (g : Nat → SVal) (H : SHeap) (B C : List CF) : (tL.map fun t => xL.map fun x => last1 s hn ρ aR aS g H B C oc12 t x) = tL.map fun _ => xL.map fun _ => Tr := by unfold last1 R; kernel_rfl
theorem f_13 (s : ByteArray) (hn : isWord words s = false) (ρ : Nat → Int) (aR aS : Addr) (g : Nat → SVal) (H : SHeap) (B C : List CF) : (tL.map fun t => xL.map fun x => last1 s hn ρ aR aS g H B C oc13 t x) = tL.map fun _ => xL.map fun _ => Tr := by unfold last1 R; kernel_rfl
theorem f_14 (s : ByteArray) (hn : isWord words s = false) (ρ : Nat → Int) (aR aS : Addr) (g : Nat → SVal) (H : SHeap) (B C : List CF) : (tL.map fun t => xL.map fun x => last1 s hn ρ aR aS g H B C oc14 t x) = tL.map fun _ => xL.map fun _ => Tr := by unfold last1 R; kernel_rfl
end
end Go.Proofs.YthlbienfimdkbaaGreatDoor
