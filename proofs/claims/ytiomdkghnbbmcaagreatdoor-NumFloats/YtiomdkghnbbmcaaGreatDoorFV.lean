import Derived.Test.YtiomdkghnbbmcaaGreatDoorFP0
import Derived.Test.YtiomdkghnbbmcaaGreatDoorFP1
import Derived.Test.YtiomdkghnbbmcaaGreatDoorFP2
import Derived.Test.YtiomdkghnbbmcaaGreatDoorFP3
namespace Go.Proofs.YtiomdkghnbbmcaaGreatDoor
noncomputable section
open Go Go.RX
open Go.RowKit (Below)
set_option maxRecDepth 1000000
set_option maxHeartbeats 4000000
theorem vclass (aR aS : Addr) (vk b : Int) (hb0 : 0 ≤ b) (hb1 : b < 18446744073709551616) : VF aR aS vk b 11 (.float .f32 0) 11 (.complex .f32 0 0) 11 ∨ VF aR aS vk b 1 (.float .f32 0) 1 (.complex .f32 0 0) 1 ∨ (vk < 9 ∧ VF aR aS vk b 0 (.float .f32 0) 12 (.complex .f32 0 0) 12) ∨
    ((vk = 9 ∧ b < 4294967296 ∧ b / 8388608 % 256 ≠ 255 ∧ b ≠ 2147483648) ∧ VF aR aS vk b 0 (.float .f32 b.toNat) 0 (.complex .f32 0 0) 12) ∨
    ((vk = 10 ∧ (b % 4294967296) / 8388608 % 256 ≠ 255 ∧ (b % 4294967296) ≠ 2147483648 ∧ (b / 4294967296) / 8388608 % 256 ≠ 255 ∧ (b / 4294967296) ≠ 2147483648) ∧ VF aR aS vk b 0 (.float .f32 0) 12 (.complex .f32 (b % 4294967296).toNat (b / 4294967296).toNat) 0) := by
  rcases Int.lt_or_le vk 0 with h | h
  · exact .inl (v_neg aR aS b vk h)
  rcases Int.lt_or_le vk 11 with h' | h'
  case inr => exact .inl (v_big aR aS b vk h')
  have hv : vk = 0 ∨ vk = 1 ∨ vk = 2 ∨ vk = 3 ∨ vk = 4 ∨ vk = 5 ∨ vk = 6 ∨ vk = 7 ∨ vk = 8 ∨ vk = 9 ∨ vk = 10 := by omega
  rcases hv with rfl | rfl | rfl | rfl | rfl | rfl | rfl | rfl | rfl | rfl | rfl
  · by_cases c0 : b ≤ 1
    · exact .inr (.inr (.inl ⟨by omega, v_bool0 aR aS b hb0 hb1 (by omega)⟩))
    exact .inr (.inl (v_bool1 aR aS b hb0 hb1 (by omega)))
  · by_cases c0 : b ≤ 255
    · exact .inr (.inr (.inl ⟨by omega, v_u8ok aR aS b hb0 hb1 (by omega)⟩))
    exact .inr (.inl (v_u8bad aR aS b hb0 hb1 (by omega)))
  · by_cases c0 : b ≤ 65535
    · exact .inr (.inr (.inl ⟨by omega, v_u16ok aR aS b hb0 hb1 (by omega)⟩))
    exact .inr (.inl (v_u16bad aR aS b hb0 hb1 (by omega)))
  · by_cases c0 : b ≤ 4294967295
    · exact .inr (.inr (.inl ⟨by omega, v_u32ok aR aS b hb0 hb1 (by omega)⟩))
    exact .inr (.inl (v_u32bad aR aS b hb0 hb1 (by omega)))
  · exact .inr (.inr (.inl ⟨by omega, v_u64ok aR aS b hb0 hb1 ⟩))
  · by_cases c0 : b ≤ 255
    · exact .inr (.inr (.inl ⟨by omega, v_i8ok aR aS b hb0 hb1 (by omega)⟩))
    exact .inr (.inl (v_i8bad aR aS b hb0 hb1 (by omega)))
  · by_cases c0 : b ≤ 65535
    · exact .inr (.inr (.inl ⟨by omega, v_i16ok aR aS b hb0 hb1 (by omega)⟩))
    exact .inr (.inl (v_i16bad aR aS b hb0 hb1 (by omega)))
  · by_cases c0 : b ≤ 4294967295
    · exact .inr (.inr (.inl ⟨by omega, v_i32ok aR aS b hb0 hb1 (by omega)⟩))
    exact .inr (.inl (v_i32bad aR aS b hb0 hb1 (by omega)))
  · exact .inr (.inr (.inl ⟨by omega, v_i64ok aR aS b hb0 hb1 ⟩))
  · by_cases c0 : 4294967296 ≤ b
    · exact .inr (.inl (v_f32wide aR aS b hb0 hb1 (by omega)))
    by_cases c1 : b < 4294967296 ∧ b / 8388608 % 256 = 255
    · exact .inr (.inl (v_f32exp aR aS b hb0 hb1 (by omega) (by omega)))
    by_cases c2 : b = 2147483648
    · exact .inr (.inl (v_f32zero aR aS b hb0 hb1 (by omega)))
    exact .inr (.inr (.inr (.inl ⟨by omega, v_f32ok aR aS b hb0 hb1 (by omega) (by omega) (by omega)⟩)))
  · by_cases c0 : (b % 4294967296) / 8388608 % 256 = 255
    · exact .inr (.inl (v_c64loexp aR aS b hb0 hb1 (by omega)))
    by_cases c1 : (b % 4294967296) = 2147483648
    · exact .inr (.inl (v_c64lozero aR aS b hb0 hb1 (by omega)))
    by_cases c2 : (b % 4294967296) / 8388608 % 256 ≠ 255 ∧ (b % 4294967296) ≠ 2147483648 ∧ (b / 4294967296) / 8388608 % 256 = 255
    · exact .inr (.inl (v_c64hiexp aR aS b hb0 hb1 (by omega) (by omega) (by omega)))
    by_cases c3 : (b % 4294967296) / 8388608 % 256 ≠ 255 ∧ (b % 4294967296) ≠ 2147483648 ∧ (b / 4294967296) = 2147483648
    · exact .inr (.inl (v_c64hizero aR aS b hb0 hb1 (by omega) (by omega) (by omega)))
    exact .inr (.inr (.inr (.inr ⟨by omega, v_c64ok aR aS b hb0 hb1 (by omega) (by omega) (by omega) (by omega)⟩)))
end
end Go.Proofs.YtiomdkghnbbmcaaGreatDoor
