import Derived.Test.YtbhhdjlmbmeiaaaGreatDoorHP0
import Derived.Test.YtbhhdjlmbmeiaaaGreatDoorHP1
import Derived.Test.YtbhhdjlmbmeiaaaGreatDoorHP2
import Derived.Test.YtbhhdjlmbmeiaaaGreatDoorHP3
namespace Go.Proofs.YtbhhdjlmbmeiaaaGreatDoor
noncomputable section
open Go Go.RX
open Go.RowKit (Below)
set_option maxRecDepth 1000000
set_option maxHeartbeats 4000000
def Bnd (vk b n : Int) : Prop := (0 ≤ b ∧ b < 18446744073709551616) ∧ ((vk = 0 ∧ b ≤ 1 ∧ n = b) ∨
  (vk = 1 ∧ b ≤ 255 ∧ n = b) ∨
  (vk = 2 ∧ b ≤ 65535 ∧ n = b) ∨
  (vk = 3 ∧ b ≤ 4294967295 ∧ n = b) ∨
  (vk = 4 ∧ n = b) ∨
  (vk = 5 ∧ b ≤ 127 ∧ n = b) ∨
  (vk = 5 ∧ 127 < b ∧ b ≤ 255 ∧ n = (b - 256)) ∨
  (vk = 6 ∧ b ≤ 32767 ∧ n = b) ∨
  (vk = 6 ∧ 32767 < b ∧ b ≤ 65535 ∧ n = (b - 65536)) ∨
  (vk = 7 ∧ b ≤ 2147483647 ∧ n = b) ∨
  (vk = 7 ∧ 2147483647 < b ∧ b ≤ 4294967295 ∧ n = (b - 4294967296)) ∨
  (vk = 8 ∧ b ≤ 9223372036854775807 ∧ n = b) ∨
  (vk = 8 ∧ 9223372036854775807 < b ∧ n = (b - 18446744073709551616)))
theorem vclass (aR aS : Addr) (vk b : Int) (hb0 : 0 ≤ b) (hb1 : b < 18446744073709551616) : Chk aR aS vk b 11 ∨ Chk aR aS vk b 1 ∨ (∃ n, Bnd vk b n ∧ Chk aR aS vk b 0 ∧ IntV aR aS vk b n) ∨
    ((vk = 9 ∧ b < 4294967296 ∧ b / 8388608 % 256 ≠ 255 ∧ b ≠ 2147483648) ∧ Chk aR aS vk b 0) ∨ ((vk = 10 ∧ (b % 4294967296) / 8388608 % 256 ≠ 255 ∧ (b % 4294967296) ≠ 2147483648 ∧ (b / 4294967296) / 8388608 % 256 ≠ 255 ∧ (b / 4294967296) ≠ 2147483648) ∧ Chk aR aS vk b 0) := by
  rcases Int.lt_or_le vk 0 with h | h
  · exact .inl (v_neg aR aS b vk h)
  rcases Int.lt_or_le vk 11 with h' | h'
  case inr => exact .inl (v_big aR aS b vk h')
  have hv : vk = 0 ∨ vk = 1 ∨ vk = 2 ∨ vk = 3 ∨ vk = 4 ∨ vk = 5 ∨ vk = 6 ∨ vk = 7 ∨ vk = 8 ∨ vk = 9 ∨ vk = 10 := by omega
  rcases hv with rfl | rfl | rfl | rfl | rfl | rfl | rfl | rfl | rfl | rfl | rfl
  · by_cases c0 : b ≤ 1
    · exact .inr (.inr (.inl ⟨b, by unfold Bnd; omega, v_bool0 aR aS b hb0 hb1 (by omega), n_bool0 aR aS b hb0 hb1 (by omega)⟩))
    exact .inr (.inl (v_bool1 aR aS b hb0 hb1 (by omega)))
  · by_cases c0 : b ≤ 255
    · exact .inr (.inr (.inl ⟨b, by unfold Bnd; omega, v_u8ok aR aS b hb0 hb1 (by omega), n_u8ok aR aS b hb0 hb1 (by omega)⟩))
    exact .inr (.inl (v_u8bad aR aS b hb0 hb1 (by omega)))
  · by_cases c0 : b ≤ 65535
    · exact .inr (.inr (.inl ⟨b, by unfold Bnd; omega, v_u16ok aR aS b hb0 hb1 (by omega), n_u16ok aR aS b hb0 hb1 (by omega)⟩))
    exact .inr (.inl (v_u16bad aR aS b hb0 hb1 (by omega)))
  · by_cases c0 : b ≤ 4294967295
    · exact .inr (.inr (.inl ⟨b, by unfold Bnd; omega, v_u32ok aR aS b hb0 hb1 (by omega), n_u32ok aR aS b hb0 hb1 (by omega)⟩))
    exact .inr (.inl (v_u32bad aR aS b hb0 hb1 (by omega)))
  · exact .inr (.inr (.inl ⟨b, by unfold Bnd; omega, v_u64ok aR aS b hb0 hb1 , n_u64ok aR aS b hb0 hb1 ⟩))
  · by_cases c0 : b ≤ 127
    · exact .inr (.inr (.inl ⟨b, by unfold Bnd; omega, v_i8pos aR aS b hb0 hb1 (by omega), n_i8pos aR aS b hb0 hb1 (by omega)⟩))
    by_cases c1 : 127 < b ∧ b ≤ 255
    · exact .inr (.inr (.inl ⟨(b - 256), by unfold Bnd; omega, v_i8neg aR aS b hb0 hb1 (by omega) (by omega), n_i8neg aR aS b hb0 hb1 (by omega) (by omega)⟩))
    exact .inr (.inl (v_i8bad aR aS b hb0 hb1 (by omega)))
  · by_cases c0 : b ≤ 32767
    · exact .inr (.inr (.inl ⟨b, by unfold Bnd; omega, v_i16pos aR aS b hb0 hb1 (by omega), n_i16pos aR aS b hb0 hb1 (by omega)⟩))
    by_cases c1 : 32767 < b ∧ b ≤ 65535
    · exact .inr (.inr (.inl ⟨(b - 65536), by unfold Bnd; omega, v_i16neg aR aS b hb0 hb1 (by omega) (by omega), n_i16neg aR aS b hb0 hb1 (by omega) (by omega)⟩))
    exact .inr (.inl (v_i16bad aR aS b hb0 hb1 (by omega)))
  · by_cases c0 : b ≤ 2147483647
    · exact .inr (.inr (.inl ⟨b, by unfold Bnd; omega, v_i32pos aR aS b hb0 hb1 (by omega), n_i32pos aR aS b hb0 hb1 (by omega)⟩))
    by_cases c1 : 2147483647 < b ∧ b ≤ 4294967295
    · exact .inr (.inr (.inl ⟨(b - 4294967296), by unfold Bnd; omega, v_i32neg aR aS b hb0 hb1 (by omega) (by omega), n_i32neg aR aS b hb0 hb1 (by omega) (by omega)⟩))
    exact .inr (.inl (v_i32bad aR aS b hb0 hb1 (by omega)))
  · by_cases c0 : b ≤ 9223372036854775807
    · exact .inr (.inr (.inl ⟨b, by unfold Bnd; omega, v_i64pos aR aS b hb0 hb1 (by omega), n_i64pos aR aS b hb0 hb1 (by omega)⟩))
    exact .inr (.inr (.inl ⟨(b - 18446744073709551616), by unfold Bnd; omega, v_i64neg aR aS b hb0 hb1 (by omega), n_i64neg aR aS b hb0 hb1 (by omega)⟩))
  · by_cases c0 : 4294967296 ≤ b
    · exact .inr (.inl (v_f32wide aR aS b hb0 hb1 (by omega)))
    by_cases c1 : b < 4294967296 ∧ b / 8388608 % 256 = 255
    · exact .inr (.inl (v_f32exp aR aS b hb0 hb1 (by omega) (by omega)))
    by_cases c2 : b = 2147483648
    · exact .inr (.inl (v_f32zero aR aS b hb0 hb1 (by omega)))
    exact .inr (.inr (.inr (.inl ⟨by omega, v_f32ok aR aS b hb0 hb1 (by omega) (by omega) (by omega)⟩)))
  · by_cases c0 : (b % 4294967296) / 8388608 % 256 = 255
    · exact .inr (.inl (v_c64loexp aR aS b hb0 hb1 (by omega)))
    by_cases c1 : (b % 4294967296) = 2147483648
    · exact .inr (.inl (v_c64lozero aR aS b hb0 hb1 (by omega)))
    by_cases c2 : (b % 4294967296) / 8388608 % 256 ≠ 255 ∧ (b % 4294967296) ≠ 2147483648 ∧ (b / 4294967296) / 8388608 % 256 = 255
    · exact .inr (.inl (v_c64hiexp aR aS b hb0 hb1 (by omega) (by omega) (by omega)))
    by_cases c3 : (b % 4294967296) / 8388608 % 256 ≠ 255 ∧ (b % 4294967296) ≠ 2147483648 ∧ (b / 4294967296) = 2147483648
    · exact .inr (.inl (v_c64hizero aR aS b hb0 hb1 (by omega) (by omega) (by omega)))
    exact .inr (.inr (.inr (.inr ⟨by omega, v_c64ok aR aS b hb0 hb1 (by omega) (by omega) (by omega) (by omega)⟩)))
end
end Go.Proofs.YtbhhdjlmbmeiaaaGreatDoor
