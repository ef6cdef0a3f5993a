import Derived.Test.YtbhhdjlmbmeiaaaGreatDoorHC0
import Derived.Test.YtbhhdjlmbmeiaaaGreatDoorHC1
import Derived.Test.YtbhhdjlmbmeiaaaGreatDoorHC2
import Derived.Test.YtbhhdjlmbmeiaaaGreatDoorHC3
import Derived.Test.YtbhhdjlmbmeiaaaGreatDoorHS0
import Derived.Test.YtbhhdjlmbmeiaaaGreatDoorHS1
import Derived.Test.YtbhhdjlmbmeiaaaGreatDoorHS2
import Derived.Test.YtbhhdjlmbmeiaaaGreatDoorHS3
namespace Go.Proofs.YtbhhdjlmbmeiaaaGreatDoor
noncomputable section
open Go Go.RX
open Go.RowKit (Below)
set_option maxRecDepth 1000000
set_option maxHeartbeats 4000000
theorem int_C0 {aR aS : Addr} {b n k : Int} (hB : Bnd 0 b n) (hc : Chk aR aS 0 b 0) (hi : IntV aR aS 0 b n) (k0 : 0 ≤ k) (k1 : k < 11) : AgC aR aS k 0 b := by
  have hh : (0 ≤ b ∧ b < 18446744073709551616) ∧ b = n % 2 ∧ 0 ≤ n ∧ n ≤ 1 := by
    unfold Bnd at hB
    omega
  have h : HN 0 b n := ⟨hh.1.1, hh.1.2, hh.2.1, hh.2.2.1, hh.2.2.2⟩
  rcases (show k = 0 ∨ k = 1 ∨ k = 2 ∨ k = 3 ∨ k = 4 ∨ k = 5 ∨ k = 6 ∨ k = 7 ∨ k = 8 ∨ k = 9 ∨ k = 10 by omega) with rfl | rfl | rfl | rfl | rfl | rfl | rfl | rfl | rfl | rfl | rfl
  · by_cases c0 : b = 0
    · exact ag_C0_0z b n h (by omega) hc hi
    exact ag_C0_0n b n h (by omega) hc hi
  · exact ag_C1_0 b n h  hc hi
  · exact ag_C2_0 b n h  hc hi
  · exact ag_C3_0 b n h  hc hi
  · exact ag_C4_0 b n h  hc hi
  · exact ag_C5_0 b n h  hc hi
  · exact ag_C6_0 b n h  hc hi
  · exact ag_C7_0 b n h  hc hi
  · exact ag_C8_0 b n h  hc hi
  · exact ag_C9_0p b n h (by omega) hc hi
  · exact ag_C10_0p b n h (by omega) hc hi
theorem int_C1 {aR aS : Addr} {b n k : Int} (hB : Bnd 1 b n) (hc : Chk aR aS 1 b 0) (hi : IntV aR aS 1 b n) (k0 : 0 ≤ k) (k1 : k < 11) : AgC aR aS k 1 b := by
  have hh : (0 ≤ b ∧ b < 18446744073709551616) ∧ b = n % 256 ∧ 0 ≤ n ∧ n ≤ 255 := by
    unfold Bnd at hB
    omega
  have h : HN 1 b n := ⟨hh.1.1, hh.1.2, hh.2.1, hh.2.2.1, hh.2.2.2⟩
  rcases (show k = 0 ∨ k = 1 ∨ k = 2 ∨ k = 3 ∨ k = 4 ∨ k = 5 ∨ k = 6 ∨ k = 7 ∨ k = 8 ∨ k = 9 ∨ k = 10 by omega) with rfl | rfl | rfl | rfl | rfl | rfl | rfl | rfl | rfl | rfl | rfl
  · by_cases c0 : b = 0
    · exact ag_C0_1z b n h (by omega) hc hi
    exact ag_C0_1n b n h (by omega) hc hi
  · exact ag_C1_1 b n h  hc hi
  · exact ag_C2_1 b n h  hc hi
  · exact ag_C3_1 b n h  hc hi
  · exact ag_C4_1 b n h  hc hi
  · exact ag_C5_1 b n h  hc hi
  · exact ag_C6_1 b n h  hc hi
  · exact ag_C7_1 b n h  hc hi
  · exact ag_C8_1 b n h  hc hi
  · exact ag_C9_1p b n h (by omega) hc hi
  · exact ag_C10_1p b n h (by omega) hc hi
theorem int_C2 {aR aS : Addr} {b n k : Int} (hB : Bnd 2 b n) (hc : Chk aR aS 2 b 0) (hi : IntV aR aS 2 b n) (k0 : 0 ≤ k) (k1 : k < 11) : AgC aR aS k 2 b := by
  have hh : (0 ≤ b ∧ b < 18446744073709551616) ∧ b = n % 65536 ∧ 0 ≤ n ∧ n ≤ 65535 := by
    unfold Bnd at hB
    omega
  have h : HN 2 b n := ⟨hh.1.1, hh.1.2, hh.2.1, hh.2.2.1, hh.2.2.2⟩
  rcases (show k = 0 ∨ k = 1 ∨ k = 2 ∨ k = 3 ∨ k = 4 ∨ k = 5 ∨ k = 6 ∨ k = 7 ∨ k = 8 ∨ k = 9 ∨ k = 10 by omega) with rfl | rfl | rfl | rfl | rfl | rfl | rfl | rfl | rfl | rfl | rfl
  · by_cases c0 : b = 0
    · exact ag_C0_2z b n h (by omega) hc hi
    exact ag_C0_2n b n h (by omega) hc hi
  · exact ag_C1_2 b n h  hc hi
  · exact ag_C2_2 b n h  hc hi
  · exact ag_C3_2 b n h  hc hi
  · exact ag_C4_2 b n h  hc hi
  · exact ag_C5_2 b n h  hc hi
  · exact ag_C6_2 b n h  hc hi
  · exact ag_C7_2 b n h  hc hi
  · exact ag_C8_2 b n h  hc hi
  · exact ag_C9_2p b n h (by omega) hc hi
  · exact ag_C10_2p b n h (by omega) hc hi
theorem int_C3 {aR aS : Addr} {b n k : Int} (hB : Bnd 3 b n) (hc : Chk aR aS 3 b 0) (hi : IntV aR aS 3 b n) (k0 : 0 ≤ k) (k1 : k < 11) : AgC aR aS k 3 b := by
  have hh : (0 ≤ b ∧ b < 18446744073709551616) ∧ b = n % 4294967296 ∧ 0 ≤ n ∧ n ≤ 4294967295 := by
    unfold Bnd at hB
    omega
  have h : HN 3 b n := ⟨hh.1.1, hh.1.2, hh.2.1, hh.2.2.1, hh.2.2.2⟩
  rcases (show k = 0 ∨ k = 1 ∨ k = 2 ∨ k = 3 ∨ k = 4 ∨ k = 5 ∨ k = 6 ∨ k = 7 ∨ k = 8 ∨ k = 9 ∨ k = 10 by omega) with rfl | rfl | rfl | rfl | rfl | rfl | rfl | rfl | rfl | rfl | rfl
  · by_cases c0 : b = 0
    · exact ag_C0_3z b n h (by omega) hc hi
    exact ag_C0_3n b n h (by omega) hc hi
  · exact ag_C1_3 b n h  hc hi
  · exact ag_C2_3 b n h  hc hi
  · exact ag_C3_3 b n h  hc hi
  · exact ag_C4_3 b n h  hc hi
  · exact ag_C5_3 b n h  hc hi
  · exact ag_C6_3 b n h  hc hi
  · exact ag_C7_3 b n h  hc hi
  · exact ag_C8_3 b n h  hc hi
  · exact ag_C9_3p b n h (by omega) hc hi
  · exact ag_C10_3p b n h (by omega) hc hi
theorem int_C4 {aR aS : Addr} {b n k : Int} (hB : Bnd 4 b n) (hc : Chk aR aS 4 b 0) (hi : IntV aR aS 4 b n) (k0 : 0 ≤ k) (k1 : k < 11) : AgC aR aS k 4 b := by
  have hh : (0 ≤ b ∧ b < 18446744073709551616) ∧ b = n % 18446744073709551616 ∧ 0 ≤ n ∧ n ≤ 18446744073709551615 := by
    unfold Bnd at hB
    omega
  have h : HN 4 b n := ⟨hh.1.1, hh.1.2, hh.2.1, hh.2.2.1, hh.2.2.2⟩
  rcases (show k = 0 ∨ k = 1 ∨ k = 2 ∨ k = 3 ∨ k = 4 ∨ k = 5 ∨ k = 6 ∨ k = 7 ∨ k = 8 ∨ k = 9 ∨ k = 10 by omega) with rfl | rfl | rfl | rfl | rfl | rfl | rfl | rfl | rfl | rfl | rfl
  · by_cases c0 : b = 0
    · exact ag_C0_4z b n h (by omega) hc hi
    exact ag_C0_4n b n h (by omega) hc hi
  · exact ag_C1_4 b n h  hc hi
  · exact ag_C2_4 b n h  hc hi
  · exact ag_C3_4 b n h  hc hi
  · exact ag_C4_4 b n h  hc hi
  · exact ag_C5_4 b n h  hc hi
  · exact ag_C6_4 b n h  hc hi
  · exact ag_C7_4 b n h  hc hi
  · exact ag_C8_4 b n h  hc hi
  · exact ag_C9_4p b n h (by omega) hc hi
  · exact ag_C10_4p b n h (by omega) hc hi
theorem int_C5 {aR aS : Addr} {b n k : Int} (hB : Bnd 5 b n) (hc : Chk aR aS 5 b 0) (hi : IntV aR aS 5 b n) (k0 : 0 ≤ k) (k1 : k < 11) : AgC aR aS k 5 b := by
  have hh : (0 ≤ b ∧ b < 18446744073709551616) ∧ b = n % 256 ∧ (-128) ≤ n ∧ n ≤ 127 := by
    unfold Bnd at hB
    omega
  have h : HN 5 b n := ⟨hh.1.1, hh.1.2, hh.2.1, hh.2.2.1, hh.2.2.2⟩
  rcases (show k = 0 ∨ k = 1 ∨ k = 2 ∨ k = 3 ∨ k = 4 ∨ k = 5 ∨ k = 6 ∨ k = 7 ∨ k = 8 ∨ k = 9 ∨ k = 10 by omega) with rfl | rfl | rfl | rfl | rfl | rfl | rfl | rfl | rfl | rfl | rfl
  · by_cases c0 : b = 0
    · exact ag_C0_5z b n h (by omega) hc hi
    exact ag_C0_5n b n h (by omega) hc hi
  · exact ag_C1_5 b n h  hc hi
  · exact ag_C2_5 b n h  hc hi
  · exact ag_C3_5 b n h  hc hi
  · exact ag_C4_5 b n h  hc hi
  · exact ag_C5_5 b n h  hc hi
  · exact ag_C6_5 b n h  hc hi
  · exact ag_C7_5 b n h  hc hi
  · exact ag_C8_5 b n h  hc hi
  · by_cases c0 : 0 ≤ n
    · exact ag_C9_5p b n h (by omega) hc hi
    exact ag_C9_5m b n h (by omega) hc hi
  · by_cases c0 : 0 ≤ n
    · exact ag_C10_5p b n h (by omega) hc hi
    exact ag_C10_5m b n h (by omega) hc hi
theorem int_C6 {aR aS : Addr} {b n k : Int} (hB : Bnd 6 b n) (hc : Chk aR aS 6 b 0) (hi : IntV aR aS 6 b n) (k0 : 0 ≤ k) (k1 : k < 11) : AgC aR aS k 6 b := by
  have hh : (0 ≤ b ∧ b < 18446744073709551616) ∧ b = n % 65536 ∧ (-32768) ≤ n ∧ n ≤ 32767 := by
    unfold Bnd at hB
    omega
  have h : HN 6 b n := ⟨hh.1.1, hh.1.2, hh.2.1, hh.2.2.1, hh.2.2.2⟩
  rcases (show k = 0 ∨ k = 1 ∨ k = 2 ∨ k = 3 ∨ k = 4 ∨ k = 5 ∨ k = 6 ∨ k = 7 ∨ k = 8 ∨ k = 9 ∨ k = 10 by omega) with rfl | rfl | rfl | rfl | rfl | rfl | rfl | rfl | rfl | rfl | rfl
  · by_cases c0 : b = 0
    · exact ag_C0_6z b n h (by omega) hc hi
    exact ag_C0_6n b n h (by omega) hc hi
  · exact ag_C1_6 b n h  hc hi
  · exact ag_C2_6 b n h  hc hi
  · exact ag_C3_6 b n h  hc hi
  · exact ag_C4_6 b n h  hc hi
  · exact ag_C5_6 b n h  hc hi
  · exact ag_C6_6 b n h  hc hi
  · exact ag_C7_6 b n h  hc hi
  · exact ag_C8_6 b n h  hc hi
  · by_cases c0 : 0 ≤ n
    · exact ag_C9_6p b n h (by omega) hc hi
    exact ag_C9_6m b n h (by omega) hc hi
  · by_cases c0 : 0 ≤ n
    · exact ag_C10_6p b n h (by omega) hc hi
    exact ag_C10_6m b n h (by omega) hc hi
theorem int_C7 {aR aS : Addr} {b n k : Int} (hB : Bnd 7 b n) (hc : Chk aR aS 7 b 0) (hi : IntV aR aS 7 b n) (k0 : 0 ≤ k) (k1 : k < 11) : AgC aR aS k 7 b := by
  have hh : (0 ≤ b ∧ b < 18446744073709551616) ∧ b = n % 4294967296 ∧ (-2147483648) ≤ n ∧ n ≤ 2147483647 := by
    unfold Bnd at hB
    omega
  have h : HN 7 b n := ⟨hh.1.1, hh.1.2, hh.2.1, hh.2.2.1, hh.2.2.2⟩
  rcases (show k = 0 ∨ k = 1 ∨ k = 2 ∨ k = 3 ∨ k = 4 ∨ k = 5 ∨ k = 6 ∨ k = 7 ∨ k = 8 ∨ k = 9 ∨ k = 10 by omega) with rfl | rfl | rfl | rfl | rfl | rfl | rfl | rfl | rfl | rfl | rfl
  · by_cases c0 : b = 0
    · exact ag_C0_7z b n h (by omega) hc hi
    exact ag_C0_7n b n h (by omega) hc hi
  · exact ag_C1_7 b n h  hc hi
  · exact ag_C2_7 b n h  hc hi
  · exact ag_C3_7 b n h  hc hi
  · exact ag_C4_7 b n h  hc hi
  · exact ag_C5_7 b n h  hc hi
  · exact ag_C6_7 b n h  hc hi
  · exact ag_C7_7 b n h  hc hi
  · exact ag_C8_7 b n h  hc hi
  · by_cases c0 : 0 ≤ n
    · exact ag_C9_7p b n h (by omega) hc hi
    exact ag_C9_7m b n h (by omega) hc hi
  · by_cases c0 : 0 ≤ n
    · exact ag_C10_7p b n h (by omega) hc hi
    exact ag_C10_7m b n h (by omega) hc hi
theorem int_C8 {aR aS : Addr} {b n k : Int} (hB : Bnd 8 b n) (hc : Chk aR aS 8 b 0) (hi : IntV aR aS 8 b n) (k0 : 0 ≤ k) (k1 : k < 11) : AgC aR aS k 8 b := by
  have hh : (0 ≤ b ∧ b < 18446744073709551616) ∧ b = n % 18446744073709551616 ∧ (-9223372036854775808) ≤ n ∧ n ≤ 9223372036854775807 := by
    unfold Bnd at hB
    omega
  have h : HN 8 b n := ⟨hh.1.1, hh.1.2, hh.2.1, hh.2.2.1, hh.2.2.2⟩
  rcases (show k = 0 ∨ k = 1 ∨ k = 2 ∨ k = 3 ∨ k = 4 ∨ k = 5 ∨ k = 6 ∨ k = 7 ∨ k = 8 ∨ k = 9 ∨ k = 10 by omega) with rfl | rfl | rfl | rfl | rfl | rfl | rfl | rfl | rfl | rfl | rfl
  · by_cases c0 : b = 0
    · exact ag_C0_8z b n h (by omega) hc hi
    exact ag_C0_8n b n h (by omega) hc hi
  · exact ag_C1_8 b n h  hc hi
  · exact ag_C2_8 b n h  hc hi
  · exact ag_C3_8 b n h  hc hi
  · exact ag_C4_8 b n h  hc hi
  · exact ag_C5_8 b n h  hc hi
  · exact ag_C6_8 b n h  hc hi
  · exact ag_C7_8 b n h  hc hi
  · exact ag_C8_8 b n h  hc hi
  · by_cases c0 : 0 ≤ n
    · exact ag_C9_8p b n h (by omega) hc hi
    exact ag_C9_8m b n h (by omega) hc hi
  · by_cases c0 : 0 ≤ n
    · exact ag_C10_8p b n h (by omega) hc hi
    exact ag_C10_8m b n h (by omega) hc hi
theorem int_S0 {aR aS : Addr} {b n k : Int} (hB : Bnd 0 b n) (hc : Chk aR aS 0 b 0) (hi : IntV aR aS 0 b n) (k0 : 0 ≤ k) (k1 : k < 11) : AgS aR aS k 0 b := by
  have hh : (0 ≤ b ∧ b < 18446744073709551616) ∧ b = n % 2 ∧ 0 ≤ n ∧ n ≤ 1 := by
    unfold Bnd at hB
    omega
  have h : HN 0 b n := ⟨hh.1.1, hh.1.2, hh.2.1, hh.2.2.1, hh.2.2.2⟩
  rcases (show k = 0 ∨ k = 1 ∨ k = 2 ∨ k = 3 ∨ k = 4 ∨ k = 5 ∨ k = 6 ∨ k = 7 ∨ k = 8 ∨ k = 9 ∨ k = 10 by omega) with rfl | rfl | rfl | rfl | rfl | rfl | rfl | rfl | rfl | rfl | rfl
  · exact ag_S0_0e b n h  hc hi
  · exact ag_S1_0e b n h  hc hi
  · exact ag_S2_0e b n h  hc hi
  · exact ag_S3_0e b n h  hc hi
  · exact ag_S4_0e b n h  hc hi
  · exact ag_S5_0e b n h  hc hi
  · exact ag_S6_0e b n h  hc hi
  · exact ag_S7_0e b n h  hc hi
  · exact ag_S8_0e b n h  hc hi
  · exact ag_S9_0e b n h  hc hi
  · exact ag_S10_0e b n h  hc hi
theorem int_S1 {aR aS : Addr} {b n k : Int} (hB : Bnd 1 b n) (hc : Chk aR aS 1 b 0) (hi : IntV aR aS 1 b n) (k0 : 0 ≤ k) (k1 : k < 11) : AgS aR aS k 1 b := by
  have hh : (0 ≤ b ∧ b < 18446744073709551616) ∧ b = n % 256 ∧ 0 ≤ n ∧ n ≤ 255 := by
    unfold Bnd at hB
    omega
  have h : HN 1 b n := ⟨hh.1.1, hh.1.2, hh.2.1, hh.2.2.1, hh.2.2.2⟩
  rcases (show k = 0 ∨ k = 1 ∨ k = 2 ∨ k = 3 ∨ k = 4 ∨ k = 5 ∨ k = 6 ∨ k = 7 ∨ k = 8 ∨ k = 9 ∨ k = 10 by omega) with rfl | rfl | rfl | rfl | rfl | rfl | rfl | rfl | rfl | rfl | rfl
  · exact ag_S0_1e b n h  hc hi
  · exact ag_S1_1p b n h (by omega) (by omega) hc hi
  · exact ag_S2_1p b n h (by omega) (by omega) hc hi
  · exact ag_S3_1p b n h (by omega) (by omega) hc hi
  · exact ag_S4_1p b n h (by omega) (by omega) hc hi
  · by_cases c0 : 0 ≤ n ∧ n ≤ 127
    · exact ag_S5_1p b n h (by omega) (by omega) hc hi
    exact ag_S5_1a b n h (by omega) hc hi
  · exact ag_S6_1p b n h (by omega) (by omega) hc hi
  · exact ag_S7_1p b n h (by omega) (by omega) hc hi
  · exact ag_S8_1p b n h (by omega) (by omega) hc hi
  · exact ag_S9_1e b n h  hc hi
  · exact ag_S10_1e b n h  hc hi
theorem int_S2 {aR aS : Addr} {b n k : Int} (hB : Bnd 2 b n) (hc : Chk aR aS 2 b 0) (hi : IntV aR aS 2 b n) (k0 : 0 ≤ k) (k1 : k < 11) : AgS aR aS k 2 b := by
  have hh : (0 ≤ b ∧ b < 18446744073709551616) ∧ b = n % 65536 ∧ 0 ≤ n ∧ n ≤ 65535 := by
    unfold Bnd at hB
    omega
  have h : HN 2 b n := ⟨hh.1.1, hh.1.2, hh.2.1, hh.2.2.1, hh.2.2.2⟩
  rcases (show k = 0 ∨ k = 1 ∨ k = 2 ∨ k = 3 ∨ k = 4 ∨ k = 5 ∨ k = 6 ∨ k = 7 ∨ k = 8 ∨ k = 9 ∨ k = 10 by omega) with rfl | rfl | rfl | rfl | rfl | rfl | rfl | rfl | rfl | rfl | rfl
  · exact ag_S0_2e b n h  hc hi
  · by_cases c0 : 0 ≤ n ∧ n ≤ 255
    · exact ag_S1_2p b n h (by omega) (by omega) hc hi
    exact ag_S1_2a b n h (by omega) hc hi
  · exact ag_S2_2p b n h (by omega) (by omega) hc hi
  · exact ag_S3_2p b n h (by omega) (by omega) hc hi
  · exact ag_S4_2p b n h (by omega) (by omega) hc hi
  · by_cases c0 : 0 ≤ n ∧ n ≤ 127
    · exact ag_S5_2p b n h (by omega) (by omega) hc hi
    exact ag_S5_2a b n h (by omega) hc hi
  · by_cases c0 : 0 ≤ n ∧ n ≤ 32767
    · exact ag_S6_2p b n h (by omega) (by omega) hc hi
    exact ag_S6_2a b n h (by omega) hc hi
  · exact ag_S7_2p b n h (by omega) (by omega) hc hi
  · exact ag_S8_2p b n h (by omega) (by omega) hc hi
  · exact ag_S9_2e b n h  hc hi
  · exact ag_S10_2e b n h  hc hi
theorem int_S3 {aR aS : Addr} {b n k : Int} (hB : Bnd 3 b n) (hc : Chk aR aS 3 b 0) (hi : IntV aR aS 3 b n) (k0 : 0 ≤ k) (k1 : k < 11) : AgS aR aS k 3 b := by
  have hh : (0 ≤ b ∧ b < 18446744073709551616) ∧ b = n % 4294967296 ∧ 0 ≤ n ∧ n ≤ 4294967295 := by
    unfold Bnd at hB
    omega
  have h : HN 3 b n := ⟨hh.1.1, hh.1.2, hh.2.1, hh.2.2.1, hh.2.2.2⟩
  rcases (show k = 0 ∨ k = 1 ∨ k = 2 ∨ k = 3 ∨ k = 4 ∨ k = 5 ∨ k = 6 ∨ k = 7 ∨ k = 8 ∨ k = 9 ∨ k = 10 by omega) with rfl | rfl | rfl | rfl | rfl | rfl | rfl | rfl | rfl | rfl | rfl
  · exact ag_S0_3e b n h  hc hi
  · by_cases c0 : 0 ≤ n ∧ n ≤ 255
    · exact ag_S1_3p b n h (by omega) (by omega) hc hi
    exact ag_S1_3a b n h (by omega) hc hi
  · by_cases c0 : 0 ≤ n ∧ n ≤ 65535
    · exact ag_S2_3p b n h (by omega) (by omega) hc hi
    exact ag_S2_3a b n h (by omega) hc hi
  · exact ag_S3_3p b n h (by omega) (by omega) hc hi
  · exact ag_S4_3p b n h (by omega) (by omega) hc hi
  · by_cases c0 : 0 ≤ n ∧ n ≤ 127
    · exact ag_S5_3p b n h (by omega) (by omega) hc hi
    exact ag_S5_3a b n h (by omega) hc hi
  · by_cases c0 : 0 ≤ n ∧ n ≤ 32767
    · exact ag_S6_3p b n h (by omega) (by omega) hc hi
    exact ag_S6_3a b n h (by omega) hc hi
  · by_cases c0 : 0 ≤ n ∧ n ≤ 2147483647
    · exact ag_S7_3p b n h (by omega) (by omega) hc hi
    exact ag_S7_3a b n h (by omega) hc hi
  · exact ag_S8_3p b n h (by omega) (by omega) hc hi
  · exact ag_S9_3e b n h  hc hi
  · exact ag_S10_3e b n h  hc hi
theorem int_S4 {aR aS : Addr} {b n k : Int} (hB : Bnd 4 b n) (hc : Chk aR aS 4 b 0) (hi : IntV aR aS 4 b n) (k0 : 0 ≤ k) (k1 : k < 11) : AgS aR aS k 4 b := by
  have hh : (0 ≤ b ∧ b < 18446744073709551616) ∧ b = n % 18446744073709551616 ∧ 0 ≤ n ∧ n ≤ 18446744073709551615 := by
    unfold Bnd at hB
    omega
  have h : HN 4 b n := ⟨hh.1.1, hh.1.2, hh.2.1, hh.2.2.1, hh.2.2.2⟩
  rcases (show k = 0 ∨ k = 1 ∨ k = 2 ∨ k = 3 ∨ k = 4 ∨ k = 5 ∨ k = 6 ∨ k = 7 ∨ k = 8 ∨ k = 9 ∨ k = 10 by omega) with rfl | rfl | rfl | rfl | rfl | rfl | rfl | rfl | rfl | rfl | rfl
  · exact ag_S0_4e b n h  hc hi
  · by_cases c0 : 0 ≤ n ∧ n ≤ 255
    · exact ag_S1_4p b n h (by omega) (by omega) hc hi
    exact ag_S1_4a b n h (by omega) hc hi
  · by_cases c0 : 0 ≤ n ∧ n ≤ 65535
    · exact ag_S2_4p b n h (by omega) (by omega) hc hi
    exact ag_S2_4a b n h (by omega) hc hi
  · by_cases c0 : 0 ≤ n ∧ n ≤ 4294967295
    · exact ag_S3_4p b n h (by omega) (by omega) hc hi
    exact ag_S3_4a b n h (by omega) hc hi
  · exact ag_S4_4p b n h (by omega) (by omega) hc hi
  · by_cases c0 : 0 ≤ n ∧ n ≤ 127
    · exact ag_S5_4p b n h (by omega) (by omega) hc hi
    exact ag_S5_4a b n h (by omega) hc hi
  · by_cases c0 : 0 ≤ n ∧ n ≤ 32767
    · exact ag_S6_4p b n h (by omega) (by omega) hc hi
    exact ag_S6_4a b n h (by omega) hc hi
  · by_cases c0 : 0 ≤ n ∧ n ≤ 2147483647
    · exact ag_S7_4p b n h (by omega) (by omega) hc hi
    exact ag_S7_4a b n h (by omega) hc hi
  · by_cases c0 : 0 ≤ n ∧ n ≤ 9223372036854775807
    · exact ag_S8_4p b n h (by omega) (by omega) hc hi
    exact ag_S8_4a b n h (by omega) hc hi
  · exact ag_S9_4e b n h  hc hi
  · exact ag_S10_4e b n h  hc hi
theorem int_S5 {aR aS : Addr} {b n k : Int} (hB : Bnd 5 b n) (hc : Chk aR aS 5 b 0) (hi : IntV aR aS 5 b n) (k0 : 0 ≤ k) (k1 : k < 11) : AgS aR aS k 5 b := by
  have hh : (0 ≤ b ∧ b < 18446744073709551616) ∧ b = n % 256 ∧ (-128) ≤ n ∧ n ≤ 127 := by
    unfold Bnd at hB
    omega
  have h : HN 5 b n := ⟨hh.1.1, hh.1.2, hh.2.1, hh.2.2.1, hh.2.2.2⟩
  rcases (show k = 0 ∨ k = 1 ∨ k = 2 ∨ k = 3 ∨ k = 4 ∨ k = 5 ∨ k = 6 ∨ k = 7 ∨ k = 8 ∨ k = 9 ∨ k = 10 by omega) with rfl | rfl | rfl | rfl | rfl | rfl | rfl | rfl | rfl | rfl | rfl
  · exact ag_S0_5e b n h  hc hi
  · by_cases c0 : n < 0
    · exact ag_S1_5b b n h (by omega) hc hi
    exact ag_S1_5p b n h (by omega) (by omega) hc hi
  · by_cases c0 : n < 0
    · exact ag_S2_5b b n h (by omega) hc hi
    exact ag_S2_5p b n h (by omega) (by omega) hc hi
  · by_cases c0 : n < 0
    · exact ag_S3_5b b n h (by omega) hc hi
    exact ag_S3_5p b n h (by omega) (by omega) hc hi
  · by_cases c0 : n < 0
    · exact ag_S4_5b b n h (by omega) hc hi
    exact ag_S4_5p b n h (by omega) (by omega) hc hi
  · by_cases c0 : -128 ≤ n ∧ n < 0
    · exact ag_S5_5m b n h (by omega) (by omega) hc hi
    exact ag_S5_5p b n h (by omega) (by omega) hc hi
  · by_cases c0 : -32768 ≤ n ∧ n < 0
    · exact ag_S6_5m b n h (by omega) (by omega) hc hi
    exact ag_S6_5p b n h (by omega) (by omega) hc hi
  · by_cases c0 : -2147483648 ≤ n ∧ n < 0
    · exact ag_S7_5m b n h (by omega) (by omega) hc hi
    exact ag_S7_5p b n h (by omega) (by omega) hc hi
  · by_cases c0 : -9223372036854775808 ≤ n ∧ n < 0
    · exact ag_S8_5m b n h (by omega) (by omega) hc hi
    exact ag_S8_5p b n h (by omega) (by omega) hc hi
  · exact ag_S9_5e b n h  hc hi
  · exact ag_S10_5e b n h  hc hi
theorem int_S6 {aR aS : Addr} {b n k : Int} (hB : Bnd 6 b n) (hc : Chk aR aS 6 b 0) (hi : IntV aR aS 6 b n) (k0 : 0 ≤ k) (k1 : k < 11) : AgS aR aS k 6 b := by
  have hh : (0 ≤ b ∧ b < 18446744073709551616) ∧ b = n % 65536 ∧ (-32768) ≤ n ∧ n ≤ 32767 := by
    unfold Bnd at hB
    omega
  have h : HN 6 b n := ⟨hh.1.1, hh.1.2, hh.2.1, hh.2.2.1, hh.2.2.2⟩
  rcases (show k = 0 ∨ k = 1 ∨ k = 2 ∨ k = 3 ∨ k = 4 ∨ k = 5 ∨ k = 6 ∨ k = 7 ∨ k = 8 ∨ k = 9 ∨ k = 10 by omega) with rfl | rfl | rfl | rfl | rfl | rfl | rfl | rfl | rfl | rfl | rfl
  · exact ag_S0_6e b n h  hc hi
  · by_cases c0 : n < 0
    · exact ag_S1_6b b n h (by omega) hc hi
    by_cases c1 : 0 ≤ n ∧ n ≤ 255
    · exact ag_S1_6p b n h (by omega) (by omega) hc hi
    exact ag_S1_6a b n h (by omega) hc hi
  · by_cases c0 : n < 0
    · exact ag_S2_6b b n h (by omega) hc hi
    exact ag_S2_6p b n h (by omega) (by omega) hc hi
  · by_cases c0 : n < 0
    · exact ag_S3_6b b n h (by omega) hc hi
    exact ag_S3_6p b n h (by omega) (by omega) hc hi
  · by_cases c0 : n < 0
    · exact ag_S4_6b b n h (by omega) hc hi
    exact ag_S4_6p b n h (by omega) (by omega) hc hi
  · by_cases c0 : n < -128
    · exact ag_S5_6b b n h (by omega) hc hi
    by_cases c1 : -128 ≤ n ∧ n < 0
    · exact ag_S5_6m b n h (by omega) (by omega) hc hi
    by_cases c2 : 0 ≤ n ∧ n ≤ 127
    · exact ag_S5_6p b n h (by omega) (by omega) hc hi
    exact ag_S5_6a b n h (by omega) hc hi
  · by_cases c0 : -32768 ≤ n ∧ n < 0
    · exact ag_S6_6m b n h (by omega) (by omega) hc hi
    exact ag_S6_6p b n h (by omega) (by omega) hc hi
  · by_cases c0 : -2147483648 ≤ n ∧ n < 0
    · exact ag_S7_6m b n h (by omega) (by omega) hc hi
    exact ag_S7_6p b n h (by omega) (by omega) hc hi
  · by_cases c0 : -9223372036854775808 ≤ n ∧ n < 0
    · exact ag_S8_6m b n h (by omega) (by omega) hc hi
    exact ag_S8_6p b n h (by omega) (by omega) hc hi
  · exact ag_S9_6e b n h  hc hi
  · exact ag_S10_6e b n h  hc hi
theorem int_S7 {aR aS : Addr} {b n k : Int} (hB : Bnd 7 b n) (hc : Chk aR aS 7 b 0) (hi : IntV aR aS 7 b n) (k0 : 0 ≤ k) (k1 : k < 11) : AgS aR aS k 7 b := by
  have hh : (0 ≤ b ∧ b < 18446744073709551616) ∧ b = n % 4294967296 ∧ (-2147483648) ≤ n ∧ n ≤ 2147483647 := by
    unfold Bnd at hB
    omega
  have h : HN 7 b n := ⟨hh.1.1, hh.1.2, hh.2.1, hh.2.2.1, hh.2.2.2⟩
  rcases (show k = 0 ∨ k = 1 ∨ k = 2 ∨ k = 3 ∨ k = 4 ∨ k = 5 ∨ k = 6 ∨ k = 7 ∨ k = 8 ∨ k = 9 ∨ k = 10 by omega) with rfl | rfl | rfl | rfl | rfl | rfl | rfl | rfl | rfl | rfl | rfl
  · exact ag_S0_7e b n h  hc hi
  · by_cases c0 : n < 0
    · exact ag_S1_7b b n h (by omega) hc hi
    by_cases c1 : 0 ≤ n ∧ n ≤ 255
    · exact ag_S1_7p b n h (by omega) (by omega) hc hi
    exact ag_S1_7a b n h (by omega) hc hi
  · by_cases c0 : n < 0
    · exact ag_S2_7b b n h (by omega) hc hi
    by_cases c1 : 0 ≤ n ∧ n ≤ 65535
    · exact ag_S2_7p b n h (by omega) (by omega) hc hi
    exact ag_S2_7a b n h (by omega) hc hi
  · by_cases c0 : n < 0
    · exact ag_S3_7b b n h (by omega) hc hi
    exact ag_S3_7p b n h (by omega) (by omega) hc hi
  · by_cases c0 : n < 0
    · exact ag_S4_7b b n h (by omega) hc hi
    exact ag_S4_7p b n h (by omega) (by omega) hc hi
  · by_cases c0 : n < -128
    · exact ag_S5_7b b n h (by omega) hc hi
    by_cases c1 : -128 ≤ n ∧ n < 0
    · exact ag_S5_7m b n h (by omega) (by omega) hc hi
    by_cases c2 : 0 ≤ n ∧ n ≤ 127
    · exact ag_S5_7p b n h (by omega) (by omega) hc hi
    exact ag_S5_7a b n h (by omega) hc hi
  · by_cases c0 : n < -32768
    · exact ag_S6_7b b n h (by omega) hc hi
    by_cases c1 : -32768 ≤ n ∧ n < 0
    · exact ag_S6_7m b n h (by omega) (by omega) hc hi
    by_cases c2 : 0 ≤ n ∧ n ≤ 32767
    · exact ag_S6_7p b n h (by omega) (by omega) hc hi
    exact ag_S6_7a b n h (by omega) hc hi
  · by_cases c0 : -2147483648 ≤ n ∧ n < 0
    · exact ag_S7_7m b n h (by omega) (by omega) hc hi
    exact ag_S7_7p b n h (by omega) (by omega) hc hi
  · by_cases c0 : -9223372036854775808 ≤ n ∧ n < 0
    · exact ag_S8_7m b n h (by omega) (by omega) hc hi
    exact ag_S8_7p b n h (by omega) (by omega) hc hi
  · exact ag_S9_7e b n h  hc hi
  · exact ag_S10_7e b n h  hc hi
theorem int_S8 {aR aS : Addr} {b n k : Int} (hB : Bnd 8 b n) (hc : Chk aR aS 8 b 0) (hi : IntV aR aS 8 b n) (k0 : 0 ≤ k) (k1 : k < 11) : AgS aR aS k 8 b := by
  have hh : (0 ≤ b ∧ b < 18446744073709551616) ∧ b = n % 18446744073709551616 ∧ (-9223372036854775808) ≤ n ∧ n ≤ 9223372036854775807 := by
    unfold Bnd at hB
    omega
  have h : HN 8 b n := ⟨hh.1.1, hh.1.2, hh.2.1, hh.2.2.1, hh.2.2.2⟩
  rcases (show k = 0 ∨ k = 1 ∨ k = 2 ∨ k = 3 ∨ k = 4 ∨ k = 5 ∨ k = 6 ∨ k = 7 ∨ k = 8 ∨ k = 9 ∨ k = 10 by omega) with rfl | rfl | rfl | rfl | rfl | rfl | rfl | rfl | rfl | rfl | rfl
  · exact ag_S0_8e b n h  hc hi
  · by_cases c0 : n < 0
    · exact ag_S1_8b b n h (by omega) hc hi
    by_cases c1 : 0 ≤ n ∧ n ≤ 255
    · exact ag_S1_8p b n h (by omega) (by omega) hc hi
    exact ag_S1_8a b n h (by omega) hc hi
  · by_cases c0 : n < 0
    · exact ag_S2_8b b n h (by omega) hc hi
    by_cases c1 : 0 ≤ n ∧ n ≤ 65535
    · exact ag_S2_8p b n h (by omega) (by omega) hc hi
    exact ag_S2_8a b n h (by omega) hc hi
  · by_cases c0 : n < 0
    · exact ag_S3_8b b n h (by omega) hc hi
    by_cases c1 : 0 ≤ n ∧ n ≤ 4294967295
    · exact ag_S3_8p b n h (by omega) (by omega) hc hi
    exact ag_S3_8a b n h (by omega) hc hi
  · by_cases c0 : n < 0
    · exact ag_S4_8b b n h (by omega) hc hi
    exact ag_S4_8p b n h (by omega) (by omega) hc hi
  · by_cases c0 : n < -128
    · exact ag_S5_8b b n h (by omega) hc hi
    by_cases c1 : -128 ≤ n ∧ n < 0
    · exact ag_S5_8m b n h (by omega) (by omega) hc hi
    by_cases c2 : 0 ≤ n ∧ n ≤ 127
    · exact ag_S5_8p b n h (by omega) (by omega) hc hi
    exact ag_S5_8a b n h (by omega) hc hi
  · by_cases c0 : n < -32768
    · exact ag_S6_8b b n h (by omega) hc hi
    by_cases c1 : -32768 ≤ n ∧ n < 0
    · exact ag_S6_8m b n h (by omega) (by omega) hc hi
    by_cases c2 : 0 ≤ n ∧ n ≤ 32767
    · exact ag_S6_8p b n h (by omega) (by omega) hc hi
    exact ag_S6_8a b n h (by omega) hc hi
  · by_cases c0 : n < -2147483648
    · exact ag_S7_8b b n h (by omega) hc hi
    by_cases c1 : -2147483648 ≤ n ∧ n < 0
    · exact ag_S7_8m b n h (by omega) (by omega) hc hi
    by_cases c2 : 0 ≤ n ∧ n ≤ 2147483647
    · exact ag_S7_8p b n h (by omega) (by omega) hc hi
    exact ag_S7_8a b n h (by omega) hc hi
  · by_cases c0 : -9223372036854775808 ≤ n ∧ n < 0
    · exact ag_S8_8m b n h (by omega) (by omega) hc hi
    exact ag_S8_8p b n h (by omega) (by omega) hc hi
  · exact ag_S9_8e b n h  hc hi
  · exact ag_S10_8e b n h  hc hi
theorem flt_C {aR aS : Addr} {F : Nat} {k : Int} (hF : F < 4294967296) (hr : F % 2147483648 < 2139095040) (hz : F ≠ 2147483648) (hc : Chk aR aS 9 F 0) (k0 : 0 ≤ k) (k1 : k < 11) : AgC aR aS k 9 F := by
  have hs := tB_sign F hF
  rcases (show k = 0 ∨ k = 1 ∨ k = 2 ∨ k = 3 ∨ k = 4 ∨ k = 5 ∨ k = 6 ∨ k = 7 ∨ k = 8 ∨ k = 9 ∨ k = 10 by omega) with rfl | rfl | rfl | rfl | rfl | rfl | rfl | rfl | rfl | rfl | rfl
  · by_cases c0 : F = 0
    · exact ag_C0_9z F ⟨hF, hr, hz⟩ (by omega) hc
    exact ag_C0_9n F ⟨hF, hr, hz⟩ (by omega) hc
  · have g := key_ge (b := F) (rc := 1132396544) (c := 255) hF (by decide) (by omega)
    have g2 := key_ge (b := F) (rc := 1132462080) (c := 256) hF (by decide) (by omega)
    by_cases c0 : tB F < 0 ∧ keyB F ≤ 0
    · exact ag_C1_9bb F ⟨hF, hr, hz⟩ (by omega) (by omega) hc
    by_cases c1 : tB F = 0 ∧ keyB F ≤ 0
    · exact ag_C1_9ib F ⟨hF, hr, hz⟩ (by omega) (by omega) hc
    by_cases c2 : 0 ≤ tB F ∧ tB F < 256 ∧ 0 < keyB F ∧ keyB F < 1132396544
    · exact ag_C1_9ii F ⟨hF, hr, hz⟩ (by omega) (by omega) (by omega) (by omega) hc
    by_cases c3 : tB F = 255 ∧ 0 < keyB F ∧ 1132396544 ≤ keyB F
    · exact ag_C1_9ia F ⟨hF, hr, hz⟩ (by omega) (by omega) (by omega) hc
    exact ag_C1_9aa F ⟨hF, hr, hz⟩ (by omega) (by omega) hc
  · have g := key_ge (b := F) (rc := 1199570688) (c := 65535) hF (by decide) (by omega)
    have g2 := key_ge (b := F) (rc := 1199570944) (c := 65536) hF (by decide) (by omega)
    by_cases c0 : tB F < 0 ∧ keyB F ≤ 0
    · exact ag_C2_9bb F ⟨hF, hr, hz⟩ (by omega) (by omega) hc
    by_cases c1 : tB F = 0 ∧ keyB F ≤ 0
    · exact ag_C2_9ib F ⟨hF, hr, hz⟩ (by omega) (by omega) hc
    by_cases c2 : 0 ≤ tB F ∧ tB F < 65536 ∧ 0 < keyB F ∧ keyB F < 1199570688
    · exact ag_C2_9ii F ⟨hF, hr, hz⟩ (by omega) (by omega) (by omega) (by omega) hc
    by_cases c3 : tB F = 65535 ∧ 0 < keyB F ∧ 1199570688 ≤ keyB F
    · exact ag_C2_9ia F ⟨hF, hr, hz⟩ (by omega) (by omega) (by omega) hc
    exact ag_C2_9aa F ⟨hF, hr, hz⟩ (by omega) (by omega) hc
  · have g := key_ge (b := F) (rc := 1333788672) (c := 4294967296) hF (by decide) (by omega)
    by_cases c0 : tB F < 0 ∧ keyB F ≤ 0
    · exact ag_C3_9bb F ⟨hF, hr, hz⟩ (by omega) (by omega) hc
    by_cases c1 : tB F = 0 ∧ keyB F ≤ 0
    · exact ag_C3_9ib F ⟨hF, hr, hz⟩ (by omega) (by omega) hc
    by_cases c2 : 0 ≤ tB F ∧ tB F < 4294967296 ∧ 0 < keyB F ∧ keyB F < 1333788672
    · exact ag_C3_9ii F ⟨hF, hr, hz⟩ (by omega) (by omega) (by omega) (by omega) hc
    exact ag_C3_9aa F ⟨hF, hr, hz⟩ (by omega) (by omega) hc
  · have g := key_ge (b := F) (rc := 1602224128) (c := 18446744073709551616) hF (by decide) (by omega)
    by_cases c0 : tB F < 0 ∧ keyB F ≤ 0
    · exact ag_C4_9bb F ⟨hF, hr, hz⟩ (by omega) (by omega) hc
    by_cases c1 : tB F = 0 ∧ keyB F ≤ 0
    · exact ag_C4_9ib F ⟨hF, hr, hz⟩ (by omega) (by omega) hc
    by_cases c2 : 0 ≤ tB F ∧ tB F < 18446744073709551616 ∧ 0 < keyB F ∧ keyB F < 1602224128
    · exact ag_C4_9ii F ⟨hF, hr, hz⟩ (by omega) (by omega) (by omega) (by omega) hc
    exact ag_C4_9aa F ⟨hF, hr, hz⟩ (by omega) (by omega) hc
  · have g := key_ge (b := F) (rc := 1123942400) (c := 127) hF (by decide) (by omega)
    have g2 := key_ge (b := F) (rc := 1124073472) (c := 128) hF (by decide) (by omega)
    have g1 := key_le (b := F) (rc := 1124073472) (c := 128) hF (by decide) (by omega)
    by_cases c0 : tB F < -128 ∧ keyB F ≤ -1124073472
    · exact ag_C5_9bb F ⟨hF, hr, hz⟩ (by omega) (by omega) hc
    by_cases c1 : tB F = (-128) ∧ keyB F ≤ -1124073472
    · exact ag_C5_9ib F ⟨hF, hr, hz⟩ (by omega) (by omega) hc
    by_cases c2 : -128 ≤ tB F ∧ tB F < 128 ∧ -1124073472 < keyB F ∧ keyB F < 1123942400
    · exact ag_C5_9ii F ⟨hF, hr, hz⟩ (by omega) (by omega) (by omega) (by omega) hc
    by_cases c3 : tB F = 127 ∧ -1124073472 < keyB F ∧ 1123942400 ≤ keyB F
    · exact ag_C5_9ia F ⟨hF, hr, hz⟩ (by omega) (by omega) (by omega) hc
    exact ag_C5_9aa F ⟨hF, hr, hz⟩ (by omega) (by omega) hc
  · have g := key_ge (b := F) (rc := 1191181824) (c := 32767) hF (by decide) (by omega)
    have g2 := key_ge (b := F) (rc := 1191182336) (c := 32768) hF (by decide) (by omega)
    have g1 := key_le (b := F) (rc := 1191182336) (c := 32768) hF (by decide) (by omega)
    by_cases c0 : tB F < -32768 ∧ keyB F ≤ -1191182336
    · exact ag_C6_9bb F ⟨hF, hr, hz⟩ (by omega) (by omega) hc
    by_cases c1 : tB F = (-32768) ∧ keyB F ≤ -1191182336
    · exact ag_C6_9ib F ⟨hF, hr, hz⟩ (by omega) (by omega) hc
    by_cases c2 : -32768 ≤ tB F ∧ tB F < 32768 ∧ -1191182336 < keyB F ∧ keyB F < 1191181824
    · exact ag_C6_9ii F ⟨hF, hr, hz⟩ (by omega) (by omega) (by omega) (by omega) hc
    by_cases c3 : tB F = 32767 ∧ -1191182336 < keyB F ∧ 1191181824 ≤ keyB F
    · exact ag_C6_9ia F ⟨hF, hr, hz⟩ (by omega) (by omega) (by omega) hc
    exact ag_C6_9aa F ⟨hF, hr, hz⟩ (by omega) (by omega) hc
  · have g := key_ge (b := F) (rc := 1325400064) (c := 2147483648) hF (by decide) (by omega)
    have g1 := key_le (b := F) (rc := 1325400064) (c := 2147483648) hF (by decide) (by omega)
    by_cases c0 : tB F < -2147483648 ∧ keyB F ≤ -1325400064
    · exact ag_C7_9bb F ⟨hF, hr, hz⟩ (by omega) (by omega) hc
    by_cases c1 : tB F = (-2147483648) ∧ keyB F ≤ -1325400064
    · exact ag_C7_9ib F ⟨hF, hr, hz⟩ (by omega) (by omega) hc
    by_cases c2 : -2147483648 ≤ tB F ∧ tB F < 2147483648 ∧ -1325400064 < keyB F ∧ keyB F < 1325400064
    · exact ag_C7_9ii F ⟨hF, hr, hz⟩ (by omega) (by omega) (by omega) (by omega) hc
    exact ag_C7_9aa F ⟨hF, hr, hz⟩ (by omega) (by omega) hc
  · have g := key_ge (b := F) (rc := 1593835520) (c := 9223372036854775808) hF (by decide) (by omega)
    have g1 := key_le (b := F) (rc := 1593835520) (c := 9223372036854775808) hF (by decide) (by omega)
    by_cases c0 : tB F < -9223372036854775808 ∧ keyB F ≤ -1593835520
    · exact ag_C8_9bb F ⟨hF, hr, hz⟩ (by omega) (by omega) hc
    by_cases c1 : tB F = (-9223372036854775808) ∧ keyB F ≤ -1593835520
    · exact ag_C8_9ib F ⟨hF, hr, hz⟩ (by omega) (by omega) hc
    by_cases c2 : -9223372036854775808 ≤ tB F ∧ tB F < 9223372036854775808 ∧ -1593835520 < keyB F ∧ keyB F < 1593835520
    · exact ag_C8_9ii F ⟨hF, hr, hz⟩ (by omega) (by omega) (by omega) (by omega) hc
    exact ag_C8_9aa F ⟨hF, hr, hz⟩ (by omega) (by omega) hc
  · exact ag_C9_9 F ⟨hF, hr, hz⟩  hc
  · exact ag_C10_9 F ⟨hF, hr, hz⟩  hc
theorem cpx_C {aR aS : Addr} {b k : Int} (hc : Chk aR aS 10 b 0) (k0 : 0 ≤ k) (k1 : k < 11) : AgC aR aS k 10 b := by
  rcases (show k = 0 ∨ k = 1 ∨ k = 2 ∨ k = 3 ∨ k = 4 ∨ k = 5 ∨ k = 6 ∨ k = 7 ∨ k = 8 ∨ k = 9 ∨ k = 10 by omega) with rfl | rfl | rfl | rfl | rfl | rfl | rfl | rfl | rfl | rfl | rfl
  · exact ag_C0_10 b hc
  · exact ag_C1_10 b hc
  · exact ag_C2_10 b hc
  · exact ag_C3_10 b hc
  · exact ag_C4_10 b hc
  · exact ag_C5_10 b hc
  · exact ag_C6_10 b hc
  · exact ag_C7_10 b hc
  · exact ag_C8_10 b hc
  · exact ag_C9_10 b hc
  · exact ag_C10_10 b hc
theorem flt_S {aR aS : Addr} {F : Nat} {k : Int} (hF : F < 4294967296) (hr : F % 2147483648 < 2139095040) (hz : F ≠ 2147483648) (hc : Chk aR aS 9 F 0) (k0 : 0 ≤ k) (k1 : k < 11) : AgS aR aS k 9 F := by
  have hs := tB_sign F hF
  rcases (show k = 0 ∨ k = 1 ∨ k = 2 ∨ k = 3 ∨ k = 4 ∨ k = 5 ∨ k = 6 ∨ k = 7 ∨ k = 8 ∨ k = 9 ∨ k = 10 by omega) with rfl | rfl | rfl | rfl | rfl | rfl | rfl | rfl | rfl | rfl | rfl
  · exact ag_S0_9e F ⟨hF, hr, hz⟩  hc
  · have g := key_ge (b := F) (rc := 1132396544) (c := 255) hF (by decide) (by omega)
    have g2 := key_ge (b := F) (rc := 1132462080) (c := 256) hF (by decide) (by omega)
    by_cases c0 : tB F < 0 ∧ keyB F ≤ 0
    · exact ag_S1_9bb F ⟨hF, hr, hz⟩ (by omega) (by omega) hc
    by_cases c1 : tB F = 0 ∧ keyB F ≤ 0
    · exact ag_S1_9ib F ⟨hF, hr, hz⟩ (by omega) (by omega) hc
    by_cases c2 : 0 ≤ tB F ∧ tB F < 256 ∧ 0 < keyB F ∧ keyB F < 1132396544
    · exact ag_S1_9ii F ⟨hF, hr, hz⟩ (by omega) (by omega) (by omega) (by omega) hc
    by_cases c3 : tB F = 255 ∧ 0 < keyB F ∧ 1132396544 ≤ keyB F
    · exact ag_S1_9ia F ⟨hF, hr, hz⟩ (by omega) (by omega) (by omega) hc
    exact ag_S1_9aa F ⟨hF, hr, hz⟩ (by omega) (by omega) hc
  · have g := key_ge (b := F) (rc := 1199570688) (c := 65535) hF (by decide) (by omega)
    have g2 := key_ge (b := F) (rc := 1199570944) (c := 65536) hF (by decide) (by omega)
    by_cases c0 : tB F < 0 ∧ keyB F ≤ 0
    · exact ag_S2_9bb F ⟨hF, hr, hz⟩ (by omega) (by omega) hc
    by_cases c1 : tB F = 0 ∧ keyB F ≤ 0
    · exact ag_S2_9ib F ⟨hF, hr, hz⟩ (by omega) (by omega) hc
    by_cases c2 : 0 ≤ tB F ∧ tB F < 65536 ∧ 0 < keyB F ∧ keyB F < 1199570688
    · exact ag_S2_9ii F ⟨hF, hr, hz⟩ (by omega) (by omega) (by omega) (by omega) hc
    by_cases c3 : tB F = 65535 ∧ 0 < keyB F ∧ 1199570688 ≤ keyB F
    · exact ag_S2_9ia F ⟨hF, hr, hz⟩ (by omega) (by omega) (by omega) hc
    exact ag_S2_9aa F ⟨hF, hr, hz⟩ (by omega) (by omega) hc
  · have g := key_ge (b := F) (rc := 1333788672) (c := 4294967296) hF (by decide) (by omega)
    by_cases c0 : tB F < 0 ∧ keyB F ≤ 0
    · exact ag_S3_9bb F ⟨hF, hr, hz⟩ (by omega) (by omega) hc
    by_cases c1 : tB F = 0 ∧ keyB F ≤ 0
    · exact ag_S3_9ib F ⟨hF, hr, hz⟩ (by omega) (by omega) hc
    by_cases c2 : 0 ≤ tB F ∧ tB F < 4294967296 ∧ 0 < keyB F ∧ keyB F < 1333788672
    · exact ag_S3_9ii F ⟨hF, hr, hz⟩ (by omega) (by omega) (by omega) (by omega) hc
    exact ag_S3_9aa F ⟨hF, hr, hz⟩ (by omega) (by omega) hc
  · have g := key_ge (b := F) (rc := 1602224128) (c := 18446744073709551616) hF (by decide) (by omega)
    by_cases c0 : tB F < 0 ∧ keyB F ≤ 0
    · exact ag_S4_9bb F ⟨hF, hr, hz⟩ (by omega) (by omega) hc
    by_cases c1 : tB F = 0 ∧ keyB F ≤ 0
    · exact ag_S4_9ib F ⟨hF, hr, hz⟩ (by omega) (by omega) hc
    by_cases c2 : 0 ≤ tB F ∧ tB F < 18446744073709551616 ∧ 0 < keyB F ∧ keyB F < 1602224128
    · exact ag_S4_9ii F ⟨hF, hr, hz⟩ (by omega) (by omega) (by omega) (by omega) hc
    exact ag_S4_9aa F ⟨hF, hr, hz⟩ (by omega) (by omega) hc
  · have g := key_ge (b := F) (rc := 1123942400) (c := 127) hF (by decide) (by omega)
    have g2 := key_ge (b := F) (rc := 1124073472) (c := 128) hF (by decide) (by omega)
    have g1 := key_le (b := F) (rc := 1124073472) (c := 128) hF (by decide) (by omega)
    by_cases c0 : tB F < -128 ∧ keyB F ≤ -1124073472
    · exact ag_S5_9bb F ⟨hF, hr, hz⟩ (by omega) (by omega) hc
    by_cases c1 : tB F = (-128) ∧ keyB F ≤ -1124073472
    · exact ag_S5_9ib F ⟨hF, hr, hz⟩ (by omega) (by omega) hc
    by_cases c2 : -128 ≤ tB F ∧ tB F < 128 ∧ -1124073472 < keyB F ∧ keyB F < 1123942400
    · exact ag_S5_9ii F ⟨hF, hr, hz⟩ (by omega) (by omega) (by omega) (by omega) hc
    by_cases c3 : tB F = 127 ∧ -1124073472 < keyB F ∧ 1123942400 ≤ keyB F
    · exact ag_S5_9ia F ⟨hF, hr, hz⟩ (by omega) (by omega) (by omega) hc
    exact ag_S5_9aa F ⟨hF, hr, hz⟩ (by omega) (by omega) hc
  · have g := key_ge (b := F) (rc := 1191181824) (c := 32767) hF (by decide) (by omega)
    have g2 := key_ge (b := F) (rc := 1191182336) (c := 32768) hF (by decide) (by omega)
    have g1 := key_le (b := F) (rc := 1191182336) (c := 32768) hF (by decide) (by omega)
    by_cases c0 : tB F < -32768 ∧ keyB F ≤ -1191182336
    · exact ag_S6_9bb F ⟨hF, hr, hz⟩ (by omega) (by omega) hc
    by_cases c1 : tB F = (-32768) ∧ keyB F ≤ -1191182336
    · exact ag_S6_9ib F ⟨hF, hr, hz⟩ (by omega) (by omega) hc
    by_cases c2 : -32768 ≤ tB F ∧ tB F < 32768 ∧ -1191182336 < keyB F ∧ keyB F < 1191181824
    · exact ag_S6_9ii F ⟨hF, hr, hz⟩ (by omega) (by omega) (by omega) (by omega) hc
    by_cases c3 : tB F = 32767 ∧ -1191182336 < keyB F ∧ 1191181824 ≤ keyB F
    · exact ag_S6_9ia F ⟨hF, hr, hz⟩ (by omega) (by omega) (by omega) hc
    exact ag_S6_9aa F ⟨hF, hr, hz⟩ (by omega) (by omega) hc
  · have g := key_ge (b := F) (rc := 1325400064) (c := 2147483648) hF (by decide) (by omega)
    have g1 := key_le (b := F) (rc := 1325400064) (c := 2147483648) hF (by decide) (by omega)
    by_cases c0 : tB F < -2147483648 ∧ keyB F ≤ -1325400064
    · exact ag_S7_9bb F ⟨hF, hr, hz⟩ (by omega) (by omega) hc
    by_cases c1 : tB F = (-2147483648) ∧ keyB F ≤ -1325400064
    · exact ag_S7_9ib F ⟨hF, hr, hz⟩ (by omega) (by omega) hc
    by_cases c2 : -2147483648 ≤ tB F ∧ tB F < 2147483648 ∧ -1325400064 < keyB F ∧ keyB F < 1325400064
    · exact ag_S7_9ii F ⟨hF, hr, hz⟩ (by omega) (by omega) (by omega) (by omega) hc
    exact ag_S7_9aa F ⟨hF, hr, hz⟩ (by omega) (by omega) hc
  · have g := key_ge (b := F) (rc := 1593835520) (c := 9223372036854775808) hF (by decide) (by omega)
    have g1 := key_le (b := F) (rc := 1593835520) (c := 9223372036854775808) hF (by decide) (by omega)
    by_cases c0 : tB F < -9223372036854775808 ∧ keyB F ≤ -1593835520
    · exact ag_S8_9bb F ⟨hF, hr, hz⟩ (by omega) (by omega) hc
    by_cases c1 : tB F = (-9223372036854775808) ∧ keyB F ≤ -1593835520
    · exact ag_S8_9ib F ⟨hF, hr, hz⟩ (by omega) (by omega) hc
    by_cases c2 : -9223372036854775808 ≤ tB F ∧ tB F < 9223372036854775808 ∧ -1593835520 < keyB F ∧ keyB F < 1593835520
    · exact ag_S8_9ii F ⟨hF, hr, hz⟩ (by omega) (by omega) (by omega) (by omega) hc
    exact ag_S8_9aa F ⟨hF, hr, hz⟩ (by omega) (by omega) hc
  · exact ag_S9_9e F ⟨hF, hr, hz⟩  hc
  · exact ag_S10_9e F ⟨hF, hr, hz⟩  hc
theorem cpx_S {aR aS : Addr} {b k : Int} (hc : Chk aR aS 10 b 0) (k0 : 0 ≤ k) (k1 : k < 11) : AgS aR aS k 10 b := by
  rcases (show k = 0 ∨ k = 1 ∨ k = 2 ∨ k = 3 ∨ k = 4 ∨ k = 5 ∨ k = 6 ∨ k = 7 ∨ k = 8 ∨ k = 9 ∨ k = 10 by omega) with rfl | rfl | rfl | rfl | rfl | rfl | rfl | rfl | rfl | rfl | rfl
  · exact ag_S0_10 b hc
  · exact ag_S1_10 b hc
  · exact ag_S2_10 b hc
  · exact ag_S3_10 b hc
  · exact ag_S4_10 b hc
  · exact ag_S5_10 b hc
  · exact ag_S6_10 b hc
  · exact ag_S7_10 b hc
  · exact ag_S8_10 b hc
  · exact ag_S9_10 b hc
  · exact ag_S10_10 b hc
def agS : SVal := .agg [.sym (.int .i64 (.var 7)), .sym (.int .u64 (.var 0))]
def xsO : List SVal := [.sym (.int .i64 (.var 1)), agS]
def UO : List SEntry := [(11, [agS], .sym (.int .i64 (.var 6))), (21, [agS], .sym (.int .i64 (.var 6)))]
theorem UO_ok {aR aS : Addr} {vk b B k : Int} {L : List CF} {T : List XE} (hc : Chk aR aS vk b B) : ∀ x ∈ UO, @SOk (E (wF 0) (cF 0) (rc b 0 0 B vk k 0) L T) Tryz.prog (glob aR aS) x := fun x hx => by
  simp only [UO, List.mem_cons, List.not_mem_nil, or_false] at hx
  rcases hx with rfl | rfl
  · exact sokE (vs := [agV vk b]) (v := .int .i64 B) rfl rfl rfl rfl fun w hG => (hc w hG).1
  · exact sokE (vs := [agV vk b]) (v := .int .i64 B) rfl rfl rfl rfl fun w hG => (hc w hG).2
def L_on : List CF := [⟨.lss, .var 1, .lit 0, true⟩]
def L_ob : List CF := [⟨.lss, .var 1, .lit 0, false⟩, ⟨.geq, .var 1, .lit 11, true⟩]
def L_oe : List CF := [⟨.lss, .var 1, .lit 0, false⟩, ⟨.geq, .var 1, .lit 11, false⟩, ⟨.neq, .var 6, .lit 0, true⟩]
theorem ok_on {b B vk k : Int} (h : k < 0) : ∀ f ∈ L_on, f.ok (rc b 0 0 B vk k 0) := fun f hf => by
  obtain rfl := List.mem_singleton.1 hf
  exact ⟨rfl, decide_eq_true h⟩
theorem ok_ob {b B vk k : Int} (h : 11 ≤ k) : ∀ f ∈ L_ob, f.ok (rc b 0 0 B vk k 0) := fun f hf => by
  simp only [L_ob, List.mem_cons, List.not_mem_nil, or_false] at hf
  rcases hf with rfl | rfl
  · exact ⟨rfl, decide_eq_false (show ¬ k < 0 by omega)⟩
  · exact ⟨rfl, decide_eq_true h⟩
theorem ok_oe {b B vk k : Int} (h : 0 ≤ k) (h' : k < 11) (hB : B ≠ 0) : ∀ f ∈ L_oe, f.ok (rc b 0 0 B vk k 0) := fun f hf => by
  simp only [L_oe, List.mem_cons, List.not_mem_nil, or_false] at hf
  rcases hf with rfl | rfl | rfl
  · exact ⟨rfl, decide_eq_false (show ¬ k < 0 by omega)⟩
  · exact ⟨rfl, decide_eq_false (show ¬ k ≥ 11 by omega)⟩
  · exact ⟨rfl, bne_iff_ne.2 hB⟩
theorem run_Con : RunE L_on [] UO [(5, xsO, .v (.tuple #[.agg #[.int .i64 0, .int .u64 0], .int .i64 11])), (6, xsO, .v (.tuple #[.agg #[.int .i64 0, .int .u64 0], .int .i64 11]))] := fun W C ρ aR aS => by unfold runE; kernel_rfl
theorem ag_Con {aR aS : Addr} {vk b B k : Int} (hc : Chk aR aS vk b B) (h : k < 0) : AgC aR aS k vk b := ⟨0, 0, 11, fun w hG => pair_of (W := wF 0) (C := cF 0) (ρ := rc b 0 0 B vk k 0) (ok_on h) (fun _ h => by cases h) (UO_ok hc) (run_Con _ _ _ aR aS) rfl rfl rfl (vs := [.int .i64 k, agV vk b]) (v := .tuple #[agV 0 0, .int .i64 11]) (v' := .tuple #[agV 0 0, .int .i64 11]) rfl rfl rfl w hG⟩
theorem run_Cob : RunE L_ob [] UO [(5, xsO, .v (.tuple #[.agg #[.int .i64 0, .int .u64 0], .int .i64 11])), (6, xsO, .v (.tuple #[.agg #[.int .i64 0, .int .u64 0], .int .i64 11]))] := fun W C ρ aR aS => by unfold runE; kernel_rfl
theorem ag_Cob {aR aS : Addr} {vk b B k : Int} (hc : Chk aR aS vk b B) (h : 11 ≤ k) : AgC aR aS k vk b := ⟨0, 0, 11, fun w hG => pair_of (W := wF 0) (C := cF 0) (ρ := rc b 0 0 B vk k 0) (ok_ob h) (fun _ h => by cases h) (UO_ok hc) (run_Cob _ _ _ aR aS) rfl rfl rfl (vs := [.int .i64 k, agV vk b]) (v := .tuple #[agV 0 0, .int .i64 11]) (v' := .tuple #[agV 0 0, .int .i64 11]) rfl rfl rfl w hG⟩
theorem run_Coe : RunE L_oe [] UO [(5, xsO, .tuple [.v (.agg #[.int .i64 0, .int .u64 0]), .sym (.int .i64 (.var 6))]), (6, xsO, .tuple [.v (.agg #[.int .i64 0, .int .u64 0]), .sym (.int .i64 (.var 6))])] := fun W C ρ aR aS => by unfold runE; kernel_rfl
theorem ag_Coe {aR aS : Addr} {vk b B k : Int} (hc : Chk aR aS vk b B) (h : 0 ≤ k) (h' : k < 11) (hB : B ≠ 0) : AgC aR aS k vk b := ⟨0, 0, B, fun w hG => pair_of (W := wF 0) (C := cF 0) (ρ := rc b 0 0 B vk k 0) (ok_oe h h' hB) (fun _ h => by cases h) (UO_ok hc) (run_Coe _ _ _ aR aS) rfl rfl rfl (vs := [.int .i64 k, agV vk b]) (v := .tuple #[agV 0 0, .int .i64 B]) (v' := .tuple #[agV 0 0, .int .i64 B]) rfl rfl rfl w hG⟩
theorem run_Son : RunE L_on [] UO [(7, xsO, .v (.tuple #[.agg #[.int .i64 0, .int .u64 0], .int .i64 11])), (8, xsO, .v (.tuple #[.agg #[.int .i64 0, .int .u64 0], .int .i64 11]))] := fun W C ρ aR aS => by unfold runE; kernel_rfl
theorem ag_Son {aR aS : Addr} {vk b B k : Int} (hc : Chk aR aS vk b B) (h : k < 0) : AgS aR aS k vk b := ⟨0, 0, 11, fun w hG => pair_of (W := wF 0) (C := cF 0) (ρ := rc b 0 0 B vk k 0) (ok_on h) (fun _ h => by cases h) (UO_ok hc) (run_Son _ _ _ aR aS) rfl rfl rfl (vs := [.int .i64 k, agV vk b]) (v := .tuple #[agV 0 0, .int .i64 11]) (v' := .tuple #[agV 0 0, .int .i64 11]) rfl rfl rfl w hG⟩
theorem run_Sob : RunE L_ob [] UO [(7, xsO, .v (.tuple #[.agg #[.int .i64 0, .int .u64 0], .int .i64 11])), (8, xsO, .v (.tuple #[.agg #[.int .i64 0, .int .u64 0], .int .i64 11]))] := fun W C ρ aR aS => by unfold runE; kernel_rfl
theorem ag_Sob {aR aS : Addr} {vk b B k : Int} (hc : Chk aR aS vk b B) (h : 11 ≤ k) : AgS aR aS k vk b := ⟨0, 0, 11, fun w hG => pair_of (W := wF 0) (C := cF 0) (ρ := rc b 0 0 B vk k 0) (ok_ob h) (fun _ h => by cases h) (UO_ok hc) (run_Sob _ _ _ aR aS) rfl rfl rfl (vs := [.int .i64 k, agV vk b]) (v := .tuple #[agV 0 0, .int .i64 11]) (v' := .tuple #[agV 0 0, .int .i64 11]) rfl rfl rfl w hG⟩
theorem run_Soe : RunE L_oe [] UO [(7, xsO, .tuple [.v (.agg #[.int .i64 0, .int .u64 0]), .sym (.int .i64 (.var 6))]), (8, xsO, .tuple [.v (.agg #[.int .i64 0, .int .u64 0]), .sym (.int .i64 (.var 6))])] := fun W C ρ aR aS => by unfold runE; kernel_rfl
theorem ag_Soe {aR aS : Addr} {vk b B k : Int} (hc : Chk aR aS vk b B) (h : 0 ≤ k) (h' : k < 11) (hB : B ≠ 0) : AgS aR aS k vk b := ⟨0, 0, B, fun w hG => pair_of (W := wF 0) (C := cF 0) (ρ := rc b 0 0 B vk k 0) (ok_oe h h' hB) (fun _ h => by cases h) (UO_ok hc) (run_Soe _ _ _ aR aS) rfl rfl rfl (vs := [.int .i64 k, agV vk b]) (v := .tuple #[agV 0 0, .int .i64 B]) (v' := .tuple #[agV 0 0, .int .i64 B]) rfl rfl rfl w hG⟩
theorem int_C {aR aS : Addr} {vk b n k : Int} (hB : Bnd vk b n) (hc : Chk aR aS vk b 0) (hi : IntV aR aS vk b n) (k0 : 0 ≤ k) (k1 : k < 11) : AgC aR aS k vk b := by
  have hvk : vk = 0 ∨ vk = 1 ∨ vk = 2 ∨ vk = 3 ∨ vk = 4 ∨ vk = 5 ∨ vk = 6 ∨ vk = 7 ∨ vk = 8 := by
    unfold Bnd at hB
    omega
  rcases hvk with rfl | rfl | rfl | rfl | rfl | rfl | rfl | rfl | rfl
  · exact int_C0 hB hc hi k0 k1
  · exact int_C1 hB hc hi k0 k1
  · exact int_C2 hB hc hi k0 k1
  · exact int_C3 hB hc hi k0 k1
  · exact int_C4 hB hc hi k0 k1
  · exact int_C5 hB hc hi k0 k1
  · exact int_C6 hB hc hi k0 k1
  · exact int_C7 hB hc hi k0 k1
  · exact int_C8 hB hc hi k0 k1
theorem int_S {aR aS : Addr} {vk b n k : Int} (hB : Bnd vk b n) (hc : Chk aR aS vk b 0) (hi : IntV aR aS vk b n) (k0 : 0 ≤ k) (k1 : k < 11) : AgS aR aS k vk b := by
  have hvk : vk = 0 ∨ vk = 1 ∨ vk = 2 ∨ vk = 3 ∨ vk = 4 ∨ vk = 5 ∨ vk = 6 ∨ vk = 7 ∨ vk = 8 := by
    unfold Bnd at hB
    omega
  rcases hvk with rfl | rfl | rfl | rfl | rfl | rfl | rfl | rfl | rfl
  · exact int_S0 hB hc hi k0 k1
  · exact int_S1 hB hc hi k0 k1
  · exact int_S2 hB hc hi k0 k1
  · exact int_S3 hB hc hi k0 k1
  · exact int_S4 hB hc hi k0 k1
  · exact int_S5 hB hc hi k0 k1
  · exact int_S6 hB hc hi k0 k1
  · exact int_S7 hB hc hi k0 k1
  · exact int_S8 hB hc hi k0 k1
theorem all_C (aR aS : Addr) (k vk b : Int) (hb0 : 0 ≤ b) (hb1 : b < 18446744073709551616) : AgC aR aS k vk b := by
  rcases Int.lt_or_le k 0 with h | k0
  · rcases vclass aR aS vk b hb0 hb1 with hv | hv | ⟨n, _, hv, _⟩ | ⟨_, hv⟩ | ⟨_, hv⟩ <;> exact ag_Con hv h
  rcases Int.lt_or_le k 11 with k1 | h
  case inr => rcases vclass aR aS vk b hb0 hb1 with hv | hv | ⟨n, _, hv, _⟩ | ⟨_, hv⟩ | ⟨_, hv⟩ <;> exact ag_Cob hv h
  rcases vclass aR aS vk b hb0 hb1 with hv | hv | ⟨n, hB, hv, hi⟩ | ⟨⟨rfl, c1, c2, c3⟩, hv⟩ | ⟨⟨rfl, _⟩, hv⟩
  · exact ag_Coe hv k0 k1 (by omega)
  · exact ag_Coe hv k0 k1 (by omega)
  · exact int_C hB hv hi k0 k1
  · obtain ⟨F, rfl⟩ := Int.eq_ofNat_of_zero_le hb0
    exact flt_C (by omega) (by omega) (by omega) hv k0 k1
  · exact cpx_C hv k0 k1
theorem all_S (aR aS : Addr) (k vk b : Int) (hb0 : 0 ≤ b) (hb1 : b < 18446744073709551616) : AgS aR aS k vk b := by
  rcases Int.lt_or_le k 0 with h | k0
  · rcases vclass aR aS vk b hb0 hb1 with hv | hv | ⟨n, _, hv, _⟩ | ⟨_, hv⟩ | ⟨_, hv⟩ <;> exact ag_Son hv h
  rcases Int.lt_or_le k 11 with k1 | h
  case inr => rcases vclass aR aS vk b hb0 hb1 with hv | hv | ⟨n, _, hv, _⟩ | ⟨_, hv⟩ | ⟨_, hv⟩ <;> exact ag_Sob hv h
  rcases vclass aR aS vk b hb0 hb1 with hv | hv | ⟨n, hB, hv, hi⟩ | ⟨⟨rfl, c1, c2, c3⟩, hv⟩ | ⟨⟨rfl, _⟩, hv⟩
  · exact ag_Soe hv k0 k1 (by omega)
  · exact ag_Soe hv k0 k1 (by omega)
  · exact int_S hB hv hi k0 k1
  · obtain ⟨F, rfl⟩ := Int.eq_ofNat_of_zero_le hb0
    exact flt_S (by omega) (by omega) (by omega) hv k0 k1
  · exact cpx_S hv k0 k1
end
end Go.Proofs.YtbhhdjlmbmeiaaaGreatDoor
