import Derived.Test.YtonkcpmefnddaaaGreatDoorHP0
import Derived.Test.YtonkcpmefnddaaaGreatDoorHP1
import Derived.Test.YtonkcpmefnddaaaGreatDoorHP2
import Derived.Test.YtonkcpmefnddaaaGreatDoorHP3
namespace Go.Proofs.YtonkcpmefnddaaaGreatDoor
noncomputable section
open Go Go.RX
open Go.RowKit (Below)
set_option maxRecDepth 1000000
set_option maxHeartbeats 4000000
/-- Which numbers a kind's bits stand for. -/
def Bnd (vk b n : Int) : Prop := (0 ≤ b ∧ b < 18446744073709551616) ∧ ((vk = 0 ∧ b ≤ 1 ∧ n = b) ∨
  (vk = 1 ∧ b ≤ 255 ∧ n = b) ∨
  (vk = 2 ∧ b ≤ 65535 ∧ n = b) ∨
  (vk = 3 ∧ b ≤ 4294967295 ∧ n = b) ∨
  (vk = 4 ∧ n = b) ∨
  (vk = 5 ∧ b ≤ 127 ∧ n = b) ∨
  (vk = 5 ∧ 127 < b ∧ b ≤ 255 ∧ n = (b - 256)) ∨
  (vk = 6 ∧ b ≤ 32767 ∧ n = b) ∨
  (vk = 6 ∧ 32767 < b ∧ b ≤ 65535 ∧ n = (b - 65536)) ∨
  (vk = 7 ∧ b ≤ 2147483647 ∧ n = b) ∨
  (vk = 7 ∧ 2147483647 < b ∧ b ≤ 4294967295 ∧ n = (b - 4294967296)) ∨
  (vk = 8 ∧ b ≤ 9223372036854775807 ∧ n = b) ∨
  (vk = 8 ∧ 9223372036854775807 < b ∧ n = (b - 18446744073709551616)))
theorem vclass (aR aS : Addr) (vk b : Int) (hb0 : 0 ≤ b) (hb1 : b < 18446744073709551616) : Chk aR aS vk b 11 ∨ Chk aR aS vk b 1 ∨ (∃ n, Bnd vk b n ∧ Chk aR aS vk b 0 ∧ IntV aR aS vk b n) ∨
    ((vk = 9 ∧ b < 4294967296 ∧ b / 8388608 % 256 ≠ 255 ∧ b ≠ 2147483648) ∧ Chk aR aS vk b 0) ∨ ((vk = 10 ∧ (b % 4294967296) / 8388608 % 256 ≠ 255 ∧ (b % 4294967296) ≠ 2147483648 ∧ (b / 4294967296) / 8388608 % 256 ≠ 255 ∧ (b / 4294967296) ≠ 2147483648) ∧ Chk aR aS vk b 0) := by
  rcases Int.lt_or_le vk 0 with h | h
  · exact .inl (v_neg aR aS b vk h)
  rcases Int.lt_or_le vk 11 with h' | h'
  case inr => exact .inl (v_big aR aS b vk h')
  have hv : vk = 0 ∨ vk = 1 ∨ vk = 2 ∨ vk = 3 ∨ vk = 4 ∨ vk = 5 ∨ vk = 6 ∨ vk = 7 ∨ vk = 8 ∨ vk = 9 ∨ vk = 10 := by omega
  rcases hv with rfl | rfl | rfl | rfl | rfl | rfl | rfl | rfl | rfl | rfl | rfl
  · by_cases c0 : b ≤ 1
    · exact .inr (.inr (.inl ⟨b, by unfold Bnd; omega, v_bool0 aR aS b hb0 hb1 (by omega), n_bool0 aR aS b hb0 hb1 (by omega)⟩))
    exact .inr (.inl (v_bool1 aR aS b hb0 hb1 (by omega)))
  · by_cases c0 : b ≤ 255
    · exact .inr (.inr (.inl ⟨b, by unfold Bnd; omega, v_u8ok aR aS b hb0 hb1 (by omega), n_u8ok aR aS b hb0 hb1 (by omega)⟩))
    exact .inr (.inl (v_u8bad aR aS b hb0 hb1 (by omega)))
  · by_cases c0 : b ≤ 65535
    · exact .inr (.inr (.inl ⟨b, by unfold Bnd; omega, v_u16ok aR aS b hb0 hb1 (by omega), n_u16ok aR aS b hb0 hb1 (by omega)⟩))
    exact .inr (.inl (v_u16bad aR aS b hb0 hb1 (by omega)))
  · by_cases c0 : b ≤ 4294967295
    · exact .inr (.inr (.inl ⟨b, by unfold Bnd; omega, v_u32ok aR aS b hb0 hb1 (by omega), n_u32ok aR aS b hb0 hb1 (by omega)⟩))
    exact .inr (.inl (v_u32bad aR aS b hb0 hb1 (by omega)))
  · exact .inr (.inr (.inl ⟨b, by unfold Bnd; omega, v_u64ok aR aS b hb0 hb1 , n_u64ok aR aS b hb0 hb1 ⟩))
  · by_cases c0 : b ≤ 127
    · exact .inr (.inr (.inl ⟨b, by unfold Bnd; omega, v_i8pos aR aS b hb0 hb1 (by omega), n_i8pos aR aS b hb0 hb1 (by omega)⟩))
    by_cases c1 : 127 < b ∧ b ≤ 255
    · exact .inr (.inr (.inl ⟨(b - 256), by unfold Bnd; omega, v_i8neg aR aS b hb0 hb1 (by omega) (by omega), n_i8neg aR aS b hb0 hb1 (by omega) (by omega)⟩))
    exact .inr (.inl (v_i8bad aR aS b hb0 hb1 (by omega)))
  · by_cases c0 : b ≤ 32767
    · exact .inr (.inr (.inl ⟨b, by unfold Bnd; omega, v_i16pos aR aS b hb0 hb1 (by omega), n_i16pos aR aS b hb0 hb1 (by omega)⟩))
    by_cases c1 : 32767 < b ∧ b ≤ 65535
    · exact .inr (.inr (.inl ⟨(b - 65536), by unfold Bnd; omega, v_i16neg aR aS b hb0 hb1 (by omega) (by omega), n_i16neg aR aS b hb0 hb1 (by omega) (by omega)⟩))
    exact .inr (.inl (v_i16bad aR aS b hb0 hb1 (by omega)))
  · by_cases c0 : b ≤ 2147483647
    · exact .inr (.inr (.inl ⟨b, by unfold Bnd; omega, v_i32pos aR aS b hb0 hb1 (by omega), n_i32pos aR aS b hb0 hb1 (by omega)⟩))
    by_cases c1 : 2147483647 < b ∧ b ≤ 4294967295
    · exact .inr (.inr (.inl ⟨(b - 4294967296), by unfold Bnd; omega, v_i32neg aR aS b hb0 hb1 (by omega) (by omega), n_i32neg aR aS b hb0 hb1 (by omega) (by omega)⟩))
    exact .inr (.inl (v_i32bad aR aS b hb0 hb1 (by omega)))
  · by_cases c0 : b ≤ 9223372036854775807
    · exact .inr (.inr (.inl ⟨b, by unfold Bnd; omega, v_i64pos aR aS b hb0 hb1 (by omega), n_i64pos aR aS b hb0 hb1 (by omega)⟩))
    exact .inr (.inr (.inl ⟨(b - 18446744073709551616), by unfold Bnd; omega, v_i64neg aR aS b hb0 hb1 (by omega), n_i64neg aR aS b hb0 hb1 (by omega)⟩))
  · by_cases c0 : 4294967296 ≤ b
    · exact .inr (.inl (v_f32wide aR aS b hb0 hb1 (by omega)))
    by_cases c1 : b < 4294967296 ∧ b / 8388608 % 256 = 255
    · exact .inr (.inl (v_f32exp aR aS b hb0 hb1 (by omega) (by omega)))
    by_cases c2 : b = 2147483648
    · exact .inr (.inl (v_f32zero aR aS b hb0 hb1 (by omega)))
    exact .inr (.inr (.inr (.inl ⟨by omega, v_f32ok aR aS b hb0 hb1 (by omega) (by omega) (by omega)⟩)))
  · by_cases c0 : (b % 4294967296) / 8388608 % 256 = 255
    · exact .inr (.inl (v_c64loexp aR aS b hb0 hb1 (by omega)))
    by_cases c1 : (b % 4294967296) = 2147483648
    · exact .inr (.inl (v_c64lozero aR aS b hb0 hb1 (by omega)))
    by_cases c2 : (b % 4294967296) / 8388608 % 256 ≠ 255 ∧ (b % 4294967296) ≠ 2147483648 ∧ (b / 4294967296) / 8388608 % 256 = 255
    · exact .inr (.inl (v_c64hiexp aR aS b hb0 hb1 (by omega) (by omega) (by omega)))
    by_cases c3 : (b % 4294967296) / 8388608 % 256 ≠ 255 ∧ (b % 4294967296) ≠ 2147483648 ∧ (b / 4294967296) = 2147483648
    · exact .inr (.inl (v_c64hizero aR aS b hb0 hb1 (by omega) (by omega) (by omega)))
    exact .inr (.inr (.inr (.inr ⟨by omega, v_c64ok aR aS b hb0 hb1 (by omega) (by omega) (by omega) (by omega)⟩)))
end
end Go.Proofs.YtonkcpmefnddaaaGreatDoor

namespace Go.Proofs.YtonkcpmefnddaaaGreatDoor
noncomputable section
open Go Go.RX
open Go.RowKit (Below)
set_option maxRecDepth 1000000
set_option maxHeartbeats 4000000

def ag0 (vk : Int) : SVal := .agg [.v (.int .i64 vk), .sym (.int .u64 (.var 0))]
def UC (vk : Int) : List SEntry := [(35, [ag0 vk], .v (.int .i64 0)), (25, [ag0 vk], .v (.int .i64 0))]
def UW (vk : Int) : List SEntry := [(33, [ag0 vk], .agg [.sym (.int .u64 (.var 2)), .sym (.int .u64 (.var 3))]), (126, [ag0 vk], .sym (.int .i64 (.var 4)))]
def UX : List SEntry := [(29, [.sym (.nm 0)], .agg [.v (.int .i64 9), .sym (.int .u64 (.var 5))]), (127, [.sym (.nm 0)], .agg [.v (.int .i64 9), .sym (.int .u64 (.var 5))])]
def UR : List SEntry := [(95, [.sym (.int .u64 (.var 0))], .sym (.nm 0))]
def UI (vk : Int) : List SEntry := UC vk ++ (UW vk ++ UX)
def UF : List SEntry := UC 9 ++ (UR ++ UX)
section
variable {b n e vk k t : Int} {F : Nat} {L : List CF} {T : List XE} {aR aS : Addr} {G : Int}
theorem UC_ok (hc : Chk aR aS vk b 0) : ∀ x ∈ UC vk, @SOk (E (wF F) (cF F) (rc b n G e vk k t) L T) Tryz.prog (glob aR aS) x := fun x hx => by
  simp only [UC, List.mem_cons, List.not_mem_nil, or_false] at hx
  rcases hx with rfl | rfl
  · exact sokE (vs := [agV vk b]) (v := .int .i64 0) rfl rfl rfl rfl fun w hG => (hc w hG).1
  · exact sokE (vs := [agV vk b]) (v := .int .i64 0) rfl rfl rfl rfl fun w hG => (hc w hG).2
theorem UW_ok (hi : IntV aR aS vk b n) : ∀ x ∈ UW vk, @SOk (E (wF F) (cF F) (rc b n G e vk k t) L T) Tryz.prog (glob aR aS) x := fun x hx => by
  simp only [UW, List.mem_cons, List.not_mem_nil, or_false] at hx
  rcases hx with rfl | rfl
  · exact sokE (vs := [agV vk b]) (v := .agg #[.int .u64 (hiI n), .int .u64 (loI n)]) rfl rfl rfl rfl fun w hG => (hi w hG).1
  · exact sokE (vs := [agV vk b]) (v := .int .i64 (IntKind.wrap .i64 n)) rfl rfl rfl rfl fun w hG => (hi w hG).2
theorem UX_ok (hN : Num F) : ∀ x ∈ UX, @SOk (E (wF F) (cF F) (rc b n (normW F) e vk k t) L T) Tryz.prog (glob aR aS) x := fun x hx => by
  have h := from_calls aR aS F hN
  simp only [UX, List.mem_cons, List.not_mem_nil, or_false] at hx
  rcases hx with rfl | rfl
  · exact sokE (vs := [.float .f32 F]) (v := agV 9 (normW F)) rfl rfl rfl rfl fun w hG => (h w hG).1
  · exact sokE (vs := [.float .f32 F]) (v := agV 9 (normW F)) rfl rfl rfl rfl fun w hG => (h w hG).2
theorem UR_ok (hF : F < 4294967296) (hr : F % 2147483648 < 2139095040) (hz : F ≠ 2147483648) : ∀ x ∈ UR, @SOk (E (wF F) (cF F) (rc F n G e vk k t) L T) Tryz.prog (glob aR aS) x := fun x hx => by
  obtain rfl := List.mem_singleton.1 hx
  exact sokE (vs := [.int .u64 F]) (v := .float .f32 F) rfl rfl rfl rfl fun w hG => float_calls aR aS F hF hr hz w hG
theorem UI_ok (hN : Num F) (hc : Chk aR aS vk b 0) (hi : IntV aR aS vk b n) : ∀ x ∈ UI vk, @SOk (E (wF F) (cF F) (rc b n (normW F) e vk k t) L T) Tryz.prog (glob aR aS) x := fun x hx => by
  rcases List.mem_append.1 hx with h | h
  · exact UC_ok hc x h
  rcases List.mem_append.1 h with h | h
  · exact UW_ok hi x h
  · exact UX_ok hN x h
theorem UF_ok (hF : F < 4294967296) (hr : F % 2147483648 < 2139095040) (hz : F ≠ 2147483648) (hc : Chk aR aS 9 F 0) : ∀ x ∈ UF, @SOk (E (wF F) (cF F) (rc F n (normW F) e 9 k t) L T) Tryz.prog (glob aR aS) x := fun x hx => by
  rcases List.mem_append.1 hx with h | h
  · exact UC_ok hc x h
  rcases List.mem_append.1 h with h | h
  · exact UR_ok hF hr hz x h
  · exact UX_ok ⟨hF, by omega⟩ x h
end

theorem normW_right {F : Nat} (hr : F % 2147483648 < 2139095040) (hz : F ≠ 2147483648) (hF : F < 4294967296) : normW F = F := by
  unfold normW
  (repeat' split) <;> omega
theorem word_num (s : Bool) {r : Nat} (h : r ≤ 2139095040) : Num (Ieee.single.word s r) := by
  unfold Num Ieee.Format.word
  rw [sgl_sign]
  split <;> omega
theorem nearest_num (n : Int) : Num (FloatKind.nearest .f32 n) := by
  show Num (Ieee.single.nearest _ _ _)
  unfold Ieee.Format.nearest
  split
  · exact word_num _ (by omega)
  · refine word_num _ ?_
    rw [sgl_inf]
    omega
theorem or_zero (x : Int) (h0 : 0 ≤ x) (h1 : x < 18446744073709551616) : binI .or .u64 x (shI .shl .u64 0 32) = x := by
  have e : shI .shl .u64 0 32 = 0 := by
    rw [shl_u64_32, wrap_u64]
    rfl
  rw [e]
  exact or_u64_64 x h0 h1
theorem pow_cast (B : Nat) : ((2 ^ B : Nat) : Int) = 2 ^ B := by
  rw [Int.natCast_pow]
  rfl
/-- The powers of 2 as floats of 64 bits. -/
theorem is64_pow (s : Bool) (w j : Nat) (h : Ieee.double.read w = .number s 4503599627370496 ((j : Int) - 52)) : Is64 w (if s then -((2 ^ j : Nat) : Int) else ((2 ^ j : Nat) : Int)) := by
  refine ⟨s, 4503599627370496, (j : Int) - 52, h, by unfold z64; omega, ?_⟩
  have e : ((j : Int) - 52 + (z64 : Int)).toNat + 52 = j + z64 := by unfold z64; omega
  have e2 : (4503599627370496 : Nat) <<< ((j : Int) - 52 + (z64 : Int)).toNat = 2 ^ j * 2 ^ z64 := by
    rw [Nat.shiftLeft_eq, show (4503599627370496 : Nat) = 2 ^ 52 from rfl, ← Nat.pow_add, ← Nat.pow_add]
    congr 1
    omega
  unfold Ieee.signed
  rw [e2]
  have e3 : ((2 ^ j * 2 ^ z64 : Nat) : Int) = ((2 ^ j : Nat) : Int) * 2 ^ z64 := by
    rw [Int.natCast_mul, pow_cast z64]
  cases s
  · simp only [Bool.false_eq_true, if_false]
    exact e3
  · simp only [if_true]
    rw [e3, Int.neg_mul]
theorem is64_0 : Is64 0 0 := is64_zero false
/-- The moduli and the ends of the kinds. -/
def HN (vk : Nat) (b n : Int) : Prop := match vk with
  | 0 => 0 ≤ b ∧ b < 18446744073709551616 ∧ b = n % 2 ∧ 0 ≤ n ∧ n ≤ 1
  | 1 => 0 ≤ b ∧ b < 18446744073709551616 ∧ b = n % 256 ∧ 0 ≤ n ∧ n ≤ 255
  | 2 => 0 ≤ b ∧ b < 18446744073709551616 ∧ b = n % 65536 ∧ 0 ≤ n ∧ n ≤ 65535
  | 3 => 0 ≤ b ∧ b < 18446744073709551616 ∧ b = n % 4294967296 ∧ 0 ≤ n ∧ n ≤ 4294967295
  | 4 => 0 ≤ b ∧ b < 18446744073709551616 ∧ b = n % 18446744073709551616 ∧ 0 ≤ n ∧ n ≤ 18446744073709551615
  | 5 => 0 ≤ b ∧ b < 18446744073709551616 ∧ b = n % 256 ∧ (-128) ≤ n ∧ n ≤ 127
  | 6 => 0 ≤ b ∧ b < 18446744073709551616 ∧ b = n % 65536 ∧ (-32768) ≤ n ∧ n ≤ 32767
  | 7 => 0 ≤ b ∧ b < 18446744073709551616 ∧ b = n % 4294967296 ∧ (-2147483648) ≤ n ∧ n ≤ 2147483647
  | 8 => 0 ≤ b ∧ b < 18446744073709551616 ∧ b = n % 18446744073709551616 ∧ (-9223372036854775808) ≤ n ∧ n ≤ 9223372036854775807
  | _ => False
def HF (F : Nat) : Prop := F < 4294967296 ∧ F % 2147483648 < 2139095040 ∧ F ≠ 2147483648
abbrev ri (b n : Int) (vk k : Int) : Nat → Int := rc b n (normW (FloatKind.nearest .f32 n)) 0 vk k 0
abbrev rf (F : Nat) (k : Int) : Nat → Int := rc F 0 (normW F) 0 9 k (tB F)
theorem tupE (K e : Int) {x y : Int} (h : x = y) : some (Value.tuple #[agV K x, .int .i64 e]) = some (Value.tuple #[agV K y, .int .i64 e]) := by rw [h]
end
end Go.Proofs.YtonkcpmefnddaaaGreatDoor

namespace Go.Proofs.YtonkcpmefnddaaaGreatDoor
noncomputable section
open Go Go.RX
open Go.RowKit (Below)
set_option maxRecDepth 1000000
set_option maxHeartbeats 4000000
/-- Symbols of two values: those of the second one are 10 more. -/
def rd (b n e ka b2 n2 e2 kb : Int) : Nat → Int := fun i => match i with
  | 0 => b
  | 2 => hiI n
  | 3 => loI n
  | 4 => IntKind.wrap .i64 n
  | 6 => e
  | 7 => ka
  | 10 => b2
  | 12 => hiI n2
  | 13 => loI n2
  | 14 => IntKind.wrap .i64 n2
  | 16 => e2
  | 17 => kb
  | _ => 0
theorem rd_0 (b n e ka b2 n2 e2 kb : Int) : rd b n e ka b2 n2 e2 kb 0 = b := rfl
theorem rd_2 (b n e ka b2 n2 e2 kb : Int) : rd b n e ka b2 n2 e2 kb 2 = hiI n := rfl
theorem rd_3 (b n e ka b2 n2 e2 kb : Int) : rd b n e ka b2 n2 e2 kb 3 = loI n := rfl
theorem rd_4 (b n e ka b2 n2 e2 kb : Int) : rd b n e ka b2 n2 e2 kb 4 = IntKind.wrap .i64 n := rfl
theorem rd_10 (b n e ka b2 n2 e2 kb : Int) : rd b n e ka b2 n2 e2 kb 10 = b2 := rfl
theorem rd_12 (b n e ka b2 n2 e2 kb : Int) : rd b n e ka b2 n2 e2 kb 12 = hiI n2 := rfl
theorem rd_13 (b n e ka b2 n2 e2 kb : Int) : rd b n e ka b2 n2 e2 kb 13 = loI n2 := rfl
theorem rd_14 (b n e ka b2 n2 e2 kb : Int) : rd b n e ka b2 n2 e2 kb 14 = IntKind.wrap .i64 n2 := rfl
def wG (F G : Nat) : Nat → Nat := fun i => match i with
  | 0 => F
  | _ => G
def ag1 (vk : Int) : SVal := .agg [.v (.int .i64 vk), .sym (.int .u64 (.var 10))]
def UV (vk : Int) : List SEntry := [(25, [ag0 vk], .v (.int .i64 0)), (25, [ag1 vk], .v (.int .i64 0))]
def UM (vk : Int) : List SEntry := UV vk ++ [(33, [ag0 vk], .agg [.sym (.int .u64 (.var 2)), .sym (.int .u64 (.var 3))]), (33, [ag1 vk], .agg [.sym (.int .u64 (.var 12)), .sym (.int .u64 (.var 13))]),
  (126, [ag0 vk], .sym (.int .i64 (.var 4))), (126, [ag1 vk], .sym (.int .i64 (.var 14)))]
def UG : List SEntry := UV 9 ++ [(95, [.sym (.int .u64 (.var 0))], .sym (.nm 0)), (95, [.sym (.int .u64 (.var 10))], .sym (.nm 1))]
section
variable {W : Nat → Nat} {C : Nat → Nat × Nat} {b n e ka b2 n2 e2 kb vk : Int} {L : List CF} {T : List XE} {aR aS : Addr}
theorem UV_ok (h1 : Chk aR aS vk b 0) (h2 : Chk aR aS vk b2 0) : ∀ x ∈ UV vk, @SOk (E W C (rd b n e ka b2 n2 e2 kb) L T) Tryz.prog (glob aR aS) x := fun x hx => by
  simp only [UV, List.mem_cons, List.not_mem_nil, or_false] at hx
  rcases hx with rfl | rfl
  · exact sokE (vs := [agV vk b]) (v := .int .i64 0) rfl rfl rfl rfl fun w hG => (h1 w hG).2
  · exact sokE (vs := [agV vk b2]) (v := .int .i64 0) rfl rfl rfl rfl fun w hG => (h2 w hG).2
theorem UM_ok (h1 : Chk aR aS vk b 0) (h2 : Chk aR aS vk b2 0) (i1 : IntV aR aS vk b n) (i2 : IntV aR aS vk b2 n2) : ∀ x ∈ UM vk, @SOk (E W C (rd b n e ka b2 n2 e2 kb) L T) Tryz.prog (glob aR aS) x := fun x hx => by
  rcases List.mem_append.1 hx with h | h
  · exact UV_ok h1 h2 x h
  simp only [List.mem_cons, List.not_mem_nil, or_false] at h
  rcases h with rfl | rfl | rfl | rfl
  · exact sokE (vs := [agV vk b]) (v := .agg #[.int .u64 (hiI n), .int .u64 (loI n)]) rfl rfl rfl rfl fun w hG => (i1 w hG).1
  · exact sokE (vs := [agV vk b2]) (v := .agg #[.int .u64 (hiI n2), .int .u64 (loI n2)]) rfl rfl rfl rfl fun w hG => (i2 w hG).1
  · exact sokE (vs := [agV vk b]) (v := .int .i64 (IntKind.wrap .i64 n)) rfl rfl rfl rfl fun w hG => (i1 w hG).2
  · exact sokE (vs := [agV vk b2]) (v := .int .i64 (IntKind.wrap .i64 n2)) rfl rfl rfl rfl fun w hG => (i2 w hG).2
theorem UG_ok {F G : Nat} (hF : HF F) (hG' : HF G) (h1 : Chk aR aS 9 F 0) (h2 : Chk aR aS 9 G 0) : ∀ x ∈ UG, @SOk (E (wG F G) C (rd F n e ka G n2 e2 kb) L T) Tryz.prog (glob aR aS) x := fun x hx => by
  rcases List.mem_append.1 hx with h | h
  · exact UV_ok h1 h2 x h
  simp only [List.mem_cons, List.not_mem_nil, or_false] at h
  rcases h with rfl | rfl
  · exact sokE (vs := [.int .u64 F]) (v := .float .f32 F) rfl rfl rfl rfl fun w hG => float_calls aR aS F hF.1 hF.2.1 hF.2.2 w hG
  · exact sokE (vs := [.int .u64 G]) (v := .float .f32 G) rfl rfl rfl rfl fun w hG => float_calls aR aS G hG'.1 hG'.2.1 hG'.2.2 w hG
end
end
end Go.Proofs.YtonkcpmefnddaaaGreatDoor
