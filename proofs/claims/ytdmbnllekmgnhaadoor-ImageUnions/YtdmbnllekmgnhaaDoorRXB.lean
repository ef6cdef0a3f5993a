import Derived.Test.YtdmbnllekmgnhaaDoorRXS
import Derived.Laws.Externs
import Derived.ChangeKeysEq
namespace Go.RX
noncomputable section

/-! ### What the operations of the expressions are, in plain arithmetic -/
theorem wrap_u8 (n : Int) : IntKind.wrap .u8 n = n % 256 := by simp [IntKind.wrap, IntKind.bits, IntKind.signed]
theorem wrap_u16 (n : Int) : IntKind.wrap .u16 n = n % 65536 := by simp [IntKind.wrap, IntKind.bits, IntKind.signed]
theorem wrap_u32 (n : Int) : IntKind.wrap .u32 n = n % 4294967296 := by simp [IntKind.wrap, IntKind.bits, IntKind.signed]
theorem wrap_u64 (n : Int) : IntKind.wrap .u64 n = n % 18446744073709551616 := by simp [IntKind.wrap, IntKind.bits, IntKind.signed]
theorem wrap_i8 (n : Int) : IntKind.wrap .i8 n = (n + 128) % 256 - 128 := by
  have h : IntKind.wrap .i8 n = if n % 256 ≥ 128 then n % 256 - 256 else n % 256 := by simp [IntKind.wrap, IntKind.bits, IntKind.signed]
  rw [h]
  split <;> omega
theorem wrap_i16 (n : Int) : IntKind.wrap .i16 n = (n + 32768) % 65536 - 32768 := by
  have h : IntKind.wrap .i16 n = if n % 65536 ≥ 32768 then n % 65536 - 65536 else n % 65536 := by simp [IntKind.wrap, IntKind.bits, IntKind.signed]
  rw [h]
  split <;> omega
theorem wrap_i32 (n : Int) : IntKind.wrap .i32 n = (n + 2147483648) % 4294967296 - 2147483648 := by
  have h : IntKind.wrap .i32 n = if n % 4294967296 ≥ 2147483648 then n % 4294967296 - 4294967296 else n % 4294967296 := by simp [IntKind.wrap, IntKind.bits, IntKind.signed]
  rw [h]
  split <;> omega
theorem wrap_i64 (n : Int) : IntKind.wrap .i64 n = (n + 9223372036854775808) % 18446744073709551616 - 9223372036854775808 := by
  have h : IntKind.wrap .i64 n = if n % 18446744073709551616 ≥ 9223372036854775808 then n % 18446744073709551616 - 18446744073709551616 else n % 18446744073709551616 := by simp [IntKind.wrap, IntKind.bits, IntKind.signed]
  rw [h]
  split <;> omega

theorem fdiv_pow (x : Int) (n : Nat) : x.fdiv (2 ^ n) = x / 2 ^ n := Int.fdiv_eq_ediv_of_nonneg x (by have : (0 : Int) < 2 ^ n := Int.pow_pos (by decide); omega)
theorem shr_ev (k : IntKind) (x : Int) (n : Nat) (hn : n ≤ k.bits) : shI .shr k x (n : Int) = x / 2 ^ n := by
  simp only [shI, Int.toNat_natCast, Nat.min_eq_left hn, fdiv_pow]
theorem shl_ev (k : IntKind) (x : Int) (n : Nat) (hn : n ≤ k.bits) : shI .shl k x (n : Int) = k.wrap (x * 2 ^ n) := by
  simp only [shI, Int.toNat_natCast, Nat.min_eq_left hn]

theorem ofInt_toNat (w : Nat) (x : Int) (h0 : 0 ≤ x) (h1 : x < 2 ^ w) : (BitVec.ofInt w x).toNat = x.toNat := by
  rw [BitVec.toNat_ofInt]
  have : x % ((2 ^ w : Nat) : Int) = x := Int.emod_eq_of_lt h0 (by exact_mod_cast h1)
  rw [this]

/-- `and` with the low n bits. -/
theorem and_low (k : IntKind) (hk : k.signed = false) (x : Int) (n : Nat) (hn : n ≤ k.bits) (h0 : 0 ≤ x) (h1 : x < 2 ^ k.bits) : binI .and k x (2 ^ n - 1) = x % 2 ^ n := by
  have hm : (2 ^ n - 1 : Int) = ((2 ^ n - 1 : Nat) : Int) := by
    rw [Int.natCast_sub Nat.one_le_two_pow]
    simp
  have hlt : (2 ^ n - 1 : Nat) < 2 ^ k.bits := by
    have := Nat.pow_le_pow_right (n := 2) (by decide) hn
    have : 1 ≤ 2 ^ n := Nat.one_le_two_pow
    omega
  obtain ⟨m, rfl⟩ := Int.eq_ofNat_of_zero_le h0
  have hm1 : m < 2 ^ k.bits := by exact_mod_cast h1
  simp only [binI, BitVec.toNat_and]
  rw [ofInt_toNat _ _ h0 h1, hm, ofInt_toNat _ _ (by omega) (by exact_mod_cast hlt)]
  simp only [Int.toNat_natCast, Nat.and_two_pow_sub_one_eq_mod]
  have h3 : m % 2 ^ n ≤ m := Nat.mod_le _ _
  unfold IntKind.wrap
  simp only [hk, Bool.false_and, Bool.false_eq_true, if_false]
  rw [Int.emod_eq_of_lt (by omega) (by have : ((m % 2 ^ n : Nat) : Int) < ((2 ^ k.bits : Nat) : Int) := by exact_mod_cast (by omega : m % 2 ^ n < 2 ^ k.bits)
                                       exact_mod_cast this)]
  simp

theorem nat_and_shift (m a i : Nat) : m &&& (a <<< i) = ((m >>> i) &&& a) <<< i := by
  apply Nat.eq_of_testBit_eq
  intro j
  simp only [Nat.testBit_and, Nat.testBit_shiftLeft, Nat.testBit_shiftRight]
  by_cases h : i ≤ j
  · have e : i + (j - i) = j := by omega
    simp [h, e]
  · simp [h]

/-- `and` with n ones above i zeros. -/
theorem and_mid (k : IntKind) (hk : k.signed = false) (x : Int) (n i : Nat) (hn : n + i ≤ k.bits) (h0 : 0 ≤ x) (h1 : x < 2 ^ k.bits) : binI .and k x (((2 ^ n - 1) * 2 ^ i : Nat) : Int) = x / 2 ^ i % 2 ^ n * 2 ^ i := by
  have hlt : (2 ^ n - 1) * 2 ^ i < 2 ^ k.bits := by
    have h2 : (2 ^ n - 1) * 2 ^ i < 2 ^ n * 2 ^ i := Nat.mul_lt_mul_of_pos_right (by have : 1 ≤ 2 ^ n := Nat.one_le_two_pow; omega) (Nat.pow_pos (by decide))
    rw [← Nat.pow_add] at h2
    exact Nat.lt_of_lt_of_le h2 (Nat.pow_le_pow_right (by decide) hn)
  obtain ⟨m, rfl⟩ := Int.eq_ofNat_of_zero_le h0
  have hm1 : m < 2 ^ k.bits := by exact_mod_cast h1
  simp only [binI, BitVec.toNat_and]
  rw [ofInt_toNat _ _ h0 h1, ofInt_toNat _ _ (by omega) (by exact_mod_cast hlt)]
  simp only [Int.toNat_natCast]
  rw [← Nat.shiftLeft_eq, nat_and_shift, Nat.and_two_pow_sub_one_eq_mod, Nat.shiftLeft_eq, Nat.shiftRight_eq_div_pow]
  have h3 : m / 2 ^ i % 2 ^ n * 2 ^ i ≤ m := Nat.le_trans (Nat.mul_le_mul_right _ (Nat.mod_le _ _)) (Nat.div_mul_le_self _ _)
  unfold IntKind.wrap
  simp only [hk, Bool.false_and, Bool.false_eq_true, if_false]
  rw [Int.emod_eq_of_lt (by omega) (by have : ((m / 2 ^ i % 2 ^ n * 2 ^ i : Nat) : Int) < ((2 ^ k.bits : Nat) : Int) := by exact_mod_cast (by omega : m / 2 ^ i % 2 ^ n * 2 ^ i < 2 ^ k.bits)
                                       exact_mod_cast this)]
  simp

/-- `or` with ones above the number. -/
theorem or_high (x : Int) (w : Nat) (hw : w ≤ 64) (h0 : 0 ≤ x) (h1 : x < 2 ^ w) : binI .or .u64 x ((2 ^ 64 - 2 ^ w : Nat) : Int) = x + ((2 ^ 64 - 2 ^ w : Nat) : Int) := by
  have hp : (2 : Nat) ^ w ≤ 2 ^ 64 := Nat.pow_le_pow_right (by decide) hw
  have hp0 : (0 : Nat) < 2 ^ w := Nat.pow_pos (by decide)
  obtain ⟨m, rfl⟩ := Int.eq_ofNat_of_zero_le h0
  have hm1 : m < 2 ^ w := by exact_mod_cast h1
  have hx : ((m : Nat) : Int) < 2 ^ 64 := by exact_mod_cast Nat.lt_of_lt_of_le hm1 hp
  have hy : ((2 ^ 64 - 2 ^ w : Nat) : Int) < 2 ^ 64 := by
    have : (2 ^ 64 - 2 ^ w : Nat) < 2 ^ 64 := by omega
    exact_mod_cast this
  simp only [binI, BitVec.toNat_or]
  rw [ofInt_toNat IntKind.u64.bits _ h0 hx, ofInt_toNat IntKind.u64.bits _ (by omega) hy]
  simp only [Int.toNat_natCast]
  have e : (2 ^ 64 - 2 ^ w : Nat) = (2 ^ (64 - w) - 1) <<< w := by
    rw [Nat.shiftLeft_eq, Nat.sub_mul, ← Nat.pow_add, Nat.sub_add_cancel hw, Nat.one_mul]
  have e2 : m ||| (2 ^ 64 - 2 ^ w) = (2 ^ 64 - 2 ^ w) + m := by
    rw [e, Nat.or_comm, ← Nat.shiftLeft_add_eq_or_of_lt hm1]
  rw [e2, wrap_u64]
  rw [Int.emod_eq_of_lt (by omega) (by omega)]
  omega
theorem shr_u64_1 (x : Int) : shI .shr .u64 x 1 = x / 2 := shr_ev .u64 x 1 (by decide)
theorem shr_u64_2 (x : Int) : shI .shr .u64 x 2 = x / 4 := shr_ev .u64 x 2 (by decide)
theorem shr_u64_3 (x : Int) : shI .shr .u64 x 3 = x / 8 := shr_ev .u64 x 3 (by decide)
theorem shr_u64_4 (x : Int) : shI .shr .u64 x 4 = x / 16 := shr_ev .u64 x 4 (by decide)
theorem shr_u64_5 (x : Int) : shI .shr .u64 x 5 = x / 32 := shr_ev .u64 x 5 (by decide)
theorem shr_u64_6 (x : Int) : shI .shr .u64 x 6 = x / 64 := shr_ev .u64 x 6 (by decide)
theorem shr_u64_7 (x : Int) : shI .shr .u64 x 7 = x / 128 := shr_ev .u64 x 7 (by decide)
theorem shr_u64_8 (x : Int) : shI .shr .u64 x 8 = x / 256 := shr_ev .u64 x 8 (by decide)
theorem shr_u64_9 (x : Int) : shI .shr .u64 x 9 = x / 512 := shr_ev .u64 x 9 (by decide)
theorem shr_u64_10 (x : Int) : shI .shr .u64 x 10 = x / 1024 := shr_ev .u64 x 10 (by decide)
theorem shr_u64_11 (x : Int) : shI .shr .u64 x 11 = x / 2048 := shr_ev .u64 x 11 (by decide)
theorem shr_u64_12 (x : Int) : shI .shr .u64 x 12 = x / 4096 := shr_ev .u64 x 12 (by decide)
theorem shr_u64_13 (x : Int) : shI .shr .u64 x 13 = x / 8192 := shr_ev .u64 x 13 (by decide)
theorem shr_u64_14 (x : Int) : shI .shr .u64 x 14 = x / 16384 := shr_ev .u64 x 14 (by decide)
theorem shr_u64_15 (x : Int) : shI .shr .u64 x 15 = x / 32768 := shr_ev .u64 x 15 (by decide)
theorem shr_u64_16 (x : Int) : shI .shr .u64 x 16 = x / 65536 := shr_ev .u64 x 16 (by decide)
theorem shr_u64_17 (x : Int) : shI .shr .u64 x 17 = x / 131072 := shr_ev .u64 x 17 (by decide)
theorem shr_u64_18 (x : Int) : shI .shr .u64 x 18 = x / 262144 := shr_ev .u64 x 18 (by decide)
theorem shr_u64_19 (x : Int) : shI .shr .u64 x 19 = x / 524288 := shr_ev .u64 x 19 (by decide)
theorem shr_u64_20 (x : Int) : shI .shr .u64 x 20 = x / 1048576 := shr_ev .u64 x 20 (by decide)
theorem shr_u64_21 (x : Int) : shI .shr .u64 x 21 = x / 2097152 := shr_ev .u64 x 21 (by decide)
theorem shr_u64_22 (x : Int) : shI .shr .u64 x 22 = x / 4194304 := shr_ev .u64 x 22 (by decide)
theorem shr_u64_23 (x : Int) : shI .shr .u64 x 23 = x / 8388608 := shr_ev .u64 x 23 (by decide)
theorem shr_u64_24 (x : Int) : shI .shr .u64 x 24 = x / 16777216 := shr_ev .u64 x 24 (by decide)
theorem shr_u64_25 (x : Int) : shI .shr .u64 x 25 = x / 33554432 := shr_ev .u64 x 25 (by decide)
theorem shr_u64_26 (x : Int) : shI .shr .u64 x 26 = x / 67108864 := shr_ev .u64 x 26 (by decide)
theorem shr_u64_27 (x : Int) : shI .shr .u64 x 27 = x / 134217728 := shr_ev .u64 x 27 (by decide)
theorem shr_u64_28 (x : Int) : shI .shr .u64 x 28 = x / 268435456 := shr_ev .u64 x 28 (by decide)
theorem shr_u64_29 (x : Int) : shI .shr .u64 x 29 = x / 536870912 := shr_ev .u64 x 29 (by decide)
theorem shr_u64_30 (x : Int) : shI .shr .u64 x 30 = x / 1073741824 := shr_ev .u64 x 30 (by decide)
theorem shr_u64_31 (x : Int) : shI .shr .u64 x 31 = x / 2147483648 := shr_ev .u64 x 31 (by decide)
theorem shr_u64_32 (x : Int) : shI .shr .u64 x 32 = x / 4294967296 := shr_ev .u64 x 32 (by decide)
theorem shr_u64_33 (x : Int) : shI .shr .u64 x 33 = x / 8589934592 := shr_ev .u64 x 33 (by decide)
theorem shr_u64_34 (x : Int) : shI .shr .u64 x 34 = x / 17179869184 := shr_ev .u64 x 34 (by decide)
theorem shr_u64_35 (x : Int) : shI .shr .u64 x 35 = x / 34359738368 := shr_ev .u64 x 35 (by decide)
theorem shr_u64_36 (x : Int) : shI .shr .u64 x 36 = x / 68719476736 := shr_ev .u64 x 36 (by decide)
theorem shr_u64_37 (x : Int) : shI .shr .u64 x 37 = x / 137438953472 := shr_ev .u64 x 37 (by decide)
theorem shr_u64_38 (x : Int) : shI .shr .u64 x 38 = x / 274877906944 := shr_ev .u64 x 38 (by decide)
theorem shr_u64_39 (x : Int) : shI .shr .u64 x 39 = x / 549755813888 := shr_ev .u64 x 39 (by decide)
theorem shr_u64_40 (x : Int) : shI .shr .u64 x 40 = x / 1099511627776 := shr_ev .u64 x 40 (by decide)
theorem shr_u64_41 (x : Int) : shI .shr .u64 x 41 = x / 2199023255552 := shr_ev .u64 x 41 (by decide)
theorem shr_u64_42 (x : Int) : shI .shr .u64 x 42 = x / 4398046511104 := shr_ev .u64 x 42 (by decide)
theorem shr_u64_43 (x : Int) : shI .shr .u64 x 43 = x / 8796093022208 := shr_ev .u64 x 43 (by decide)
theorem shr_u64_44 (x : Int) : shI .shr .u64 x 44 = x / 17592186044416 := shr_ev .u64 x 44 (by decide)
theorem shr_u64_45 (x : Int) : shI .shr .u64 x 45 = x / 35184372088832 := shr_ev .u64 x 45 (by decide)
theorem shr_u64_46 (x : Int) : shI .shr .u64 x 46 = x / 70368744177664 := shr_ev .u64 x 46 (by decide)
theorem shr_u64_47 (x : Int) : shI .shr .u64 x 47 = x / 140737488355328 := shr_ev .u64 x 47 (by decide)
theorem shr_u64_48 (x : Int) : shI .shr .u64 x 48 = x / 281474976710656 := shr_ev .u64 x 48 (by decide)
theorem shr_u64_49 (x : Int) : shI .shr .u64 x 49 = x / 562949953421312 := shr_ev .u64 x 49 (by decide)
theorem shr_u64_50 (x : Int) : shI .shr .u64 x 50 = x / 1125899906842624 := shr_ev .u64 x 50 (by decide)
theorem shr_u64_51 (x : Int) : shI .shr .u64 x 51 = x / 2251799813685248 := shr_ev .u64 x 51 (by decide)
theorem shr_u64_52 (x : Int) : shI .shr .u64 x 52 = x / 4503599627370496 := shr_ev .u64 x 52 (by decide)
theorem shr_u64_53 (x : Int) : shI .shr .u64 x 53 = x / 9007199254740992 := shr_ev .u64 x 53 (by decide)
theorem shr_u64_54 (x : Int) : shI .shr .u64 x 54 = x / 18014398509481984 := shr_ev .u64 x 54 (by decide)
theorem shr_u64_55 (x : Int) : shI .shr .u64 x 55 = x / 36028797018963968 := shr_ev .u64 x 55 (by decide)
theorem shr_u64_56 (x : Int) : shI .shr .u64 x 56 = x / 72057594037927936 := shr_ev .u64 x 56 (by decide)
theorem shr_u64_57 (x : Int) : shI .shr .u64 x 57 = x / 144115188075855872 := shr_ev .u64 x 57 (by decide)
theorem shr_u64_58 (x : Int) : shI .shr .u64 x 58 = x / 288230376151711744 := shr_ev .u64 x 58 (by decide)
theorem shr_u64_59 (x : Int) : shI .shr .u64 x 59 = x / 576460752303423488 := shr_ev .u64 x 59 (by decide)
theorem shr_u64_60 (x : Int) : shI .shr .u64 x 60 = x / 1152921504606846976 := shr_ev .u64 x 60 (by decide)
theorem shr_u64_61 (x : Int) : shI .shr .u64 x 61 = x / 2305843009213693952 := shr_ev .u64 x 61 (by decide)
theorem shr_u64_62 (x : Int) : shI .shr .u64 x 62 = x / 4611686018427387904 := shr_ev .u64 x 62 (by decide)
theorem shr_u64_63 (x : Int) : shI .shr .u64 x 63 = x / 9223372036854775808 := shr_ev .u64 x 63 (by decide)
theorem shr_u64_64 (x : Int) : shI .shr .u64 x 64 = x / 18446744073709551616 := shr_ev .u64 x 64 (by decide)
theorem shr_i64_1 (x : Int) : shI .shr .i64 x 1 = x / 2 := shr_ev .i64 x 1 (by decide)
theorem shr_i64_2 (x : Int) : shI .shr .i64 x 2 = x / 4 := shr_ev .i64 x 2 (by decide)
theorem shr_i64_3 (x : Int) : shI .shr .i64 x 3 = x / 8 := shr_ev .i64 x 3 (by decide)
theorem shr_i64_4 (x : Int) : shI .shr .i64 x 4 = x / 16 := shr_ev .i64 x 4 (by decide)
theorem shr_i64_5 (x : Int) : shI .shr .i64 x 5 = x / 32 := shr_ev .i64 x 5 (by decide)
theorem shr_i64_6 (x : Int) : shI .shr .i64 x 6 = x / 64 := shr_ev .i64 x 6 (by decide)
theorem shr_i64_7 (x : Int) : shI .shr .i64 x 7 = x / 128 := shr_ev .i64 x 7 (by decide)
theorem shr_i64_8 (x : Int) : shI .shr .i64 x 8 = x / 256 := shr_ev .i64 x 8 (by decide)
theorem shr_i64_9 (x : Int) : shI .shr .i64 x 9 = x / 512 := shr_ev .i64 x 9 (by decide)
theorem shr_i64_10 (x : Int) : shI .shr .i64 x 10 = x / 1024 := shr_ev .i64 x 10 (by decide)
theorem shr_i64_11 (x : Int) : shI .shr .i64 x 11 = x / 2048 := shr_ev .i64 x 11 (by decide)
theorem shr_i64_12 (x : Int) : shI .shr .i64 x 12 = x / 4096 := shr_ev .i64 x 12 (by decide)
theorem shr_i64_13 (x : Int) : shI .shr .i64 x 13 = x / 8192 := shr_ev .i64 x 13 (by decide)
theorem shr_i64_14 (x : Int) : shI .shr .i64 x 14 = x / 16384 := shr_ev .i64 x 14 (by decide)
theorem shr_i64_15 (x : Int) : shI .shr .i64 x 15 = x / 32768 := shr_ev .i64 x 15 (by decide)
theorem shr_i64_16 (x : Int) : shI .shr .i64 x 16 = x / 65536 := shr_ev .i64 x 16 (by decide)
theorem shr_i64_17 (x : Int) : shI .shr .i64 x 17 = x / 131072 := shr_ev .i64 x 17 (by decide)
theorem shr_i64_18 (x : Int) : shI .shr .i64 x 18 = x / 262144 := shr_ev .i64 x 18 (by decide)
theorem shr_i64_19 (x : Int) : shI .shr .i64 x 19 = x / 524288 := shr_ev .i64 x 19 (by decide)
theorem shr_i64_20 (x : Int) : shI .shr .i64 x 20 = x / 1048576 := shr_ev .i64 x 20 (by decide)
theorem shr_i64_21 (x : Int) : shI .shr .i64 x 21 = x / 2097152 := shr_ev .i64 x 21 (by decide)
theorem shr_i64_22 (x : Int) : shI .shr .i64 x 22 = x / 4194304 := shr_ev .i64 x 22 (by decide)
theorem shr_i64_23 (x : Int) : shI .shr .i64 x 23 = x / 8388608 := shr_ev .i64 x 23 (by decide)
theorem shr_i64_24 (x : Int) : shI .shr .i64 x 24 = x / 16777216 := shr_ev .i64 x 24 (by decide)
theorem shr_i64_25 (x : Int) : shI .shr .i64 x 25 = x / 33554432 := shr_ev .i64 x 25 (by decide)
theorem shr_i64_26 (x : Int) : shI .shr .i64 x 26 = x / 67108864 := shr_ev .i64 x 26 (by decide)
theorem shr_i64_27 (x : Int) : shI .shr .i64 x 27 = x / 134217728 := shr_ev .i64 x 27 (by decide)
theorem shr_i64_28 (x : Int) : shI .shr .i64 x 28 = x / 268435456 := shr_ev .i64 x 28 (by decide)
theorem shr_i64_29 (x : Int) : shI .shr .i64 x 29 = x / 536870912 := shr_ev .i64 x 29 (by decide)
theorem shr_i64_30 (x : Int) : shI .shr .i64 x 30 = x / 1073741824 := shr_ev .i64 x 30 (by decide)
theorem shr_i64_31 (x : Int) : shI .shr .i64 x 31 = x / 2147483648 := shr_ev .i64 x 31 (by decide)
theorem shr_i64_32 (x : Int) : shI .shr .i64 x 32 = x / 4294967296 := shr_ev .i64 x 32 (by decide)
theorem shr_i64_33 (x : Int) : shI .shr .i64 x 33 = x / 8589934592 := shr_ev .i64 x 33 (by decide)
theorem shr_i64_34 (x : Int) : shI .shr .i64 x 34 = x / 17179869184 := shr_ev .i64 x 34 (by decide)
theorem shr_i64_35 (x : Int) : shI .shr .i64 x 35 = x / 34359738368 := shr_ev .i64 x 35 (by decide)
theorem shr_i64_36 (x : Int) : shI .shr .i64 x 36 = x / 68719476736 := shr_ev .i64 x 36 (by decide)
theorem shr_i64_37 (x : Int) : shI .shr .i64 x 37 = x / 137438953472 := shr_ev .i64 x 37 (by decide)
theorem shr_i64_38 (x : Int) : shI .shr .i64 x 38 = x / 274877906944 := shr_ev .i64 x 38 (by decide)
theorem shr_i64_39 (x : Int) : shI .shr .i64 x 39 = x / 549755813888 := shr_ev .i64 x 39 (by decide)
theorem shr_i64_40 (x : Int) : shI .shr .i64 x 40 = x / 1099511627776 := shr_ev .i64 x 40 (by decide)
theorem shr_i64_41 (x : Int) : shI .shr .i64 x 41 = x / 2199023255552 := shr_ev .i64 x 41 (by decide)
theorem shr_i64_42 (x : Int) : shI .shr .i64 x 42 = x / 4398046511104 := shr_ev .i64 x 42 (by decide)
theorem shr_i64_43 (x : Int) : shI .shr .i64 x 43 = x / 8796093022208 := shr_ev .i64 x 43 (by decide)
theorem shr_i64_44 (x : Int) : shI .shr .i64 x 44 = x / 17592186044416 := shr_ev .i64 x 44 (by decide)
theorem shr_i64_45 (x : Int) : shI .shr .i64 x 45 = x / 35184372088832 := shr_ev .i64 x 45 (by decide)
theorem shr_i64_46 (x : Int) : shI .shr .i64 x 46 = x / 70368744177664 := shr_ev .i64 x 46 (by decide)
theorem shr_i64_47 (x : Int) : shI .shr .i64 x 47 = x / 140737488355328 := shr_ev .i64 x 47 (by decide)
theorem shr_i64_48 (x : Int) : shI .shr .i64 x 48 = x / 281474976710656 := shr_ev .i64 x 48 (by decide)
theorem shr_i64_49 (x : Int) : shI .shr .i64 x 49 = x / 562949953421312 := shr_ev .i64 x 49 (by decide)
theorem shr_i64_50 (x : Int) : shI .shr .i64 x 50 = x / 1125899906842624 := shr_ev .i64 x 50 (by decide)
theorem shr_i64_51 (x : Int) : shI .shr .i64 x 51 = x / 2251799813685248 := shr_ev .i64 x 51 (by decide)
theorem shr_i64_52 (x : Int) : shI .shr .i64 x 52 = x / 4503599627370496 := shr_ev .i64 x 52 (by decide)
theorem shr_i64_53 (x : Int) : shI .shr .i64 x 53 = x / 9007199254740992 := shr_ev .i64 x 53 (by decide)
theorem shr_i64_54 (x : Int) : shI .shr .i64 x 54 = x / 18014398509481984 := shr_ev .i64 x 54 (by decide)
theorem shr_i64_55 (x : Int) : shI .shr .i64 x 55 = x / 36028797018963968 := shr_ev .i64 x 55 (by decide)
theorem shr_i64_56 (x : Int) : shI .shr .i64 x 56 = x / 72057594037927936 := shr_ev .i64 x 56 (by decide)
theorem shr_i64_57 (x : Int) : shI .shr .i64 x 57 = x / 144115188075855872 := shr_ev .i64 x 57 (by decide)
theorem shr_i64_58 (x : Int) : shI .shr .i64 x 58 = x / 288230376151711744 := shr_ev .i64 x 58 (by decide)
theorem shr_i64_59 (x : Int) : shI .shr .i64 x 59 = x / 576460752303423488 := shr_ev .i64 x 59 (by decide)
theorem shr_i64_60 (x : Int) : shI .shr .i64 x 60 = x / 1152921504606846976 := shr_ev .i64 x 60 (by decide)
theorem shr_i64_61 (x : Int) : shI .shr .i64 x 61 = x / 2305843009213693952 := shr_ev .i64 x 61 (by decide)
theorem shr_i64_62 (x : Int) : shI .shr .i64 x 62 = x / 4611686018427387904 := shr_ev .i64 x 62 (by decide)
theorem shr_i64_63 (x : Int) : shI .shr .i64 x 63 = x / 9223372036854775808 := shr_ev .i64 x 63 (by decide)
theorem shr_i64_64 (x : Int) : shI .shr .i64 x 64 = x / 18446744073709551616 := shr_ev .i64 x 64 (by decide)
theorem shr_u32_1 (x : Int) : shI .shr .u32 x 1 = x / 2 := shr_ev .u32 x 1 (by decide)
theorem shr_u32_2 (x : Int) : shI .shr .u32 x 2 = x / 4 := shr_ev .u32 x 2 (by decide)
theorem shr_u32_3 (x : Int) : shI .shr .u32 x 3 = x / 8 := shr_ev .u32 x 3 (by decide)
theorem shr_u32_4 (x : Int) : shI .shr .u32 x 4 = x / 16 := shr_ev .u32 x 4 (by decide)
theorem shr_u32_5 (x : Int) : shI .shr .u32 x 5 = x / 32 := shr_ev .u32 x 5 (by decide)
theorem shr_u32_6 (x : Int) : shI .shr .u32 x 6 = x / 64 := shr_ev .u32 x 6 (by decide)
theorem shr_u32_7 (x : Int) : shI .shr .u32 x 7 = x / 128 := shr_ev .u32 x 7 (by decide)
theorem shr_u32_8 (x : Int) : shI .shr .u32 x 8 = x / 256 := shr_ev .u32 x 8 (by decide)
theorem shr_u32_9 (x : Int) : shI .shr .u32 x 9 = x / 512 := shr_ev .u32 x 9 (by decide)
theorem shr_u32_10 (x : Int) : shI .shr .u32 x 10 = x / 1024 := shr_ev .u32 x 10 (by decide)
theorem shr_u32_11 (x : Int) : shI .shr .u32 x 11 = x / 2048 := shr_ev .u32 x 11 (by decide)
theorem shr_u32_12 (x : Int) : shI .shr .u32 x 12 = x / 4096 := shr_ev .u32 x 12 (by decide)
theorem shr_u32_13 (x : Int) : shI .shr .u32 x 13 = x / 8192 := shr_ev .u32 x 13 (by decide)
theorem shr_u32_14 (x : Int) : shI .shr .u32 x 14 = x / 16384 := shr_ev .u32 x 14 (by decide)
theorem shr_u32_15 (x : Int) : shI .shr .u32 x 15 = x / 32768 := shr_ev .u32 x 15 (by decide)
theorem shr_u32_16 (x : Int) : shI .shr .u32 x 16 = x / 65536 := shr_ev .u32 x 16 (by decide)
theorem shr_u32_17 (x : Int) : shI .shr .u32 x 17 = x / 131072 := shr_ev .u32 x 17 (by decide)
theorem shr_u32_18 (x : Int) : shI .shr .u32 x 18 = x / 262144 := shr_ev .u32 x 18 (by decide)
theorem shr_u32_19 (x : Int) : shI .shr .u32 x 19 = x / 524288 := shr_ev .u32 x 19 (by decide)
theorem shr_u32_20 (x : Int) : shI .shr .u32 x 20 = x / 1048576 := shr_ev .u32 x 20 (by decide)
theorem shr_u32_21 (x : Int) : shI .shr .u32 x 21 = x / 2097152 := shr_ev .u32 x 21 (by decide)
theorem shr_u32_22 (x : Int) : shI .shr .u32 x 22 = x / 4194304 := shr_ev .u32 x 22 (by decide)
theorem shr_u32_23 (x : Int) : shI .shr .u32 x 23 = x / 8388608 := shr_ev .u32 x 23 (by decide)
theorem shr_u32_24 (x : Int) : shI .shr .u32 x 24 = x / 16777216 := shr_ev .u32 x 24 (by decide)
theorem shr_u32_25 (x : Int) : shI .shr .u32 x 25 = x / 33554432 := shr_ev .u32 x 25 (by decide)
theorem shr_u32_26 (x : Int) : shI .shr .u32 x 26 = x / 67108864 := shr_ev .u32 x 26 (by decide)
theorem shr_u32_27 (x : Int) : shI .shr .u32 x 27 = x / 134217728 := shr_ev .u32 x 27 (by decide)
theorem shr_u32_28 (x : Int) : shI .shr .u32 x 28 = x / 268435456 := shr_ev .u32 x 28 (by decide)
theorem shr_u32_29 (x : Int) : shI .shr .u32 x 29 = x / 536870912 := shr_ev .u32 x 29 (by decide)
theorem shr_u32_30 (x : Int) : shI .shr .u32 x 30 = x / 1073741824 := shr_ev .u32 x 30 (by decide)
theorem shr_u32_31 (x : Int) : shI .shr .u32 x 31 = x / 2147483648 := shr_ev .u32 x 31 (by decide)
theorem shr_u32_32 (x : Int) : shI .shr .u32 x 32 = x / 4294967296 := shr_ev .u32 x 32 (by decide)
theorem shl_u64_1 (x : Int) : shI .shl .u64 x 1 = IntKind.wrap .u64 (x * 2) := shl_ev .u64 x 1 (by decide)
theorem shl_u64_2 (x : Int) : shI .shl .u64 x 2 = IntKind.wrap .u64 (x * 4) := shl_ev .u64 x 2 (by decide)
theorem shl_u64_3 (x : Int) : shI .shl .u64 x 3 = IntKind.wrap .u64 (x * 8) := shl_ev .u64 x 3 (by decide)
theorem shl_u64_4 (x : Int) : shI .shl .u64 x 4 = IntKind.wrap .u64 (x * 16) := shl_ev .u64 x 4 (by decide)
theorem shl_u64_5 (x : Int) : shI .shl .u64 x 5 = IntKind.wrap .u64 (x * 32) := shl_ev .u64 x 5 (by decide)
theorem shl_u64_6 (x : Int) : shI .shl .u64 x 6 = IntKind.wrap .u64 (x * 64) := shl_ev .u64 x 6 (by decide)
theorem shl_u64_7 (x : Int) : shI .shl .u64 x 7 = IntKind.wrap .u64 (x * 128) := shl_ev .u64 x 7 (by decide)
theorem shl_u64_8 (x : Int) : shI .shl .u64 x 8 = IntKind.wrap .u64 (x * 256) := shl_ev .u64 x 8 (by decide)
theorem shl_u64_9 (x : Int) : shI .shl .u64 x 9 = IntKind.wrap .u64 (x * 512) := shl_ev .u64 x 9 (by decide)
theorem shl_u64_10 (x : Int) : shI .shl .u64 x 10 = IntKind.wrap .u64 (x * 1024) := shl_ev .u64 x 10 (by decide)
theorem shl_u64_11 (x : Int) : shI .shl .u64 x 11 = IntKind.wrap .u64 (x * 2048) := shl_ev .u64 x 11 (by decide)
theorem shl_u64_12 (x : Int) : shI .shl .u64 x 12 = IntKind.wrap .u64 (x * 4096) := shl_ev .u64 x 12 (by decide)
theorem shl_u64_13 (x : Int) : shI .shl .u64 x 13 = IntKind.wrap .u64 (x * 8192) := shl_ev .u64 x 13 (by decide)
theorem shl_u64_14 (x : Int) : shI .shl .u64 x 14 = IntKind.wrap .u64 (x * 16384) := shl_ev .u64 x 14 (by decide)
theorem shl_u64_15 (x : Int) : shI .shl .u64 x 15 = IntKind.wrap .u64 (x * 32768) := shl_ev .u64 x 15 (by decide)
theorem shl_u64_16 (x : Int) : shI .shl .u64 x 16 = IntKind.wrap .u64 (x * 65536) := shl_ev .u64 x 16 (by decide)
theorem shl_u64_17 (x : Int) : shI .shl .u64 x 17 = IntKind.wrap .u64 (x * 131072) := shl_ev .u64 x 17 (by decide)
theorem shl_u64_18 (x : Int) : shI .shl .u64 x 18 = IntKind.wrap .u64 (x * 262144) := shl_ev .u64 x 18 (by decide)
theorem shl_u64_19 (x : Int) : shI .shl .u64 x 19 = IntKind.wrap .u64 (x * 524288) := shl_ev .u64 x 19 (by decide)
theorem shl_u64_20 (x : Int) : shI .shl .u64 x 20 = IntKind.wrap .u64 (x * 1048576) := shl_ev .u64 x 20 (by decide)
theorem shl_u64_21 (x : Int) : shI .shl .u64 x 21 = IntKind.wrap .u64 (x * 2097152) := shl_ev .u64 x 21 (by decide)
theorem shl_u64_22 (x : Int) : shI .shl .u64 x 22 = IntKind.wrap .u64 (x * 4194304) := shl_ev .u64 x 22 (by decide)
theorem shl_u64_23 (x : Int) : shI .shl .u64 x 23 = IntKind.wrap .u64 (x * 8388608) := shl_ev .u64 x 23 (by decide)
theorem shl_u64_24 (x : Int) : shI .shl .u64 x 24 = IntKind.wrap .u64 (x * 16777216) := shl_ev .u64 x 24 (by decide)
theorem shl_u64_25 (x : Int) : shI .shl .u64 x 25 = IntKind.wrap .u64 (x * 33554432) := shl_ev .u64 x 25 (by decide)
theorem shl_u64_26 (x : Int) : shI .shl .u64 x 26 = IntKind.wrap .u64 (x * 67108864) := shl_ev .u64 x 26 (by decide)
theorem shl_u64_27 (x : Int) : shI .shl .u64 x 27 = IntKind.wrap .u64 (x * 134217728) := shl_ev .u64 x 27 (by decide)
theorem shl_u64_28 (x : Int) : shI .shl .u64 x 28 = IntKind.wrap .u64 (x * 268435456) := shl_ev .u64 x 28 (by decide)
theorem shl_u64_29 (x : Int) : shI .shl .u64 x 29 = IntKind.wrap .u64 (x * 536870912) := shl_ev .u64 x 29 (by decide)
theorem shl_u64_30 (x : Int) : shI .shl .u64 x 30 = IntKind.wrap .u64 (x * 1073741824) := shl_ev .u64 x 30 (by decide)
theorem shl_u64_31 (x : Int) : shI .shl .u64 x 31 = IntKind.wrap .u64 (x * 2147483648) := shl_ev .u64 x 31 (by decide)
theorem shl_u64_32 (x : Int) : shI .shl .u64 x 32 = IntKind.wrap .u64 (x * 4294967296) := shl_ev .u64 x 32 (by decide)
theorem shl_u64_33 (x : Int) : shI .shl .u64 x 33 = IntKind.wrap .u64 (x * 8589934592) := shl_ev .u64 x 33 (by decide)
theorem shl_u64_34 (x : Int) : shI .shl .u64 x 34 = IntKind.wrap .u64 (x * 17179869184) := shl_ev .u64 x 34 (by decide)
theorem shl_u64_35 (x : Int) : shI .shl .u64 x 35 = IntKind.wrap .u64 (x * 34359738368) := shl_ev .u64 x 35 (by decide)
theorem shl_u64_36 (x : Int) : shI .shl .u64 x 36 = IntKind.wrap .u64 (x * 68719476736) := shl_ev .u64 x 36 (by decide)
theorem shl_u64_37 (x : Int) : shI .shl .u64 x 37 = IntKind.wrap .u64 (x * 137438953472) := shl_ev .u64 x 37 (by decide)
theorem shl_u64_38 (x : Int) : shI .shl .u64 x 38 = IntKind.wrap .u64 (x * 274877906944) := shl_ev .u64 x 38 (by decide)
theorem shl_u64_39 (x : Int) : shI .shl .u64 x 39 = IntKind.wrap .u64 (x * 549755813888) := shl_ev .u64 x 39 (by decide)
theorem shl_u64_40 (x : Int) : shI .shl .u64 x 40 = IntKind.wrap .u64 (x * 1099511627776) := shl_ev .u64 x 40 (by decide)
theorem shl_u64_41 (x : Int) : shI .shl .u64 x 41 = IntKind.wrap .u64 (x * 2199023255552) := shl_ev .u64 x 41 (by decide)
theorem shl_u64_42 (x : Int) : shI .shl .u64 x 42 = IntKind.wrap .u64 (x * 4398046511104) := shl_ev .u64 x 42 (by decide)
theorem shl_u64_43 (x : Int) : shI .shl .u64 x 43 = IntKind.wrap .u64 (x * 8796093022208) := shl_ev .u64 x 43 (by decide)
theorem shl_u64_44 (x : Int) : shI .shl .u64 x 44 = IntKind.wrap .u64 (x * 17592186044416) := shl_ev .u64 x 44 (by decide)
theorem shl_u64_45 (x : Int) : shI .shl .u64 x 45 = IntKind.wrap .u64 (x * 35184372088832) := shl_ev .u64 x 45 (by decide)
theorem shl_u64_46 (x : Int) : shI .shl .u64 x 46 = IntKind.wrap .u64 (x * 70368744177664) := shl_ev .u64 x 46 (by decide)
theorem shl_u64_47 (x : Int) : shI .shl .u64 x 47 = IntKind.wrap .u64 (x * 140737488355328) := shl_ev .u64 x 47 (by decide)
theorem shl_u64_48 (x : Int) : shI .shl .u64 x 48 = IntKind.wrap .u64 (x * 281474976710656) := shl_ev .u64 x 48 (by decide)
theorem shl_u64_49 (x : Int) : shI .shl .u64 x 49 = IntKind.wrap .u64 (x * 562949953421312) := shl_ev .u64 x 49 (by decide)
theorem shl_u64_50 (x : Int) : shI .shl .u64 x 50 = IntKind.wrap .u64 (x * 1125899906842624) := shl_ev .u64 x 50 (by decide)
theorem shl_u64_51 (x : Int) : shI .shl .u64 x 51 = IntKind.wrap .u64 (x * 2251799813685248) := shl_ev .u64 x 51 (by decide)
theorem shl_u64_52 (x : Int) : shI .shl .u64 x 52 = IntKind.wrap .u64 (x * 4503599627370496) := shl_ev .u64 x 52 (by decide)
theorem shl_u64_53 (x : Int) : shI .shl .u64 x 53 = IntKind.wrap .u64 (x * 9007199254740992) := shl_ev .u64 x 53 (by decide)
theorem shl_u64_54 (x : Int) : shI .shl .u64 x 54 = IntKind.wrap .u64 (x * 18014398509481984) := shl_ev .u64 x 54 (by decide)
theorem shl_u64_55 (x : Int) : shI .shl .u64 x 55 = IntKind.wrap .u64 (x * 36028797018963968) := shl_ev .u64 x 55 (by decide)
theorem shl_u64_56 (x : Int) : shI .shl .u64 x 56 = IntKind.wrap .u64 (x * 72057594037927936) := shl_ev .u64 x 56 (by decide)
theorem shl_u64_57 (x : Int) : shI .shl .u64 x 57 = IntKind.wrap .u64 (x * 144115188075855872) := shl_ev .u64 x 57 (by decide)
theorem shl_u64_58 (x : Int) : shI .shl .u64 x 58 = IntKind.wrap .u64 (x * 288230376151711744) := shl_ev .u64 x 58 (by decide)
theorem shl_u64_59 (x : Int) : shI .shl .u64 x 59 = IntKind.wrap .u64 (x * 576460752303423488) := shl_ev .u64 x 59 (by decide)
theorem shl_u64_60 (x : Int) : shI .shl .u64 x 60 = IntKind.wrap .u64 (x * 1152921504606846976) := shl_ev .u64 x 60 (by decide)
theorem shl_u64_61 (x : Int) : shI .shl .u64 x 61 = IntKind.wrap .u64 (x * 2305843009213693952) := shl_ev .u64 x 61 (by decide)
theorem shl_u64_62 (x : Int) : shI .shl .u64 x 62 = IntKind.wrap .u64 (x * 4611686018427387904) := shl_ev .u64 x 62 (by decide)
theorem shl_u64_63 (x : Int) : shI .shl .u64 x 63 = IntKind.wrap .u64 (x * 9223372036854775808) := shl_ev .u64 x 63 (by decide)
theorem shl_u64_64 (x : Int) : shI .shl .u64 x 64 = IntKind.wrap .u64 (x * 18446744073709551616) := shl_ev .u64 x 64 (by decide)
theorem shl_u64_0 (x : Int) : shI .shl .u64 x 0 = IntKind.wrap .u64 (x * 1) := shl_ev .u64 x 0 (by decide)
theorem shr_u64_0 (x : Int) : shI .shr .u64 x 0 = x / 1 := shr_ev .u64 x 0 (by decide)
theorem shl_i64_1 (x : Int) : shI .shl .i64 x 1 = IntKind.wrap .i64 (x * 2) := shl_ev .i64 x 1 (by decide)
theorem shl_i64_2 (x : Int) : shI .shl .i64 x 2 = IntKind.wrap .i64 (x * 4) := shl_ev .i64 x 2 (by decide)
theorem shl_i64_3 (x : Int) : shI .shl .i64 x 3 = IntKind.wrap .i64 (x * 8) := shl_ev .i64 x 3 (by decide)
theorem shl_i64_4 (x : Int) : shI .shl .i64 x 4 = IntKind.wrap .i64 (x * 16) := shl_ev .i64 x 4 (by decide)
theorem shl_i64_5 (x : Int) : shI .shl .i64 x 5 = IntKind.wrap .i64 (x * 32) := shl_ev .i64 x 5 (by decide)
theorem shl_i64_6 (x : Int) : shI .shl .i64 x 6 = IntKind.wrap .i64 (x * 64) := shl_ev .i64 x 6 (by decide)
theorem shl_i64_7 (x : Int) : shI .shl .i64 x 7 = IntKind.wrap .i64 (x * 128) := shl_ev .i64 x 7 (by decide)
theorem shl_i64_8 (x : Int) : shI .shl .i64 x 8 = IntKind.wrap .i64 (x * 256) := shl_ev .i64 x 8 (by decide)
theorem shl_i64_9 (x : Int) : shI .shl .i64 x 9 = IntKind.wrap .i64 (x * 512) := shl_ev .i64 x 9 (by decide)
theorem shl_i64_10 (x : Int) : shI .shl .i64 x 10 = IntKind.wrap .i64 (x * 1024) := shl_ev .i64 x 10 (by decide)
theorem shl_i64_11 (x : Int) : shI .shl .i64 x 11 = IntKind.wrap .i64 (x * 2048) := shl_ev .i64 x 11 (by decide)
theorem shl_i64_12 (x : Int) : shI .shl .i64 x 12 = IntKind.wrap .i64 (x * 4096) := shl_ev .i64 x 12 (by decide)
theorem shl_i64_13 (x : Int) : shI .shl .i64 x 13 = IntKind.wrap .i64 (x * 8192) := shl_ev .i64 x 13 (by decide)
theorem shl_i64_14 (x : Int) : shI .shl .i64 x 14 = IntKind.wrap .i64 (x * 16384) := shl_ev .i64 x 14 (by decide)
theorem shl_i64_15 (x : Int) : shI .shl .i64 x 15 = IntKind.wrap .i64 (x * 32768) := shl_ev .i64 x 15 (by decide)
theorem shl_i64_16 (x : Int) : shI .shl .i64 x 16 = IntKind.wrap .i64 (x * 65536) := shl_ev .i64 x 16 (by decide)
theorem shl_i64_17 (x : Int) : shI .shl .i64 x 17 = IntKind.wrap .i64 (x * 131072) := shl_ev .i64 x 17 (by decide)
theorem shl_i64_18 (x : Int) : shI .shl .i64 x 18 = IntKind.wrap .i64 (x * 262144) := shl_ev .i64 x 18 (by decide)
theorem shl_i64_19 (x : Int) : shI .shl .i64 x 19 = IntKind.wrap .i64 (x * 524288) := shl_ev .i64 x 19 (by decide)
theorem shl_i64_20 (x : Int) : shI .shl .i64 x 20 = IntKind.wrap .i64 (x * 1048576) := shl_ev .i64 x 20 (by decide)
theorem shl_i64_21 (x : Int) : shI .shl .i64 x 21 = IntKind.wrap .i64 (x * 2097152) := shl_ev .i64 x 21 (by decide)
theorem shl_i64_22 (x : Int) : shI .shl .i64 x 22 = IntKind.wrap .i64 (x * 4194304) := shl_ev .i64 x 22 (by decide)
theorem shl_i64_23 (x : Int) : shI .shl .i64 x 23 = IntKind.wrap .i64 (x * 8388608) := shl_ev .i64 x 23 (by decide)
theorem shl_i64_24 (x : Int) : shI .shl .i64 x 24 = IntKind.wrap .i64 (x * 16777216) := shl_ev .i64 x 24 (by decide)
theorem shl_i64_25 (x : Int) : shI .shl .i64 x 25 = IntKind.wrap .i64 (x * 33554432) := shl_ev .i64 x 25 (by decide)
theorem shl_i64_26 (x : Int) : shI .shl .i64 x 26 = IntKind.wrap .i64 (x * 67108864) := shl_ev .i64 x 26 (by decide)
theorem shl_i64_27 (x : Int) : shI .shl .i64 x 27 = IntKind.wrap .i64 (x * 134217728) := shl_ev .i64 x 27 (by decide)
theorem shl_i64_28 (x : Int) : shI .shl .i64 x 28 = IntKind.wrap .i64 (x * 268435456) := shl_ev .i64 x 28 (by decide)
theorem shl_i64_29 (x : Int) : shI .shl .i64 x 29 = IntKind.wrap .i64 (x * 536870912) := shl_ev .i64 x 29 (by decide)
theorem shl_i64_30 (x : Int) : shI .shl .i64 x 30 = IntKind.wrap .i64 (x * 1073741824) := shl_ev .i64 x 30 (by decide)
theorem shl_i64_31 (x : Int) : shI .shl .i64 x 31 = IntKind.wrap .i64 (x * 2147483648) := shl_ev .i64 x 31 (by decide)
theorem shl_i64_32 (x : Int) : shI .shl .i64 x 32 = IntKind.wrap .i64 (x * 4294967296) := shl_ev .i64 x 32 (by decide)
theorem shl_i64_33 (x : Int) : shI .shl .i64 x 33 = IntKind.wrap .i64 (x * 8589934592) := shl_ev .i64 x 33 (by decide)
theorem shl_i64_34 (x : Int) : shI .shl .i64 x 34 = IntKind.wrap .i64 (x * 17179869184) := shl_ev .i64 x 34 (by decide)
theorem shl_i64_35 (x : Int) : shI .shl .i64 x 35 = IntKind.wrap .i64 (x * 34359738368) := shl_ev .i64 x 35 (by decide)
theorem shl_i64_36 (x : Int) : shI .shl .i64 x 36 = IntKind.wrap .i64 (x * 68719476736) := shl_ev .i64 x 36 (by decide)
theorem shl_i64_37 (x : Int) : shI .shl .i64 x 37 = IntKind.wrap .i64 (x * 137438953472) := shl_ev .i64 x 37 (by decide)
theorem shl_i64_38 (x : Int) : shI .shl .i64 x 38 = IntKind.wrap .i64 (x * 274877906944) := shl_ev .i64 x 38 (by decide)
theorem shl_i64_39 (x : Int) : shI .shl .i64 x 39 = IntKind.wrap .i64 (x * 549755813888) := shl_ev .i64 x 39 (by decide)
theorem shl_i64_40 (x : Int) : shI .shl .i64 x 40 = IntKind.wrap .i64 (x * 1099511627776) := shl_ev .i64 x 40 (by decide)
theorem shl_i64_41 (x : Int) : shI .shl .i64 x 41 = IntKind.wrap .i64 (x * 2199023255552) := shl_ev .i64 x 41 (by decide)
theorem shl_i64_42 (x : Int) : shI .shl .i64 x 42 = IntKind.wrap .i64 (x * 4398046511104) := shl_ev .i64 x 42 (by decide)
theorem shl_i64_43 (x : Int) : shI .shl .i64 x 43 = IntKind.wrap .i64 (x * 8796093022208) := shl_ev .i64 x 43 (by decide)
theorem shl_i64_44 (x : Int) : shI .shl .i64 x 44 = IntKind.wrap .i64 (x * 17592186044416) := shl_ev .i64 x 44 (by decide)
theorem shl_i64_45 (x : Int) : shI .shl .i64 x 45 = IntKind.wrap .i64 (x * 35184372088832) := shl_ev .i64 x 45 (by decide)
theorem shl_i64_46 (x : Int) : shI .shl .i64 x 46 = IntKind.wrap .i64 (x * 70368744177664) := shl_ev .i64 x 46 (by decide)
theorem shl_i64_47 (x : Int) : shI .shl .i64 x 47 = IntKind.wrap .i64 (x * 140737488355328) := shl_ev .i64 x 47 (by decide)
theorem shl_i64_48 (x : Int) : shI .shl .i64 x 48 = IntKind.wrap .i64 (x * 281474976710656) := shl_ev .i64 x 48 (by decide)
theorem shl_i64_49 (x : Int) : shI .shl .i64 x 49 = IntKind.wrap .i64 (x * 562949953421312) := shl_ev .i64 x 49 (by decide)
theorem shl_i64_50 (x : Int) : shI .shl .i64 x 50 = IntKind.wrap .i64 (x * 1125899906842624) := shl_ev .i64 x 50 (by decide)
theorem shl_i64_51 (x : Int) : shI .shl .i64 x 51 = IntKind.wrap .i64 (x * 2251799813685248) := shl_ev .i64 x 51 (by decide)
theorem shl_i64_52 (x : Int) : shI .shl .i64 x 52 = IntKind.wrap .i64 (x * 4503599627370496) := shl_ev .i64 x 52 (by decide)
theorem shl_i64_53 (x : Int) : shI .shl .i64 x 53 = IntKind.wrap .i64 (x * 9007199254740992) := shl_ev .i64 x 53 (by decide)
theorem shl_i64_54 (x : Int) : shI .shl .i64 x 54 = IntKind.wrap .i64 (x * 18014398509481984) := shl_ev .i64 x 54 (by decide)
theorem shl_i64_55 (x : Int) : shI .shl .i64 x 55 = IntKind.wrap .i64 (x * 36028797018963968) := shl_ev .i64 x 55 (by decide)
theorem shl_i64_56 (x : Int) : shI .shl .i64 x 56 = IntKind.wrap .i64 (x * 72057594037927936) := shl_ev .i64 x 56 (by decide)
theorem shl_i64_57 (x : Int) : shI .shl .i64 x 57 = IntKind.wrap .i64 (x * 144115188075855872) := shl_ev .i64 x 57 (by decide)
theorem shl_i64_58 (x : Int) : shI .shl .i64 x 58 = IntKind.wrap .i64 (x * 288230376151711744) := shl_ev .i64 x 58 (by decide)
theorem shl_i64_59 (x : Int) : shI .shl .i64 x 59 = IntKind.wrap .i64 (x * 576460752303423488) := shl_ev .i64 x 59 (by decide)
theorem shl_i64_60 (x : Int) : shI .shl .i64 x 60 = IntKind.wrap .i64 (x * 1152921504606846976) := shl_ev .i64 x 60 (by decide)
theorem shl_i64_61 (x : Int) : shI .shl .i64 x 61 = IntKind.wrap .i64 (x * 2305843009213693952) := shl_ev .i64 x 61 (by decide)
theorem shl_i64_62 (x : Int) : shI .shl .i64 x 62 = IntKind.wrap .i64 (x * 4611686018427387904) := shl_ev .i64 x 62 (by decide)
theorem shl_i64_63 (x : Int) : shI .shl .i64 x 63 = IntKind.wrap .i64 (x * 9223372036854775808) := shl_ev .i64 x 63 (by decide)
theorem shl_i64_64 (x : Int) : shI .shl .i64 x 64 = IntKind.wrap .i64 (x * 18446744073709551616) := shl_ev .i64 x 64 (by decide)
theorem shl_i64_0 (x : Int) : shI .shl .i64 x 0 = IntKind.wrap .i64 (x * 1) := shl_ev .i64 x 0 (by decide)
theorem shr_i64_0 (x : Int) : shI .shr .i64 x 0 = x / 1 := shr_ev .i64 x 0 (by decide)
theorem and_u64_1 (x : Int) (h0 : 0 ≤ x) (h1 : x < 18446744073709551616) : binI .and .u64 x 1 = x % 2 := and_low .u64 rfl x 1 (by decide) h0 h1
theorem and_u64_8 (x : Int) (h0 : 0 ≤ x) (h1 : x < 18446744073709551616) : binI .and .u64 x 255 = x % 256 := and_low .u64 rfl x 8 (by decide) h0 h1
theorem and_u64_16 (x : Int) (h0 : 0 ≤ x) (h1 : x < 18446744073709551616) : binI .and .u64 x 65535 = x % 65536 := and_low .u64 rfl x 16 (by decide) h0 h1
theorem and_u64_32 (x : Int) (h0 : 0 ≤ x) (h1 : x < 18446744073709551616) : binI .and .u64 x 4294967295 = x % 4294967296 := and_low .u64 rfl x 32 (by decide) h0 h1
theorem and_u64_64 (x : Int) (h0 : 0 ≤ x) (h1 : x < 18446744073709551616) : binI .and .u64 x 18446744073709551615 = x % 18446744073709551616 := and_low .u64 rfl x 64 (by decide) h0 h1
theorem and_u32_exp (x : Int) (h0 : 0 ≤ x) (h1 : x < 4294967296) : binI .and .u32 x 2139095040 = x / 8388608 % 256 * 8388608 := and_mid .u32 rfl x 8 23 (by decide) h0 h1
theorem or_u64_8 (x : Int) (h0 : 0 ≤ x) (h1 : x < 256) : binI .or .u64 x 18446744073709551360 = x + 18446744073709551360 := or_high x 8 (by decide) h0 h1
theorem or_u64_16 (x : Int) (h0 : 0 ≤ x) (h1 : x < 65536) : binI .or .u64 x 18446744073709486080 = x + 18446744073709486080 := or_high x 16 (by decide) h0 h1
theorem or_u64_32 (x : Int) (h0 : 0 ≤ x) (h1 : x < 4294967296) : binI .or .u64 x 18446744069414584320 = x + 18446744069414584320 := or_high x 32 (by decide) h0 h1
theorem or_u64_64 (x : Int) (h0 : 0 ≤ x) (h1 : x < 18446744073709551616) : binI .or .u64 x 0 = x := by
  have := or_high x 64 (by decide) h0 h1
  simpa using this
theorem quo_u64 (x c : Int) (h0 : 0 ≤ x) (h1 : x < 18446744073709551616) (hc : 0 < c) : binI .quo .u64 x c = x / c := by
  simp only [binI, wrap_u64]
  rw [Int.tdiv_eq_ediv_of_nonneg h0]
  have h2 : 0 ≤ x / c := Int.ediv_nonneg h0 (by omega)
  have h3 : x / c ≤ x := Int.ediv_le_self _ h0
  omega
theorem rem_u64 (x c : Int) (h0 : 0 ≤ x) : binI .rem .u64 x c = x % c := by
  simp only [binI]
  exact Int.tmod_eq_emod_of_nonneg h0
theorem cmp_eql_t {a c : Int} (h : a = c) : cmpI .eql a c = true := by simp [cmpI, h]
theorem cmp_eql_f {a c : Int} (h : a ≠ c) : cmpI .eql a c = false := by simp [cmpI, h]
theorem cmp_neq_t {a c : Int} (h : a ≠ c) : cmpI .neq a c = true := by simp [cmpI, h]
theorem cmp_neq_f {a c : Int} (h : a = c) : cmpI .neq a c = false := by simp [cmpI, h]
theorem cmp_lss_t {a c : Int} (h : a < c) : cmpI .lss a c = true := by simp [cmpI, h]
theorem cmp_lss_f {a c : Int} (h : c ≤ a) : cmpI .lss a c = false := by simp [cmpI]; omega
theorem cmp_leq_t {a c : Int} (h : a ≤ c) : cmpI .leq a c = true := by simp [cmpI, h]
theorem cmp_leq_f {a c : Int} (h : c < a) : cmpI .leq a c = false := by simp [cmpI]; omega
theorem cmp_gtr_t {a c : Int} (h : c < a) : cmpI .gtr a c = true := by simp [cmpI, h]
theorem cmp_gtr_f {a c : Int} (h : a ≤ c) : cmpI .gtr a c = false := by simp [cmpI]; omega
theorem cmp_geq_t {a c : Int} (h : c ≤ a) : cmpI .geq a c = true := by simp [cmpI, h]
theorem cmp_geq_f {a c : Int} (h : a < c) : cmpI .geq a c = false := by simp [cmpI]; omega
theorem ev_add (k : IntKind) (x y : Int) : binI .add k x y = k.wrap (x + y) := rfl
theorem ev_sub (k : IntKind) (x y : Int) : binI .sub k x y = k.wrap (x - y) := rfl
theorem ev_mul (k : IntKind) (x y : Int) : binI .mul k x y = k.wrap (x * y) := rfl
end
end Go.RX

namespace Go.RX
noncomputable section
open Go.RowKit (Below)

/-! ### Functions that the model gives: Add64, Sub64 -/
def ExtF (P : Program) (g : FuncId) (e : Array Value → Sem Value) : Prop :=
  ∃ fn, P.funcs[g]? = some fn ∧ (fn.name == "runtime.NumGoroutine") = false ∧ fn.body.isNone = true ∧ Extern.findNext fn = none ∧ Extern.find fn = some e

theorem run_extern {P : Program} {g : FuncId} {e : Array Value → Sem Value} (hE : ExtF P g e) {w : World} {f : Operand → Value} {o : Oper} {c : Call} {x : Operand} (ho : o.op = .call c) (hc : c.callee = .value x)
    (hx : f x = .func (.func g) #[] #[]) {v : Value} (hr : (e (c.args.map f)).run P w = .ok v w) : (execOp f o).run P w = .ok (.value v) w := by
  obtain ⟨fn, h1, h2, h3, h4, h5⟩ := hE
  obtain ⟨callee, args, tys⟩ := c
  simp only at hc
  subst hc
  unfold execOp
  simp only [ho]
  show ((do let d ← resolve f { callee := .value x, args := args, argTypes := tys } o.type; invoke d.target d.args : Sem Next)).run P w = _
  simp only [resolve, hx, Deferred.ofValue]
  rw [run_pure_bind]
  simp only [invoke, callFunc, Array.empty_append, Array.append_empty]
  show (Sem.program .pure >>= _ : Sem Next).run P w = _
  rw [run_bind_pure (a := P) rfl]
  simp only [h1, h2, Bool.false_eq_true, if_false, h3, if_true, h4]
  show ((mark (.extern g) >>= _ : Sem Next)).run P w = _
  rw [run_bind_ok (a := ()) (w' := w) rfl]
  simp only [h5]
  exact run_bind_ok hr

def sub64Entry : Array Value → Sem Value := fun args => do
  let (x, y, b) ← Extern.MathBitsCarry.three "Sub64" args
  pure (Extern.MathBitsCarry.pair ((x + Extern.MathBitsCarry.m64 - y - b) % Extern.MathBitsCarry.m64) (if x < y + b then 1 else 0))

theorem run_sub64 {P : Program} (x y c : Int) (hx : 0 ≤ x) (hx1 : x < 18446744073709551616) (hy : 0 ≤ y) (hy1 : y < 18446744073709551616) (hc0 : 0 ≤ c) (hc : c ≤ 1) (w : World) :
    (sub64Entry #[.int .u64 x, .int .u64 y, .int .u64 c]).run P w = .ok (.tuple #[.int .u64 ((x - y - c) % 18446744073709551616), .int .u64 (if x < y + c then 1 else 0)]) w := by
  have key : ∀ k : Nat, k ≤ 1 → (sub64Entry #[.int .u64 x, .int .u64 y, .int .u64 (k : Int)]).run P w =
      .ok (Extern.MathBitsCarry.pair ((x.toNat + Extern.MathBitsCarry.m64 - y.toNat - k) % Extern.MathBitsCarry.m64) (if x.toNat < y.toNat + k then 1 else 0)) w := by
    intro k hk
    have : k = 0 ∨ k = 1 := by omega
    rcases this with rfl | rfl <;> rfl
  obtain ⟨k, rfl⟩ := Int.eq_ofNat_of_zero_le hc0
  rw [key k (by omega)]
  obtain ⟨X, rfl⟩ := Int.eq_ofNat_of_zero_le hx
  obtain ⟨Y, rfl⟩ := Int.eq_ofNat_of_zero_le hy
  simp only [Extern.MathBitsCarry.pair, Extern.MathBitsCarry.m64, Int.toNat_natCast]
  have e1 : (Int.ofNat ((X + 2 ^ 64 - Y - k) % 2 ^ 64)) = ((X : Int) - Y - k) % 18446744073709551616 := by
    have h1 : Y + k ≤ X + 2 ^ 64 := by omega
    rw [Int.ofNat_eq_natCast]
    omega
  have e2 : (Int.ofNat (if X < Y + k then 1 else 0)) = if (X : Int) < Y + k then 1 else 0 := by
    by_cases h : X < Y + k
    · rw [if_pos h, if_pos (by omega)]; rfl
    · rw [if_neg h, if_neg (by omega)]; rfl
  rw [e1, e2]

def asksU64 (K : Know) (e : IE) : Bool :=
  match K .geq e (.lit 0) with
  | some true => match K .lss e (.lit 18446744073709551616) with
    | some true => true
    | _ => false
  | _ => false

def isWrapOp : BinOp → Bool
  | .add | .sub | .mul | .and | .or | .xor | .andNot | .quo => true
  | _ => false

/-- Is it surely a number of 64 bits? -/
def isU64 (K : Know) (e : IE) : Bool :=
  match e with
  | .lit n => decide (0 ≤ n) && decide (n < 18446744073709551616)
  | .cv .u64 _ => true
  | .bin op .u64 _ _ => isWrapOp op
  | .sh .shl .u64 _ _ => true
  | e => asksU64 K e

theorem wrap64_range (n : Int) : 0 ≤ IntKind.wrap .u64 n ∧ IntKind.wrap .u64 n < 18446744073709551616 := by rw [wrap_u64]; omega

theorem asksU64_ok {ρ : Nat → Int} {K : Know} (hK : K.ok ρ) {e : IE} (h : asksU64 K e = true) : 0 ≤ e.ev ρ ∧ e.ev ρ < 18446744073709551616 := by
  unfold asksU64 at h
  split at h
  case h_2 => cases h
  rename_i h1
  split at h
  case h_2 => cases h
  rename_i h2
  have a1 := (hK _ _ _ _ h1).2
  have a2 := (hK _ _ _ _ h2).2
  exact ⟨of_decide_eq_true a1, of_decide_eq_true a2⟩

theorem isU64_ok {ρ : Nat → Int} {K : Know} (hK : K.ok ρ) {e : IE} (h : isU64 K e = true) : 0 ≤ e.ev ρ ∧ e.ev ρ < 18446744073709551616 := by
  unfold isU64 at h
  split at h
  · simpa [IE.ev] using h
  · exact wrap64_range _
  · rename_i op a b
    cases op <;> first | exact wrap64_range _ | (simp [isWrapOp] at h; done)
  · exact wrap64_range _
  · exact asksU64_ok hK h

/-- Which function it is: 0 Add64, 1 Sub64. -/
def extOf (X : List (FuncId × Nat)) (g : FuncId) : Option Nat := (X.find? fun p => p.1 == g).map (·.2)

def bit? (K : Know) (c : IE) : Bool :=
  match c with
  | .lit n => decide (0 ≤ n) && decide (n ≤ 1)
  | c => match K .geq c (.lit 0) with
    | some true => match K .leq c (.lit 1) with
      | some true => true
      | _ => false
    | _ => false

theorem bit?_ok {ρ : Nat → Int} {K : Know} (hK : K.ok ρ) {e : IE} (h : bit? K e = true) : 0 ≤ e.ev ρ ∧ e.ev ρ ≤ 1 := by
  unfold bit? at h
  split at h
  · simpa [IE.ev] using h
  · split at h
    case h_2 => cases h
    rename_i h1
    split at h
    case h_2 => cases h
    rename_i h2
    have a1 := (hK _ _ _ _ h1).2
    have a2 := (hK _ _ _ _ h2).2
    exact ⟨of_decide_eq_true a1, of_decide_eq_true a2⟩

def carryS (K : Know) (t : Nat) (x y c : SVal) : Option SVal :=
  match ieOf x, ieOf y, ieOf c with
  | some (.u64, a), some (.u64, b), some (.u64, d) => if isU64 K a && isU64 K b && bit? K d then
      match t with
      | 0 => some (.tuple [.sym (.int .u64 (.bin .add .u64 (.bin .add .u64 a b) d)), .sym (.int .u64 (.tri 0 a b d))])
      | 1 => some (.tuple [.sym (.int .u64 (.bin .sub .u64 (.bin .sub .u64 a b) d)), .sym (.int .u64 (.tri 1 a b d))])
      | _ => none
    else none
  | _, _, _ => none

/-- The facts on the calls of the functions that the model gives; further facts behind them. -/
def extraX (X : List (FuncId × Nat)) (K : Know) (op : Op) (xs : List SVal) : Option SVal :=
  match op with
  | .call c => match c.callee with
    | .value _ => match xs with
      | [.v (.func (.func g) fs cs), x, y, z] => if fs.isEmpty && cs.isEmpty then
          match extOf X g with
          | some t => carryS K t x y z
          | none => none
        else none
      | _ => none
    | _ => none
  | _ => none

def entryOf : Nat → Array Value → Sem Value
  | 0 => add64Entry
  | _ => sub64Entry

def ExtsOk (P : Program) (X : List (FuncId × Nat)) : Prop := ∀ p ∈ X, ExtF P p.1 (entryOf p.2)

theorem denL_four {E : Env} {r : Ren} {x0 x1 x2 x3 : SVal} {l : List Value} (h : @denL E r [x0, x1, x2, x3] = some l) : ∃ a0 a1 a2 a3, l = [a0, a1, a2, a3] ∧ @den E r x0 = some a0 ∧ @den E r x1 = some a1 ∧ @den E r x2 = some a2 ∧ @den E r x3 = some a3 := by
  obtain ⟨a0, l0, e0, h0, rfl⟩ := (@denL_cons E _ _ _ _).1 h
  obtain ⟨a1, l1, e1, h1, rfl⟩ := (@denL_cons E _ _ _ _).1 h0
  obtain ⟨a2, l2, e2, h2, rfl⟩ := (@denL_cons E _ _ _ _).1 h1
  obtain ⟨a3, l3, e3, h3, rfl⟩ := (@denL_cons E _ _ _ _).1 h2
  simp only [denL, Option.some.injEq] at h3
  subst h3
  exact ⟨a0, a1, a2, a3, rfl, e0, e1, e2, e3⟩

theorem extraX_ok (P : Program) (nmv : Nat → Value) (hnm : ∀ i, Flat (nmv i)) (ρ : Nat → Int) (K : Know) (X : List (FuncId × Nat)) (hK : K.ok ρ) (hX : ExtsOk P X) : ExtraOk P nmv hnm ρ K (extraX X K) := by
  intro op xs y h r f o w ho hd
  letI : Env := envS P nmv hnm ρ K (extraX X K)
  unfold extraX at h
  split at h
  case h_2 => cases h
  rename_i c
  split at h
  case h_2 => cases h
  rename_i xo hc
  split at h
  case h_2 => cases h
  rename_i g fs cs x y' z
  split at h
  case isFalse => cases h
  rename_i hfc
  simp only [Bool.and_eq_true, Array.isEmpty_iff] at hfc
  obtain ⟨rfl, rfl⟩ := hfc
  split at h
  case h_2 => cases h
  rename_i t ht
  unfold extOf at ht
  obtain ⟨p, hp, rfl⟩ := Option.map_eq_some_iff.1 ht
  have hp1 := List.find?_some hp
  have hp2 := List.mem_of_find?_eq_some hp
  have hg : p.1 = g := by simpa using hp1
  have hE := hX p hp2
  rw [hg] at hE
  obtain ⟨a0, a1, a2, a3, hl, d0, d1, d2, d3⟩ := denL_four hd
  obtain ⟨callee, args, tys⟩ := c
  simp only at hc
  subst hc
  have hl' : f xo :: args.toList.map f = [a0, a1, a2, a3] := by simpa [Op.operands, Call.operands] using hl
  simp only [List.cons.injEq] at hl'
  obtain ⟨hf, hargs⟩ := hl'
  have hx : f xo = .func (.func g) #[] #[] := by
    rw [hf]
    exact (Option.some.inj d0).symm
  have ha : args.map f = #[a1, a2, a3] := Array.toList_inj.1 (by simpa using hargs)
  unfold carryS at h
  split at h
  case h_2 => cases h
  rename_i a b d hxa hyb hzd
  have e1 := ieOf_den P nmv hnm ρ K (extraX X K) hxa r
  have e2 := ieOf_den P nmv hnm ρ K (extraX X K) hyb r
  have e3 := ieOf_den P nmv hnm ρ K (extraX X K) hzd r
  rw [d1] at e1
  rw [d2] at e2
  rw [d3] at e3
  cases e1
  cases e2
  cases e3
  split at h
  case isFalse => cases h
  rename_i hcond
  simp only [Bool.and_eq_true] at hcond
  obtain ⟨⟨c1, c2⟩, c3⟩ := hcond
  obtain ⟨u1, u2⟩ := isU64_ok hK c1
  obtain ⟨v1, v2⟩ := isU64_ok hK c2
  obtain ⟨z1, z2⟩ := bit?_ok hK c3
  split at h
  · rename_i h0
    cases h
    rw [h0] at hE
    refine ⟨_, run_extern hE ho rfl hx (by rw [ha]; exact run_add64 _ _ _ u1 v1 z1 z2 w), ?_⟩
    have e : (IE.ev ρ a + IE.ev ρ b + IE.ev ρ d) % 18446744073709551616 = ((IE.ev ρ a + IE.ev ρ b) % 18446744073709551616 + IE.ev ρ d) % 18446744073709551616 := by omega
    have e0 : ∀ sy : Sy, (Env.val sy : Value) = valS nmv ρ sy := fun _ => rfl
    simp only [den, denL, e0, valS, IE.ev, binI, triI, wrap_u64, e]
  · rename_i h0
    cases h
    rw [h0] at hE
    refine ⟨_, run_extern hE ho rfl hx (by rw [ha]; exact run_sub64 _ _ _ u1 u2 v1 v2 z1 z2 w), ?_⟩
    have e : (IE.ev ρ a - IE.ev ρ b - IE.ev ρ d) % 18446744073709551616 = ((IE.ev ρ a - IE.ev ρ b) % 18446744073709551616 - IE.ev ρ d) % 18446744073709551616 := by omega
    have e0 : ∀ sy : Sy, (Env.val sy : Value) = valS nmv ρ sy := fun _ => rfl
    simp only [den, denL, e0, valS, IE.ev, binI, triI, wrap_u64, e]
  · cases h
end
end Go.RX

namespace Go.RX
noncomputable section
open Go.RowKit (Below)

/-! ### The least and the greatest of two integers; expressions whose numbers are known -/
mutual
theorem den_val {E1 E2 : Env} (h : ∀ s, E1.val s = E2.val s) (r : Ren) : ∀ x : SVal, @den E1 r x = @den E2 r x
  | .v x => rfl
  | .sym i => by simp only [den, h]
  | .agg l => by simp only [den]; rw [denL_val h r l]
  | .tuple l => by simp only [den]; rw [denL_val h r l]
  | .iface t x => by simp only [den]; rw [den_val h r x]
  | .ptr i off => rfl
  | .slice i off len cap => rfl
  | .row i off eoff len => rfl
  | .tail i alt off eoff => rfl
  | .func fn f c => by simp only [den]; rw [denL_val h r f, denL_val h r c]
  | .yield i => rfl
  | .map i => rfl
theorem denL_val {E1 E2 : Env} (h : ∀ s, E1.val s = E2.val s) (r : Ren) : ∀ l : List SVal, @denL E1 r l = @denL E2 r l
  | [] => rfl
  | x :: xs => by simp only [denL]; rw [den_val h r x, denL_val h r xs]
end

def lookV (V : List (IE × Int)) (e : IE) : Option Int :=
  match V with
  | [] => none
  | p :: ps => if p.1.same e then some p.2 else lookV ps e

def normV (V : List (IE × Int)) (y : SVal) : SVal :=
  match y with
  | .sym (.int k e) => match lookV V e with
    | some n => .v (.int k n)
    | none => y
  | y => y

theorem lookV_ok {ρ : Nat → Int} : ∀ {V : List (IE × Int)}, (∀ p ∈ V, p.1.ev ρ = p.2) → ∀ {e : IE} {n : Int}, lookV V e = some n → e.ev ρ = n
  | [], _, _, _, h => by cases h
  | p :: ps, hV, e, n, h => by
    simp only [lookV] at h
    split at h
    · rename_i hs
      cases h
      rw [← IE.same_ok hs]
      exact hV p (by simp)
    · exact lookV_ok (fun q hq => hV q (by simp [hq])) h

/-- As envS; expressions in V are numbers at once. -/
@[reducible] noncomputable def envV (P : Program) (nmv : Nat → Value) (hnm : ∀ i, Flat (nmv i)) (ρ : Nat → Int) (K : Know) (extra : Op → List SVal → Option SVal) (V : List (IE × Int)) : Env where
  val := valS nmv ρ
  flat i := match i with
    | .nm i => hnm i
    | .int _ _ => trivial
  fact op xs := match factS P K extra op xs with
    | some y => some (normV V y)
    | none => none
  key _ _ := none
  keyOk _ _ _ h := by cases h

theorem namesOkV {P : Program} {nmv : Nat → Value} {hnm : ∀ i, Flat (nmv i)} {ρ : Nat → Int} {K : Know} {extra : Op → List SVal → Option SVal} {V : List (IE × Int)} (hN : @NamesOk (envS P nmv hnm ρ K extra) P) (hV : ∀ p ∈ V, p.1.ev ρ = p.2) :
    @NamesOk (envV P nmv hnm ρ K extra V) P :=
  @NamesOk.mk (envV P nmv hnm ρ K extra V) P (@NamesOk.names (envS P nmv hnm ρ K extra) P hN) (by
      intro op xs y h r f o w ho hd
      change (match factS P K extra op xs with | some y => some (normV V y) | none => none) = some y at h
      split at h
      case h_2 => cases h
      rename_i y0 hy0
      cases h
      have hv : ∀ s, (envV P nmv hnm ρ K extra V).val s = (envS P nmv hnm ρ K extra).val s := fun _ => rfl
      rw [denL_val hv] at hd
      obtain ⟨v, h1, h2⟩ := @NamesOk.facts (envS P nmv hnm ρ K extra) P hN op xs y0 hy0 r f o w ho hd
      refine ⟨v, h1, ?_⟩
      rw [← den_val hv] at h2
      rw [← h2]
      unfold normV
      split
      · rename_i k e
        split
        · rename_i n hn
          show some (Value.int k n) = some (Value.int k (e.ev ρ))
          rw [lookV_ok hV hn]
        · rfl
      · rfl)

/-- The least and the greatest of two. -/
def mmS (t : Nat) (xs : List SVal) : Option SVal :=
  match xs with
  | [x, y] => match ieOf x, ieOf y with
    | some (k, a), some (k', b) => if k = k' then some (.sym (.int k (.tri t a b (.lit 0)))) else none
    | _, _ => none
  | [x, y, z] => match ieOf x, ieOf y, ieOf z with
    | some (k, a), some (k', b), some (k'', c) => if k = k' ∧ k = k'' then some (.sym (.int k (.tri t (.tri t a b (.lit 0)) c (.lit 0)))) else none
    | _, _, _ => none
  | _ => none

def extraM (X : List (FuncId × Nat)) (K : Know) (op : Op) (xs : List SVal) : Option SVal :=
  match op with
  | .call c => match c.callee with
    | .builtin .max => mmS 2 xs
    | .builtin .min => mmS 3 xs
    | _ => extraX X K op xs
  | _ => none

theorem run_mm {P : Program} {w : World} {f : Operand → Value} {o : Oper} {c : Call} (b : Builtin) (ho : o.op = .call c) (hc : c.callee = .builtin b) {v : Value}
    (hb : ∀ (tys : Array TypeId) (ty : TypeId) (cs : Array Bool), (builtin b tys ty cs (c.args.map f)).run P w = .ok (.value v) w) : (execOp f o).run P w = .ok (.value v) w := by
  obtain ⟨callee, args, tys⟩ := c
  simp only at hc
  subst hc
  unfold execOp
  simp only [ho]
  show ((do let d ← resolve f { callee := .builtin b, args := args, argTypes := tys } o.type; invoke d.target d.args : Sem Next)).run P w = _
  simp only [resolve]
  rw [run_pure_bind]
  simp only [invoke]
  exact hb _ _ _

theorem extraM_ok (P : Program) (nmv : Nat → Value) (hnm : ∀ i, Flat (nmv i)) (ρ : Nat → Int) (K : Know) (X : List (FuncId × Nat)) (hK : K.ok ρ) (hX : ExtsOk P X) : ExtraOk P nmv hnm ρ K (extraM X K) := by
  intro op xs y h r f o w ho hd
  have hv : ∀ s, (envS P nmv hnm ρ K (extraM X K)).val s = (envS P nmv hnm ρ K (extraX X K)).val s := fun _ => rfl
  unfold extraM at h
  split at h
  case h_2 => cases h
  rename_i c
  have args0 : c.callee = .builtin .max ∨ c.callee = .builtin .min → (Op.call c).operands.toList.map f = c.args.toList.map f := fun hcal => by
    obtain ⟨callee, args, tys⟩ := c
    rcases hcal with hcal | hcal <;> · simp only at hcal; subst hcal; simp [Op.operands, Call.operands]
  have one : ∀ {x : SVal} {k : IntKind} {a : IE} {u : Value}, ieOf x = some (k, a) → @den (envS P nmv hnm ρ K (extraM X K)) r x = some u → u = .int k (a.ev ρ) := fun hx e1 => by
    rw [ieOf_den P nmv hnm ρ K (extraM X K) hx r] at e1
    cases e1
    rfl
  have two : ∀ t, mmS t xs = some y → c.callee = .builtin .max ∨ c.callee = .builtin .min → (∃ (k : IntKind) (a b : IE), y = .sym (.int k (.tri t a b (.lit 0))) ∧ c.args.map f = #[.int k (a.ev ρ), .int k (b.ev ρ)]) ∨
      (∃ (k : IntKind) (a b d : IE), y = .sym (.int k (.tri t (.tri t a b (.lit 0)) d (.lit 0))) ∧ c.args.map f = #[.int k (a.ev ρ), .int k (b.ev ρ), .int k (d.ev ρ)]) := by
    intro t ht hcal
    unfold mmS at ht
    split at ht
    case h_3 => cases ht
    · rename_i x z
      split at ht
      case h_2 => cases ht
      rename_i k a k' b hx hz
      split at ht
      case isFalse => cases ht
      rename_i hk
      subst hk
      cases ht
      refine .inl ⟨k, a, b, rfl, ?_⟩
      rw [args0 hcal] at hd
      obtain ⟨u, l, e1, e2, e3⟩ := (@denL_cons (envS P nmv hnm ρ K (extraM X K)) _ _ _ _).1 hd
      obtain ⟨u', l', e4, e5, e6⟩ := (@denL_cons (envS P nmv hnm ρ K (extraM X K)) _ _ _ _).1 e2
      simp only [denL, Option.some.injEq] at e5
      subst e5
      subst e6
      rw [one hx e1, one hz e4] at e3
      exact Array.toList_inj.1 (by simpa using e3)
    · rename_i x z v
      split at ht
      case h_2 => cases ht
      rename_i k a k' b k'' d hx hz hv'
      split at ht
      case isFalse => cases ht
      rename_i hk
      obtain ⟨rfl, rfl⟩ := hk
      cases ht
      refine .inr ⟨k, a, b, d, rfl, ?_⟩
      rw [args0 hcal] at hd
      obtain ⟨u, l, e1, e2, e3⟩ := (@denL_cons (envS P nmv hnm ρ K (extraM X K)) _ _ _ _).1 hd
      obtain ⟨u', l', e4, e5, e6⟩ := (@denL_cons (envS P nmv hnm ρ K (extraM X K)) _ _ _ _).1 e2
      obtain ⟨u'', l'', e7, e8, e9⟩ := (@denL_cons (envS P nmv hnm ρ K (extraM X K)) _ _ _ _).1 e5
      simp only [denL, Option.some.injEq] at e8
      subst e8
      subst e9
      subst e6
      rw [one hx e1, one hz e4, one hv' e7] at e3
      exact Array.toList_inj.1 (by simpa using e3)
  split at h
  · rename_i hc
    rcases two 2 h (.inl hc) with ⟨k, a, b, rfl, ha⟩ | ⟨k, a, b, d, rfl, ha⟩
    · refine ⟨.int k (if b.ev ρ > a.ev ρ then b.ev ρ else a.ev ρ), run_mm .max ho hc (fun _ _ _ => ?_), rfl⟩
      rw [ha]
      rfl
    · refine ⟨.int k (if d.ev ρ > (if b.ev ρ > a.ev ρ then b.ev ρ else a.ev ρ) then d.ev ρ else (if b.ev ρ > a.ev ρ then b.ev ρ else a.ev ρ)), run_mm .max ho hc (fun _ _ _ => ?_), rfl⟩
      rw [ha]
      rfl
  · rename_i hc
    rcases two 3 h (.inr hc) with ⟨k, a, b, rfl, ha⟩ | ⟨k, a, b, d, rfl, ha⟩
    · refine ⟨.int k (if b.ev ρ < a.ev ρ then b.ev ρ else a.ev ρ), run_mm .min ho hc (fun _ _ _ => ?_), rfl⟩
      rw [ha]
      rfl
    · refine ⟨.int k (if d.ev ρ < (if b.ev ρ < a.ev ρ then b.ev ρ else a.ev ρ) then d.ev ρ else (if b.ev ρ < a.ev ρ then b.ev ρ else a.ev ρ)), run_mm .min ho hc (fun _ _ _ => ?_), rfl⟩
      rw [ha]
      rfl
  · rw [denL_val hv] at hd
    obtain ⟨v, h1, h2⟩ := extraX_ok P nmv hnm ρ K X hK hX (.call c) xs y h r f o w ho hd
    exact ⟨v, h1, by rw [den_val hv]; exact h2⟩
end
end Go.RX

namespace Go.RX
noncomputable section

/-! ### Are two arrays of structs the same? -/
def eqItemsS (P : Program) (K : Know) (fs : List Field) (n : Nat) (xs ys : List SVal) : List Nat → Option Bool
  | [] => some true
  | i :: is => match eqCells P K ((xs.drop (i * n)).take n) ((ys.drop (i * n)).take n) fs with
    | some true => eqItemsS P K fs n xs ys is
    | some false => some false
    | none => none
def eqArr (P : Program) (K : Know) (ty : TypeId) (x y : SVal) : Option Bool :=
  match P.underlying ty, cellsS x, cellsS y with
  | some (.array len el), some xs, some ys => match P.underlying el with
    | some (.struct fs) => if (P.info? el).isSome && !P.stoodInHeld el && !P.eqGuardType P.depth ty then eqItemsS P K fs.toList (P.cellsOf el) xs ys (List.range len) else none
    | _ => none
  | _, _, _ => none

section
variable (P : Program) (nmv : Nat → Value) (hnm : ∀ i, Flat (nmv i)) (ρ : Nat → Int) (K : Know) (extra : Op → List SVal → Option SVal)

theorem run_part_struct {w : World} {t : TypeId} {fs : Array Field} {i : TypeInfo} (hu : P.underlying t = some (.struct fs)) (hi : P.info? t = some i) (cs : Array Value) (off : Nat) :
    (part t cs off).run P w = .ok (.agg (cs.extract off (off + P.cellsOf t))) w := by
  unfold part
  have h1 : (isAgg t).run P w = .ok true w := by
    unfold isAgg
    rw [run_bind_ok (run_und hu)]
    rfl
  rw [run_bind_ok h1]
  simp only [if_true]
  rw [run_bind_ok (run_sizeOf w hi)]
  rfl

theorem eqItemsS_ok (hL : K.ok ρ) {xs ys : List SVal} {as bs : Array Value} {r : Ren} (hx : @denL (envS P nmv hnm ρ K extra) r xs = some as.toList) (hy : @denL (envS P nmv hnm ρ K extra) r ys = some bs.toList) (w : World) (d : Nat)
    {el : TypeId} {fs : Array Field} {i : TypeInfo} (hu : P.underlying el = some (.struct fs)) (hi : P.info? el = some i) (hp : P.stoodInHeld el = false) :
    ∀ {is : List Nat} {e : Bool}, eqItemsS P K fs.toList (P.cellsOf el) xs ys is = some e → (Op.eqItems (d + 1 + 1) el (P.cellsOf el) as bs is).run P w = .ok e w
  | [], e, h => by cases h; rfl
  | j :: is, e, h => by
    letI : Env := envS P nmv hnm ρ K extra
    simp only [eqItemsS] at h
    have hf : P.fieldsOf el = fs := by simp only [Program.fieldsOf, hu]
    have cut : ∀ {l : List SVal} {cs : Array Value}, denL r l = some cs.toList → denL r ((l.drop (j * P.cellsOf el)).take (P.cellsOf el)) = some (cs.extract (j * P.cellsOf el) (j * P.cellsOf el + P.cellsOf el)).toList := fun {l cs} hl => by
      rw [denL_take _ (denL_drop _ hl), Array.toList_extract, List.extract_eq_take_drop]
      simp
    have item : ∀ {e1 : Bool}, eqCells P K ((xs.drop (j * P.cellsOf el)).take (P.cellsOf el)) ((ys.drop (j * P.cellsOf el)).take (P.cellsOf el)) fs.toList = some e1 →
        (Op.eqItems (d + 1 + 1) el (P.cellsOf el) as bs (j :: is)).run P w = (if (!e1) = true then .ok false w else (Op.eqItems (d + 1 + 1) el (P.cellsOf el) as bs is).run P w) := fun {e1} he => by
      have h1 := eqCells_ok P nmv hnm ρ K extra hL (cut hx) (cut hy) w d he
      have h2 : (Op.equalIn (d + 1 + 1) el (.agg (as.extract (j * P.cellsOf el) (j * P.cellsOf el + P.cellsOf el))) (.agg (bs.extract (j * P.cellsOf el) (j * P.cellsOf el + P.cellsOf el)))).run P w = .ok e1 w := by
        rw [run_equalIn_agg w (d + 1) el _ _ (by rw [hf]; exact hu) hp, hf]
        exact h1
      simp only [Op.eqItems]
      rw [run_bind_ok (run_part_struct P hu hi as _), run_bind_ok (run_part_struct P hu hi bs _), run_bind_ok h2]
      cases e1 <;> rfl
    split at h
    · rename_i hc
      rw [item hc]
      simpa using eqItemsS_ok hL hx hy w d hu hi hp h
    · rename_i hc
      cases h
      rw [item hc]
      rfl
    · cases h

theorem eqArr_ok (hL : K.ok ρ) {ty : TypeId} {x y : SVal} {e : Bool} (h : eqArr P K ty x y = some e) {r : Ren} {a b : Value} (ha : @den (envS P nmv hnm ρ K extra) r x = some a) (hb : @den (envS P nmv hnm ρ K extra) r y = some b) (w : World) :
    ∃ as bs, a = .agg as ∧ b = .agg bs ∧ P.eqGuardType P.depth ty = false ∧ (Op.equalIn 10000 ty (.agg as) (.agg bs)).run P w = .ok e w := by
  unfold eqArr at h
  split at h
  case h_2 => cases h
  rename_i len el xs ys hu hx hy
  split at h
  case h_2 => cases h
  rename_i fs hel
  split at h
  case isFalse => cases h
  rename_i hc
  simp only [Bool.and_eq_true, Bool.not_eq_true'] at hc
  obtain ⟨i, hi⟩ := Option.isSome_iff_exists.1 hc.1.1
  obtain ⟨as, rfl, h1⟩ := cellsS_ok P nmv hnm ρ K extra hx r ha
  obtain ⟨bs, rfl, h2⟩ := cellsS_ok P nmv hnm ρ K extra hy r hb
  refine ⟨as, bs, rfl, rfl, hc.2, ?_⟩
  rw [show (10000 : Nat) = 9997 + 1 + 1 + 1 from rfl, run_equalIn_array w (9997 + 1 + 1) as bs hu hi]
  exact eqItemsS_ok P nmv hnm ρ K extra hL h1 h2 w 9997 hel hi hc.1.2 h
end

/-- As extraM, and arrays of structs. -/
def extraY (P : Program) (X : List (FuncId × Nat)) (K : Know) (op : Op) (xs : List SVal) : Option SVal :=
  match op with
  | .binOp .eql ty _ _ _ => match xs with
    | [x, y] => match eqArr P K ty x y with
      | some e => some (.v (.bool e))
      | none => none
    | _ => none
  | .binOp .neq ty _ _ _ => match xs with
    | [x, y] => match eqArr P K ty x y with
      | some e => some (.v (.bool !e))
      | none => none
    | _ => none
  | _ => extraM X K op xs

theorem extraY_ok (P : Program) (nmv : Nat → Value) (hnm : ∀ i, Flat (nmv i)) (ρ : Nat → Int) (K : Know) (X : List (FuncId × Nat)) (hK : K.ok ρ) (hX : ExtsOk P X) : ExtraOk P nmv hnm ρ K (extraY P X K) := by
  intro op xs y h r f o w ho hd
  have hv : ∀ s, (envS P nmv hnm ρ K (extraY P X K)).val s = (envS P nmv hnm ρ K (extraM X K)).val s := fun _ => rfl
  unfold extraY at h
  split at h
  · rename_i ty x1 x2 yt
    split at h
    case h_2 => cases h
    rename_i x y'
    split at h
    case h_2 => cases h
    rename_i e he
    cases h
    have hd2 : @denL (envS P nmv hnm ρ K (extraY P X K)) r [x, y'] = some [f x1, f x2] := by simpa [Op.operands] using hd
    obtain ⟨d1, d2⟩ := denL_two hd2
    obtain ⟨as, bs, ha, hb, hg, hr⟩ := eqArr_ok P nmv hnm ρ K (extraY P X K) hK he d1 d2 w
    refine ⟨.bool e, run_binop ho ?_ ?_, rfl⟩
    · rw [ha, hb]; exact run_eqGuard_agg w _ ty x1 x2 as bs hg
    · rw [ha, hb, run_eql_struct, hr]; rfl
  · rename_i ty x1 x2 yt
    split at h
    case h_2 => cases h
    rename_i x y'
    split at h
    case h_2 => cases h
    rename_i e he
    cases h
    have hd2 : @denL (envS P nmv hnm ρ K (extraY P X K)) r [x, y'] = some [f x1, f x2] := by simpa [Op.operands] using hd
    obtain ⟨d1, d2⟩ := denL_two hd2
    obtain ⟨as, bs, ha, hb, hg, hr⟩ := eqArr_ok P nmv hnm ρ K (extraY P X K) hK he d1 d2 w
    refine ⟨.bool (!e), run_binop ho ?_ ?_, rfl⟩
    · rw [ha, hb]; exact run_eqGuard_agg w _ ty x1 x2 as bs hg
    · rw [ha, hb, run_neq_struct, hr]; rfl
  · rw [denL_val hv] at hd
    obtain ⟨v, h1, h2⟩ := extraM_ok P nmv hnm ρ K X hK hX op xs y h r f o w ho hd
    exact ⟨v, h1, by rw [den_val hv]; exact h2⟩
end
end Go.RX
