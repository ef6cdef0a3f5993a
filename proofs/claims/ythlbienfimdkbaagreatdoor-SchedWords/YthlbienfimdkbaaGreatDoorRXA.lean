import Derived.Test.YthlbienfimdkbaaGreatDoorRXS
namespace Go.RX
noncomputable section

/-! ### What the operations of the expressions are, in plain arithmetic -/
theorem wrap_u8 (n : Int) : IntKind.wrap .u8 n = n % 256 := by simp [IntKind.wrap, IntKind.bits, IntKind.signed]
theorem wrap_u16 (n : Int) : IntKind.wrap .u16 n = n % 65536 := by simp [IntKind.wrap, IntKind.bits, IntKind.signed]
theorem wrap_u32 (n : Int) : IntKind.wrap .u32 n = n % 4294967296 := by simp [IntKind.wrap, IntKind.bits, IntKind.signed]
theorem wrap_u64 (n : Int) : IntKind.wrap .u64 n = n % 18446744073709551616 := by simp [IntKind.wrap, IntKind.bits, IntKind.signed]
theorem wrap_i8 (n : Int) : IntKind.wrap .i8 n = (n + 128) % 256 - 128 := by
  have h : IntKind.wrap .i8 n = if n % 256 ≥ 128 then n % 256 - 256 else n % 256 := by simp [IntKind.wrap, IntKind.bits, IntKind.signed]
  rw [h]
  split <;> omega
theorem wrap_i16 (n : Int) : IntKind.wrap .i16 n = (n + 32768) % 65536 - 32768 := by
  have h : IntKind.wrap .i16 n = if n % 65536 ≥ 32768 then n % 65536 - 65536 else n % 65536 := by simp [IntKind.wrap, IntKind.bits, IntKind.signed]
  rw [h]
  split <;> omega
theorem wrap_i32 (n : Int) : IntKind.wrap .i32 n = (n + 2147483648) % 4294967296 - 2147483648 := by
  have h : IntKind.wrap .i32 n = if n % 4294967296 ≥ 2147483648 then n % 4294967296 - 4294967296 else n % 4294967296 := by simp [IntKind.wrap, IntKind.bits, IntKind.signed]
  rw [h]
  split <;> omega
theorem wrap_i64 (n : Int) : IntKind.wrap .i64 n = (n + 9223372036854775808) % 18446744073709551616 - 9223372036854775808 := by
  have h : IntKind.wrap .i64 n = if n % 18446744073709551616 ≥ 9223372036854775808 then n % 18446744073709551616 - 18446744073709551616 else n % 18446744073709551616 := by simp [IntKind.wrap, IntKind.bits, IntKind.signed]
  rw [h]
  split <;> omega

theorem fdiv_pow (x : Int) (n : Nat) : x.fdiv (2 ^ n) = x / 2 ^ n := Int.fdiv_eq_ediv_of_nonneg x (by have : (0 : Int) < 2 ^ n := Int.pow_pos (by decide); omega)
theorem shr_ev (k : IntKind) (x : Int) (n : Nat) (hn : n ≤ k.bits) : shI .shr k x (n : Int) = x / 2 ^ n := by
  simp only [shI, Int.toNat_natCast, Nat.min_eq_left hn, fdiv_pow]
theorem shl_ev (k : IntKind) (x : Int) (n : Nat) (hn : n ≤ k.bits) : shI .shl k x (n : Int) = k.wrap (x * 2 ^ n) := by
  simp only [shI, Int.toNat_natCast, Nat.min_eq_left hn]

theorem ofInt_toNat (w : Nat) (x : Int) (h0 : 0 ≤ x) (h1 : x < 2 ^ w) : (BitVec.ofInt w x).toNat = x.toNat := by
  rw [BitVec.toNat_ofInt]
  have : x % ((2 ^ w : Nat) : Int) = x := Int.emod_eq_of_lt h0 (by exact_mod_cast h1)
  rw [this]

/-- `and` with the low n bits. -/
theorem and_low (k : IntKind) (hk : k.signed = false) (x : Int) (n : Nat) (hn : n ≤ k.bits) (h0 : 0 ≤ x) (h1 : x < 2 ^ k.bits) : binI .and k x (2 ^ n - 1) = x % 2 ^ n := by
  have hm : (2 ^ n - 1 : Int) = ((2 ^ n - 1 : Nat) : Int) := by
    rw [Int.natCast_sub Nat.one_le_two_pow]
    simp
  have hlt : (2 ^ n - 1 : Nat) < 2 ^ k.bits := by
    have := Nat.pow_le_pow_right (n := 2) (by decide) hn
    have : 1 ≤ 2 ^ n := Nat.one_le_two_pow
    omega
  obtain ⟨m, rfl⟩ := Int.eq_ofNat_of_zero_le h0
  have hm1 : m < 2 ^ k.bits := by exact_mod_cast h1
  simp only [binI, BitVec.toNat_and]
  rw [ofInt_toNat _ _ h0 h1, hm, ofInt_toNat _ _ (by omega) (by exact_mod_cast hlt)]
  simp only [Int.toNat_natCast, Nat.and_two_pow_sub_one_eq_mod]
  have h3 : m % 2 ^ n ≤ m := Nat.mod_le _ _
  unfold IntKind.wrap
  simp only [hk, Bool.false_and, Bool.false_eq_true, if_false]
  rw [Int.emod_eq_of_lt (by omega) (by have : ((m % 2 ^ n : Nat) : Int) < ((2 ^ k.bits : Nat) : Int) := by exact_mod_cast (by omega : m % 2 ^ n < 2 ^ k.bits)
                                       exact_mod_cast this)]
  simp

theorem nat_and_shift (m a i : Nat) : m &&& (a <<< i) = ((m >>> i) &&& a) <<< i := by
  apply Nat.eq_of_testBit_eq
  intro j
  simp only [Nat.testBit_and, Nat.testBit_shiftLeft, Nat.testBit_shiftRight]
  by_cases h : i ≤ j
  · have e : i + (j - i) = j := by omega
    simp [h, e]
  · simp [h]

/-- `and` with n ones above i zeros. -/
theorem and_mid (k : IntKind) (hk : k.signed = false) (x : Int) (n i : Nat) (hn : n + i ≤ k.bits) (h0 : 0 ≤ x) (h1 : x < 2 ^ k.bits) : binI .and k x (((2 ^ n - 1) * 2 ^ i : Nat) : Int) = x / 2 ^ i % 2 ^ n * 2 ^ i := by
  have hlt : (2 ^ n - 1) * 2 ^ i < 2 ^ k.bits := by
    have h2 : (2 ^ n - 1) * 2 ^ i < 2 ^ n * 2 ^ i := Nat.mul_lt_mul_of_pos_right (by have : 1 ≤ 2 ^ n := Nat.one_le_two_pow; omega) (Nat.pow_pos (by decide))
    rw [← Nat.pow_add] at h2
    exact Nat.lt_of_lt_of_le h2 (Nat.pow_le_pow_right (by decide) hn)
  obtain ⟨m, rfl⟩ := Int.eq_ofNat_of_zero_le h0
  have hm1 : m < 2 ^ k.bits := by exact_mod_cast h1
  simp only [binI, BitVec.toNat_and]
  rw [ofInt_toNat _ _ h0 h1, ofInt_toNat _ _ (by omega) (by exact_mod_cast hlt)]
  simp only [Int.toNat_natCast]
  rw [← Nat.shiftLeft_eq, nat_and_shift, Nat.and_two_pow_sub_one_eq_mod, Nat.shiftLeft_eq, Nat.shiftRight_eq_div_pow]
  have h3 : m / 2 ^ i % 2 ^ n * 2 ^ i ≤ m := Nat.le_trans (Nat.mul_le_mul_right _ (Nat.mod_le _ _)) (Nat.div_mul_le_self _ _)
  unfold IntKind.wrap
  simp only [hk, Bool.false_and, Bool.false_eq_true, if_false]
  rw [Int.emod_eq_of_lt (by omega) (by have : ((m / 2 ^ i % 2 ^ n * 2 ^ i : Nat) : Int) < ((2 ^ k.bits : Nat) : Int) := by exact_mod_cast (by omega : m / 2 ^ i % 2 ^ n * 2 ^ i < 2 ^ k.bits)
                                       exact_mod_cast this)]
  simp

/-- `or` with ones above the number. -/
theorem or_high (x : Int) (w : Nat) (hw : w ≤ 64) (h0 : 0 ≤ x) (h1 : x < 2 ^ w) : binI .or .u64 x ((2 ^ 64 - 2 ^ w : Nat) : Int) = x + ((2 ^ 64 - 2 ^ w : Nat) : Int) := by
  have hp : (2 : Nat) ^ w ≤ 2 ^ 64 := Nat.pow_le_pow_right (by decide) hw
  have hp0 : (0 : Nat) < 2 ^ w := Nat.pow_pos (by decide)
  obtain ⟨m, rfl⟩ := Int.eq_ofNat_of_zero_le h0
  have hm1 : m < 2 ^ w := by exact_mod_cast h1
  have hx : ((m : Nat) : Int) < 2 ^ 64 := by exact_mod_cast Nat.lt_of_lt_of_le hm1 hp
  have hy : ((2 ^ 64 - 2 ^ w : Nat) : Int) < 2 ^ 64 := by
    have : (2 ^ 64 - 2 ^ w : Nat) < 2 ^ 64 := by omega
    exact_mod_cast this
  simp only [binI, BitVec.toNat_or]
  rw [ofInt_toNat IntKind.u64.bits _ h0 hx, ofInt_toNat IntKind.u64.bits _ (by omega) hy]
  simp only [Int.toNat_natCast]
  have e : (2 ^ 64 - 2 ^ w : Nat) = (2 ^ (64 - w) - 1) <<< w := by
    rw [Nat.shiftLeft_eq, Nat.sub_mul, ← Nat.pow_add, Nat.sub_add_cancel hw, Nat.one_mul]
  have e2 : m ||| (2 ^ 64 - 2 ^ w) = (2 ^ 64 - 2 ^ w) + m := by
    rw [e, Nat.or_comm, ← Nat.shiftLeft_add_eq_or_of_lt hm1]
  rw [e2, wrap_u64]
  rw [Int.emod_eq_of_lt (by omega) (by omega)]
  omega
theorem shr_u64_1 (x : Int) : shI .shr .u64 x 1 = x / 2 := shr_ev .u64 x 1 (by decide)
theorem shr_u64_2 (x : Int) : shI .shr .u64 x 2 = x / 4 := shr_ev .u64 x 2 (by decide)
theorem shr_u64_3 (x : Int) : shI .shr .u64 x 3 = x / 8 := shr_ev .u64 x 3 (by decide)
theorem shr_u64_4 (x : Int) : shI .shr .u64 x 4 = x / 16 := shr_ev .u64 x 4 (by decide)
theorem shr_u64_5 (x : Int) : shI .shr .u64 x 5 = x / 32 := shr_ev .u64 x 5 (by decide)
theorem shr_u64_6 (x : Int) : shI .shr .u64 x 6 = x / 64 := shr_ev .u64 x 6 (by decide)
theorem shr_u64_7 (x : Int) : shI .shr .u64 x 7 = x / 128 := shr_ev .u64 x 7 (by decide)
theorem shr_u64_8 (x : Int) : shI .shr .u64 x 8 = x / 256 := shr_ev .u64 x 8 (by decide)
theorem shr_u64_9 (x : Int) : shI .shr .u64 x 9 = x / 512 := shr_ev .u64 x 9 (by decide)
theorem shr_u64_10 (x : Int) : shI .shr .u64 x 10 = x / 1024 := shr_ev .u64 x 10 (by decide)
theorem shr_u64_11 (x : Int) : shI .shr .u64 x 11 = x / 2048 := shr_ev .u64 x 11 (by decide)
theorem shr_u64_12 (x : Int) : shI .shr .u64 x 12 = x / 4096 := shr_ev .u64 x 12 (by decide)
theorem shr_u64_13 (x : Int) : shI .shr .u64 x 13 = x / 8192 := shr_ev .u64 x 13 (by decide)
theorem shr_u64_14 (x : Int) : shI .shr .u64 x 14 = x / 16384 := shr_ev .u64 x 14 (by decide)
theorem shr_u64_15 (x : Int) : shI .shr .u64 x 15 = x / 32768 := shr_ev .u64 x 15 (by decide)
theorem shr_u64_16 (x : Int) : shI .shr .u64 x 16 = x / 65536 := shr_ev .u64 x 16 (by decide)
theorem shr_u64_17 (x : Int) : shI .shr .u64 x 17 = x / 131072 := shr_ev .u64 x 17 (by decide)
theorem shr_u64_18 (x : Int) : shI .shr .u64 x 18 = x / 262144 := shr_ev .u64 x 18 (by decide)
theorem shr_u64_19 (x : Int) : shI .shr .u64 x 19 = x / 524288 := shr_ev .u64 x 19 (by decide)
theorem shr_u64_20 (x : Int) : shI .shr .u64 x 20 = x / 1048576 := shr_ev .u64 x 20 (by decide)
theorem shr_u64_21 (x : Int) : shI .shr .u64 x 21 = x / 2097152 := shr_ev .u64 x 21 (by decide)
theorem shr_u64_22 (x : Int) : shI .shr .u64 x 22 = x / 4194304 := shr_ev .u64 x 22 (by decide)
theorem shr_u64_23 (x : Int) : shI .shr .u64 x 23 = x / 8388608 := shr_ev .u64 x 23 (by decide)
theorem shr_u64_24 (x : Int) : shI .shr .u64 x 24 = x / 16777216 := shr_ev .u64 x 24 (by decide)
theorem shr_u64_25 (x : Int) : shI .shr .u64 x 25 = x / 33554432 := shr_ev .u64 x 25 (by decide)
theorem shr_u64_26 (x : Int) : shI .shr .u64 x 26 = x / 67108864 := shr_ev .u64 x 26 (by decide)
theorem shr_u64_27 (x : Int) : shI .shr .u64 x 27 = x / 134217728 := shr_ev .u64 x 27 (by decide)
theorem shr_u64_28 (x : Int) : shI .shr .u64 x 28 = x / 268435456 := shr_ev .u64 x 28 (by decide)
theorem shr_u64_29 (x : Int) : shI .shr .u64 x 29 = x / 536870912 := shr_ev .u64 x 29 (by decide)
theorem shr_u64_30 (x : Int) : shI .shr .u64 x 30 = x / 1073741824 := shr_ev .u64 x 30 (by decide)
theorem shr_u64_31 (x : Int) : shI .shr .u64 x 31 = x / 2147483648 := shr_ev .u64 x 31 (by decide)
theorem shr_u64_32 (x : Int) : shI .shr .u64 x 32 = x / 4294967296 := shr_ev .u64 x 32 (by decide)
theorem shr_u64_33 (x : Int) : shI .shr .u64 x 33 = x / 8589934592 := shr_ev .u64 x 33 (by decide)
theorem shr_u64_34 (x : Int) : shI .shr .u64 x 34 = x / 17179869184 := shr_ev .u64 x 34 (by decide)
theorem shr_u64_35 (x : Int) : shI .shr .u64 x 35 = x / 34359738368 := shr_ev .u64 x 35 (by decide)
theorem shr_u64_36 (x : Int) : shI .shr .u64 x 36 = x / 68719476736 := shr_ev .u64 x 36 (by decide)
theorem shr_u64_37 (x : Int) : shI .shr .u64 x 37 = x / 137438953472 := shr_ev .u64 x 37 (by decide)
theorem shr_u64_38 (x : Int) : shI .shr .u64 x 38 = x / 274877906944 := shr_ev .u64 x 38 (by decide)
theorem shr_u64_39 (x : Int) : shI .shr .u64 x 39 = x / 549755813888 := shr_ev .u64 x 39 (by decide)
theorem shr_u64_40 (x : Int) : shI .shr .u64 x 40 = x / 1099511627776 := shr_ev .u64 x 40 (by decide)
theorem shr_u64_41 (x : Int) : shI .shr .u64 x 41 = x / 2199023255552 := shr_ev .u64 x 41 (by decide)
theorem shr_u64_42 (x : Int) : shI .shr .u64 x 42 = x / 4398046511104 := shr_ev .u64 x 42 (by decide)
theorem shr_u64_43 (x : Int) : shI .shr .u64 x 43 = x / 8796093022208 := shr_ev .u64 x 43 (by decide)
theorem shr_u64_44 (x : Int) : shI .shr .u64 x 44 = x / 17592186044416 := shr_ev .u64 x 44 (by decide)
theorem shr_u64_45 (x : Int) : shI .shr .u64 x 45 = x / 35184372088832 := shr_ev .u64 x 45 (by decide)
theorem shr_u64_46 (x : Int) : shI .shr .u64 x 46 = x / 70368744177664 := shr_ev .u64 x 46 (by decide)
theorem shr_u64_47 (x : Int) : shI .shr .u64 x 47 = x / 140737488355328 := shr_ev .u64 x 47 (by decide)
theorem shr_u64_48 (x : Int) : shI .shr .u64 x 48 = x / 281474976710656 := shr_ev .u64 x 48 (by decide)
theorem shr_u64_49 (x : Int) : shI .shr .u64 x 49 = x / 562949953421312 := shr_ev .u64 x 49 (by decide)
theorem shr_u64_50 (x : Int) : shI .shr .u64 x 50 = x / 1125899906842624 := shr_ev .u64 x 50 (by decide)
theorem shr_u64_51 (x : Int) : shI .shr .u64 x 51 = x / 2251799813685248 := shr_ev .u64 x 51 (by decide)
theorem shr_u64_52 (x : Int) : shI .shr .u64 x 52 = x / 4503599627370496 := shr_ev .u64 x 52 (by decide)
theorem shr_u64_53 (x : Int) : shI .shr .u64 x 53 = x / 9007199254740992 := shr_ev .u64 x 53 (by decide)
theorem shr_u64_54 (x : Int) : shI .shr .u64 x 54 = x / 18014398509481984 := shr_ev .u64 x 54 (by decide)
theorem shr_u64_55 (x : Int) : shI .shr .u64 x 55 = x / 36028797018963968 := shr_ev .u64 x 55 (by decide)
theorem shr_u64_56 (x : Int) : shI .shr .u64 x 56 = x / 72057594037927936 := shr_ev .u64 x 56 (by decide)
theorem shr_u64_57 (x : Int) : shI .shr .u64 x 57 = x / 144115188075855872 := shr_ev .u64 x 57 (by decide)
theorem shr_u64_58 (x : Int) : shI .shr .u64 x 58 = x / 288230376151711744 := shr_ev .u64 x 58 (by decide)
theorem shr_u64_59 (x : Int) : shI .shr .u64 x 59 = x / 576460752303423488 := shr_ev .u64 x 59 (by decide)
theorem shr_u64_60 (x : Int) : shI .shr .u64 x 60 = x / 1152921504606846976 := shr_ev .u64 x 60 (by decide)
theorem shr_u64_61 (x : Int) : shI .shr .u64 x 61 = x / 2305843009213693952 := shr_ev .u64 x 61 (by decide)
theorem shr_u64_62 (x : Int) : shI .shr .u64 x 62 = x / 4611686018427387904 := shr_ev .u64 x 62 (by decide)
theorem shr_u64_63 (x : Int) : shI .shr .u64 x 63 = x / 9223372036854775808 := shr_ev .u64 x 63 (by decide)
theorem shr_u64_64 (x : Int) : shI .shr .u64 x 64 = x / 18446744073709551616 := shr_ev .u64 x 64 (by decide)
theorem shr_i64_1 (x : Int) : shI .shr .i64 x 1 = x / 2 := shr_ev .i64 x 1 (by decide)
theorem shr_i64_2 (x : Int) : shI .shr .i64 x 2 = x / 4 := shr_ev .i64 x 2 (by decide)
theorem shr_i64_3 (x : Int) : shI .shr .i64 x 3 = x / 8 := shr_ev .i64 x 3 (by decide)
theorem shr_i64_4 (x : Int) : shI .shr .i64 x 4 = x / 16 := shr_ev .i64 x 4 (by decide)
theorem shr_i64_5 (x : Int) : shI .shr .i64 x 5 = x / 32 := shr_ev .i64 x 5 (by decide)
theorem shr_i64_6 (x : Int) : shI .shr .i64 x 6 = x / 64 := shr_ev .i64 x 6 (by decide)
theorem shr_i64_7 (x : Int) : shI .shr .i64 x 7 = x / 128 := shr_ev .i64 x 7 (by decide)
theorem shr_i64_8 (x : Int) : shI .shr .i64 x 8 = x / 256 := shr_ev .i64 x 8 (by decide)
theorem shr_i64_9 (x : Int) : shI .shr .i64 x 9 = x / 512 := shr_ev .i64 x 9 (by decide)
theorem shr_i64_10 (x : Int) : shI .shr .i64 x 10 = x / 1024 := shr_ev .i64 x 10 (by decide)
theorem shr_i64_11 (x : Int) : shI .shr .i64 x 11 = x / 2048 := shr_ev .i64 x 11 (by decide)
theorem shr_i64_12 (x : Int) : shI .shr .i64 x 12 = x / 4096 := shr_ev .i64 x 12 (by decide)
theorem shr_i64_13 (x : Int) : shI .shr .i64 x 13 = x / 8192 := shr_ev .i64 x 13 (by decide)
theorem shr_i64_14 (x : Int) : shI .shr .i64 x 14 = x / 16384 := shr_ev .i64 x 14 (by decide)
theorem shr_i64_15 (x : Int) : shI .shr .i64 x 15 = x / 32768 := shr_ev .i64 x 15 (by decide)
theorem shr_i64_16 (x : Int) : shI .shr .i64 x 16 = x / 65536 := shr_ev .i64 x 16 (by decide)
theorem shr_i64_17 (x : Int) : shI .shr .i64 x 17 = x / 131072 := shr_ev .i64 x 17 (by decide)
theorem shr_i64_18 (x : Int) : shI .shr .i64 x 18 = x / 262144 := shr_ev .i64 x 18 (by decide)
theorem shr_i64_19 (x : Int) : shI .shr .i64 x 19 = x / 524288 := shr_ev .i64 x 19 (by decide)
theorem shr_i64_20 (x : Int) : shI .shr .i64 x 20 = x / 1048576 := shr_ev .i64 x 20 (by decide)
theorem shr_i64_21 (x : Int) : shI .shr .i64 x 21 = x / 2097152 := shr_ev .i64 x 21 (by decide)
theorem shr_i64_22 (x : Int) : shI .shr .i64 x 22 = x / 4194304 := shr_ev .i64 x 22 (by decide)
theorem shr_i64_23 (x : Int) : shI .shr .i64 x 23 = x / 8388608 := shr_ev .i64 x 23 (by decide)
theorem shr_i64_24 (x : Int) : shI .shr .i64 x 24 = x / 16777216 := shr_ev .i64 x 24 (by decide)
theorem shr_i64_25 (x : Int) : shI .shr .i64 x 25 = x / 33554432 := shr_ev .i64 x 25 (by decide)
theorem shr_i64_26 (x : Int) : shI .shr .i64 x 26 = x / 67108864 := shr_ev .i64 x 26 (by decide)
theorem shr_i64_27 (x : Int) : shI .shr .i64 x 27 = x / 134217728 := shr_ev .i64 x 27 (by decide)
theorem shr_i64_28 (x : Int) : shI .shr .i64 x 28 = x / 268435456 := shr_ev .i64 x 28 (by decide)
theorem shr_i64_29 (x : Int) : shI .shr .i64 x 29 = x / 536870912 := shr_ev .i64 x 29 (by decide)
theorem shr_i64_30 (x : Int) : shI .shr .i64 x 30 = x / 1073741824 := shr_ev .i64 x 30 (by decide)
theorem shr_i64_31 (x : Int) : shI .shr .i64 x 31 = x / 2147483648 := shr_ev .i64 x 31 (by decide)
theorem shr_i64_32 (x : Int) : shI .shr .i64 x 32 = x / 4294967296 := shr_ev .i64 x 32 (by decide)
theorem shr_i64_33 (x : Int) : shI .shr .i64 x 33 = x / 8589934592 := shr_ev .i64 x 33 (by decide)
theorem shr_i64_34 (x : Int) : shI .shr .i64 x 34 = x / 17179869184 := shr_ev .i64 x 34 (by decide)
theorem shr_i64_35 (x : Int) : shI .shr .i64 x 35 = x / 34359738368 := shr_ev .i64 x 35 (by decide)
theorem shr_i64_36 (x : Int) : shI .shr .i64 x 36 = x / 68719476736 := shr_ev .i64 x 36 (by decide)
theorem shr_i64_37 (x : Int) : shI .shr .i64 x 37 = x / 137438953472 := shr_ev .i64 x 37 (by decide)
theorem shr_i64_38 (x : Int) : shI .shr .i64 x 38 = x / 274877906944 := shr_ev .i64 x 38 (by decide)
theorem shr_i64_39 (x : Int) : shI .shr .i64 x 39 = x / 549755813888 := shr_ev .i64 x 39 (by decide)
theorem shr_i64_40 (x : Int) : shI .shr .i64 x 40 = x / 1099511627776 := shr_ev .i64 x 40 (by decide)
theorem shr_i64_41 (x : Int) : shI .shr .i64 x 41 = x / 2199023255552 := shr_ev .i64 x 41 (by decide)
theorem shr_i64_42 (x : Int) : shI .shr .i64 x 42 = x / 4398046511104 := shr_ev .i64 x 42 (by decide)
theorem shr_i64_43 (x : Int) : shI .shr .i64 x 43 = x / 8796093022208 := shr_ev .i64 x 43 (by decide)
theorem shr_i64_44 (x : Int) : shI .shr .i64 x 44 = x / 17592186044416 := shr_ev .i64 x 44 (by decide)
theorem shr_i64_45 (x : Int) : shI .shr .i64 x 45 = x / 35184372088832 := shr_ev .i64 x 45 (by decide)
theorem shr_i64_46 (x : Int) : shI .shr .i64 x 46 = x / 70368744177664 := shr_ev .i64 x 46 (by decide)
theorem shr_i64_47 (x : Int) : shI .shr .i64 x 47 = x / 140737488355328 := shr_ev .i64 x 47 (by decide)
theorem shr_i64_48 (x : Int) : shI .shr .i64 x 48 = x / 281474976710656 := shr_ev .i64 x 48 (by decide)
theorem shr_i64_49 (x : Int) : shI .shr .i64 x 49 = x / 562949953421312 := shr_ev .i64 x 49 (by decide)
theorem shr_i64_50 (x : Int) : shI .shr .i64 x 50 = x / 1125899906842624 := shr_ev .i64 x 50 (by decide)
theorem shr_i64_51 (x : Int) : shI .shr .i64 x 51 = x / 2251799813685248 := shr_ev .i64 x 51 (by decide)
theorem shr_i64_52 (x : Int) : shI .shr .i64 x 52 = x / 4503599627370496 := shr_ev .i64 x 52 (by decide)
theorem shr_i64_53 (x : Int) : shI .shr .i64 x 53 = x / 9007199254740992 := shr_ev .i64 x 53 (by decide)
theorem shr_i64_54 (x : Int) : shI .shr .i64 x 54 = x / 18014398509481984 := shr_ev .i64 x 54 (by decide)
theorem shr_i64_55 (x : Int) : shI .shr .i64 x 55 = x / 36028797018963968 := shr_ev .i64 x 55 (by decide)
theorem shr_i64_56 (x : Int) : shI .shr .i64 x 56 = x / 72057594037927936 := shr_ev .i64 x 56 (by decide)
theorem shr_i64_57 (x : Int) : shI .shr .i64 x 57 = x / 144115188075855872 := shr_ev .i64 x 57 (by decide)
theorem shr_i64_58 (x : Int) : shI .shr .i64 x 58 = x / 288230376151711744 := shr_ev .i64 x 58 (by decide)
theorem shr_i64_59 (x : Int) : shI .shr .i64 x 59 = x / 576460752303423488 := shr_ev .i64 x 59 (by decide)
theorem shr_i64_60 (x : Int) : shI .shr .i64 x 60 = x / 1152921504606846976 := shr_ev .i64 x 60 (by decide)
theorem shr_i64_61 (x : Int) : shI .shr .i64 x 61 = x / 2305843009213693952 := shr_ev .i64 x 61 (by decide)
theorem shr_i64_62 (x : Int) : shI .shr .i64 x 62 = x / 4611686018427387904 := shr_ev .i64 x 62 (by decide)
theorem shr_i64_63 (x : Int) : shI .shr .i64 x 63 = x / 9223372036854775808 := shr_ev .i64 x 63 (by decide)
theorem shr_i64_64 (x : Int) : shI .shr .i64 x 64 = x / 18446744073709551616 := shr_ev .i64 x 64 (by decide)
theorem shr_u32_1 (x : Int) : shI .shr .u32 x 1 = x / 2 := shr_ev .u32 x 1 (by decide)
theorem shr_u32_2 (x : Int) : shI .shr .u32 x 2 = x / 4 := shr_ev .u32 x 2 (by decide)
theorem shr_u32_3 (x : Int) : shI .shr .u32 x 3 = x / 8 := shr_ev .u32 x 3 (by decide)
theorem shr_u32_4 (x : Int) : shI .shr .u32 x 4 = x / 16 := shr_ev .u32 x 4 (by decide)
theorem shr_u32_5 (x : Int) : shI .shr .u32 x 5 = x / 32 := shr_ev .u32 x 5 (by decide)
theorem shr_u32_6 (x : Int) : shI .shr .u32 x 6 = x / 64 := shr_ev .u32 x 6 (by decide)
theorem shr_u32_7 (x : Int) : shI .shr .u32 x 7 = x / 128 := shr_ev .u32 x 7 (by decide)
theorem shr_u32_8 (x : Int) : shI .shr .u32 x 8 = x / 256 := shr_ev .u32 x 8 (by decide)
theorem shr_u32_9 (x : Int) : shI .shr .u32 x 9 = x / 512 := shr_ev .u32 x 9 (by decide)
theorem shr_u32_10 (x : Int) : shI .shr .u32 x 10 = x / 1024 := shr_ev .u32 x 10 (by decide)
theorem shr_u32_11 (x : Int) : shI .shr .u32 x 11 = x / 2048 := shr_ev .u32 x 11 (by decide)
theorem shr_u32_12 (x : Int) : shI .shr .u32 x 12 = x / 4096 := shr_ev .u32 x 12 (by decide)
theorem shr_u32_13 (x : Int) : shI .shr .u32 x 13 = x / 8192 := shr_ev .u32 x 13 (by decide)
theorem shr_u32_14 (x : Int) : shI .shr .u32 x 14 = x / 16384 := shr_ev .u32 x 14 (by decide)
theorem shr_u32_15 (x : Int) : shI .shr .u32 x 15 = x / 32768 := shr_ev .u32 x 15 (by decide)
theorem shr_u32_16 (x : Int) : shI .shr .u32 x 16 = x / 65536 := shr_ev .u32 x 16 (by decide)
theorem shr_u32_17 (x : Int) : shI .shr .u32 x 17 = x / 131072 := shr_ev .u32 x 17 (by decide)
theorem shr_u32_18 (x : Int) : shI .shr .u32 x 18 = x / 262144 := shr_ev .u32 x 18 (by decide)
theorem shr_u32_19 (x : Int) : shI .shr .u32 x 19 = x / 524288 := shr_ev .u32 x 19 (by decide)
theorem shr_u32_20 (x : Int) : shI .shr .u32 x 20 = x / 1048576 := shr_ev .u32 x 20 (by decide)
theorem shr_u32_21 (x : Int) : shI .shr .u32 x 21 = x / 2097152 := shr_ev .u32 x 21 (by decide)
theorem shr_u32_22 (x : Int) : shI .shr .u32 x 22 = x / 4194304 := shr_ev .u32 x 22 (by decide)
theorem shr_u32_23 (x : Int) : shI .shr .u32 x 23 = x / 8388608 := shr_ev .u32 x 23 (by decide)
theorem shr_u32_24 (x : Int) : shI .shr .u32 x 24 = x / 16777216 := shr_ev .u32 x 24 (by decide)
theorem shr_u32_25 (x : Int) : shI .shr .u32 x 25 = x / 33554432 := shr_ev .u32 x 25 (by decide)
theorem shr_u32_26 (x : Int) : shI .shr .u32 x 26 = x / 67108864 := shr_ev .u32 x 26 (by decide)
theorem shr_u32_27 (x : Int) : shI .shr .u32 x 27 = x / 134217728 := shr_ev .u32 x 27 (by decide)
theorem shr_u32_28 (x : Int) : shI .shr .u32 x 28 = x / 268435456 := shr_ev .u32 x 28 (by decide)
theorem shr_u32_29 (x : Int) : shI .shr .u32 x 29 = x / 536870912 := shr_ev .u32 x 29 (by decide)
theorem shr_u32_30 (x : Int) : shI .shr .u32 x 30 = x / 1073741824 := shr_ev .u32 x 30 (by decide)
theorem shr_u32_31 (x : Int) : shI .shr .u32 x 31 = x / 2147483648 := shr_ev .u32 x 31 (by decide)
theorem shr_u32_32 (x : Int) : shI .shr .u32 x 32 = x / 4294967296 := shr_ev .u32 x 32 (by decide)
theorem shl_u64_1 (x : Int) : shI .shl .u64 x 1 = IntKind.wrap .u64 (x * 2) := shl_ev .u64 x 1 (by decide)
theorem shl_u64_2 (x : Int) : shI .shl .u64 x 2 = IntKind.wrap .u64 (x * 4) := shl_ev .u64 x 2 (by decide)
theorem shl_u64_3 (x : Int) : shI .shl .u64 x 3 = IntKind.wrap .u64 (x * 8) := shl_ev .u64 x 3 (by decide)
theorem shl_u64_4 (x : Int) : shI .shl .u64 x 4 = IntKind.wrap .u64 (x * 16) := shl_ev .u64 x 4 (by decide)
theorem shl_u64_5 (x : Int) : shI .shl .u64 x 5 = IntKind.wrap .u64 (x * 32) := shl_ev .u64 x 5 (by decide)
theorem shl_u64_6 (x : Int) : shI .shl .u64 x 6 = IntKind.wrap .u64 (x * 64) := shl_ev .u64 x 6 (by decide)
theorem shl_u64_7 (x : Int) : shI .shl .u64 x 7 = IntKind.wrap .u64 (x * 128) := shl_ev .u64 x 7 (by decide)
theorem shl_u64_8 (x : Int) : shI .shl .u64 x 8 = IntKind.wrap .u64 (x * 256) := shl_ev .u64 x 8 (by decide)
theorem shl_u64_9 (x : Int) : shI .shl .u64 x 9 = IntKind.wrap .u64 (x * 512) := shl_ev .u64 x 9 (by decide)
theorem shl_u64_10 (x : Int) : shI .shl .u64 x 10 = IntKind.wrap .u64 (x * 1024) := shl_ev .u64 x 10 (by decide)
theorem shl_u64_11 (x : Int) : shI .shl .u64 x 11 = IntKind.wrap .u64 (x * 2048) := shl_ev .u64 x 11 (by decide)
theorem shl_u64_12 (x : Int) : shI .shl .u64 x 12 = IntKind.wrap .u64 (x * 4096) := shl_ev .u64 x 12 (by decide)
theorem shl_u64_13 (x : Int) : shI .shl .u64 x 13 = IntKind.wrap .u64 (x * 8192) := shl_ev .u64 x 13 (by decide)
theorem shl_u64_14 (x : Int) : shI .shl .u64 x 14 = IntKind.wrap .u64 (x * 16384) := shl_ev .u64 x 14 (by decide)
theorem shl_u64_15 (x : Int) : shI .shl .u64 x 15 = IntKind.wrap .u64 (x * 32768) := shl_ev .u64 x 15 (by decide)
theorem shl_u64_16 (x : Int) : shI .shl .u64 x 16 = IntKind.wrap .u64 (x * 65536) := shl_ev .u64 x 16 (by decide)
theorem shl_u64_17 (x : Int) : shI .shl .u64 x 17 = IntKind.wrap .u64 (x * 131072) := shl_ev .u64 x 17 (by decide)
theorem shl_u64_18 (x : Int) : shI .shl .u64 x 18 = IntKind.wrap .u64 (x * 262144) := shl_ev .u64 x 18 (by decide)
theorem shl_u64_19 (x : Int) : shI .shl .u64 x 19 = IntKind.wrap .u64 (x * 524288) := shl_ev .u64 x 19 (by decide)
theorem shl_u64_20 (x : Int) : shI .shl .u64 x 20 = IntKind.wrap .u64 (x * 1048576) := shl_ev .u64 x 20 (by decide)
theorem shl_u64_21 (x : Int) : shI .shl .u64 x 21 = IntKind.wrap .u64 (x * 2097152) := shl_ev .u64 x 21 (by decide)
theorem shl_u64_22 (x : Int) : shI .shl .u64 x 22 = IntKind.wrap .u64 (x * 4194304) := shl_ev .u64 x 22 (by decide)
theorem shl_u64_23 (x : Int) : shI .shl .u64 x 23 = IntKind.wrap .u64 (x * 8388608) := shl_ev .u64 x 23 (by decide)
theorem shl_u64_24 (x : Int) : shI .shl .u64 x 24 = IntKind.wrap .u64 (x * 16777216) := shl_ev .u64 x 24 (by decide)
theorem shl_u64_25 (x : Int) : shI .shl .u64 x 25 = IntKind.wrap .u64 (x * 33554432) := shl_ev .u64 x 25 (by decide)
theorem shl_u64_26 (x : Int) : shI .shl .u64 x 26 = IntKind.wrap .u64 (x * 67108864) := shl_ev .u64 x 26 (by decide)
theorem shl_u64_27 (x : Int) : shI .shl .u64 x 27 = IntKind.wrap .u64 (x * 134217728) := shl_ev .u64 x 27 (by decide)
theorem shl_u64_28 (x : Int) : shI .shl .u64 x 28 = IntKind.wrap .u64 (x * 268435456) := shl_ev .u64 x 28 (by decide)
theorem shl_u64_29 (x : Int) : shI .shl .u64 x 29 = IntKind.wrap .u64 (x * 536870912) := shl_ev .u64 x 29 (by decide)
theorem shl_u64_30 (x : Int) : shI .shl .u64 x 30 = IntKind.wrap .u64 (x * 1073741824) := shl_ev .u64 x 30 (by decide)
theorem shl_u64_31 (x : Int) : shI .shl .u64 x 31 = IntKind.wrap .u64 (x * 2147483648) := shl_ev .u64 x 31 (by decide)
theorem shl_u64_32 (x : Int) : shI .shl .u64 x 32 = IntKind.wrap .u64 (x * 4294967296) := shl_ev .u64 x 32 (by decide)
theorem shl_u64_33 (x : Int) : shI .shl .u64 x 33 = IntKind.wrap .u64 (x * 8589934592) := shl_ev .u64 x 33 (by decide)
theorem shl_u64_34 (x : Int) : shI .shl .u64 x 34 = IntKind.wrap .u64 (x * 17179869184) := shl_ev .u64 x 34 (by decide)
theorem shl_u64_35 (x : Int) : shI .shl .u64 x 35 = IntKind.wrap .u64 (x * 34359738368) := shl_ev .u64 x 35 (by decide)
theorem shl_u64_36 (x : Int) : shI .shl .u64 x 36 = IntKind.wrap .u64 (x * 68719476736) := shl_ev .u64 x 36 (by decide)
theorem shl_u64_37 (x : Int) : shI .shl .u64 x 37 = IntKind.wrap .u64 (x * 137438953472) := shl_ev .u64 x 37 (by decide)
theorem shl_u64_38 (x : Int) : shI .shl .u64 x 38 = IntKind.wrap .u64 (x * 274877906944) := shl_ev .u64 x 38 (by decide)
theorem shl_u64_39 (x : Int) : shI .shl .u64 x 39 = IntKind.wrap .u64 (x * 549755813888) := shl_ev .u64 x 39 (by decide)
theorem shl_u64_40 (x : Int) : shI .shl .u64 x 40 = IntKind.wrap .u64 (x * 1099511627776) := shl_ev .u64 x 40 (by decide)
theorem shl_u64_41 (x : Int) : shI .shl .u64 x 41 = IntKind.wrap .u64 (x * 2199023255552) := shl_ev .u64 x 41 (by decide)
theorem shl_u64_42 (x : Int) : shI .shl .u64 x 42 = IntKind.wrap .u64 (x * 4398046511104) := shl_ev .u64 x 42 (by decide)
theorem shl_u64_43 (x : Int) : shI .shl .u64 x 43 = IntKind.wrap .u64 (x * 8796093022208) := shl_ev .u64 x 43 (by decide)
theorem shl_u64_44 (x : Int) : shI .shl .u64 x 44 = IntKind.wrap .u64 (x * 17592186044416) := shl_ev .u64 x 44 (by decide)
theorem shl_u64_45 (x : Int) : shI .shl .u64 x 45 = IntKind.wrap .u64 (x * 35184372088832) := shl_ev .u64 x 45 (by decide)
theorem shl_u64_46 (x : Int) : shI .shl .u64 x 46 = IntKind.wrap .u64 (x * 70368744177664) := shl_ev .u64 x 46 (by decide)
theorem shl_u64_47 (x : Int) : shI .shl .u64 x 47 = IntKind.wrap .u64 (x * 140737488355328) := shl_ev .u64 x 47 (by decide)
theorem shl_u64_48 (x : Int) : shI .shl .u64 x 48 = IntKind.wrap .u64 (x * 281474976710656) := shl_ev .u64 x 48 (by decide)
theorem shl_u64_49 (x : Int) : shI .shl .u64 x 49 = IntKind.wrap .u64 (x * 562949953421312) := shl_ev .u64 x 49 (by decide)
theorem shl_u64_50 (x : Int) : shI .shl .u64 x 50 = IntKind.wrap .u64 (x * 1125899906842624) := shl_ev .u64 x 50 (by decide)
theorem shl_u64_51 (x : Int) : shI .shl .u64 x 51 = IntKind.wrap .u64 (x * 2251799813685248) := shl_ev .u64 x 51 (by decide)
theorem shl_u64_52 (x : Int) : shI .shl .u64 x 52 = IntKind.wrap .u64 (x * 4503599627370496) := shl_ev .u64 x 52 (by decide)
theorem shl_u64_53 (x : Int) : shI .shl .u64 x 53 = IntKind.wrap .u64 (x * 9007199254740992) := shl_ev .u64 x 53 (by decide)
theorem shl_u64_54 (x : Int) : shI .shl .u64 x 54 = IntKind.wrap .u64 (x * 18014398509481984) := shl_ev .u64 x 54 (by decide)
theorem shl_u64_55 (x : Int) : shI .shl .u64 x 55 = IntKind.wrap .u64 (x * 36028797018963968) := shl_ev .u64 x 55 (by decide)
theorem shl_u64_56 (x : Int) : shI .shl .u64 x 56 = IntKind.wrap .u64 (x * 72057594037927936) := shl_ev .u64 x 56 (by decide)
theorem shl_u64_57 (x : Int) : shI .shl .u64 x 57 = IntKind.wrap .u64 (x * 144115188075855872) := shl_ev .u64 x 57 (by decide)
theorem shl_u64_58 (x : Int) : shI .shl .u64 x 58 = IntKind.wrap .u64 (x * 288230376151711744) := shl_ev .u64 x 58 (by decide)
theorem shl_u64_59 (x : Int) : shI .shl .u64 x 59 = IntKind.wrap .u64 (x * 576460752303423488) := shl_ev .u64 x 59 (by decide)
theorem shl_u64_60 (x : Int) : shI .shl .u64 x 60 = IntKind.wrap .u64 (x * 1152921504606846976) := shl_ev .u64 x 60 (by decide)
theorem shl_u64_61 (x : Int) : shI .shl .u64 x 61 = IntKind.wrap .u64 (x * 2305843009213693952) := shl_ev .u64 x 61 (by decide)
theorem shl_u64_62 (x : Int) : shI .shl .u64 x 62 = IntKind.wrap .u64 (x * 4611686018427387904) := shl_ev .u64 x 62 (by decide)
theorem shl_u64_63 (x : Int) : shI .shl .u64 x 63 = IntKind.wrap .u64 (x * 9223372036854775808) := shl_ev .u64 x 63 (by decide)
theorem shl_u64_64 (x : Int) : shI .shl .u64 x 64 = IntKind.wrap .u64 (x * 18446744073709551616) := shl_ev .u64 x 64 (by decide)
theorem shl_u64_0 (x : Int) : shI .shl .u64 x 0 = IntKind.wrap .u64 (x * 1) := shl_ev .u64 x 0 (by decide)
theorem shr_u64_0 (x : Int) : shI .shr .u64 x 0 = x / 1 := shr_ev .u64 x 0 (by decide)
theorem shl_i64_1 (x : Int) : shI .shl .i64 x 1 = IntKind.wrap .i64 (x * 2) := shl_ev .i64 x 1 (by decide)
theorem shl_i64_2 (x : Int) : shI .shl .i64 x 2 = IntKind.wrap .i64 (x * 4) := shl_ev .i64 x 2 (by decide)
theorem shl_i64_3 (x : Int) : shI .shl .i64 x 3 = IntKind.wrap .i64 (x * 8) := shl_ev .i64 x 3 (by decide)
theorem shl_i64_4 (x : Int) : shI .shl .i64 x 4 = IntKind.wrap .i64 (x * 16) := shl_ev .i64 x 4 (by decide)
theorem shl_i64_5 (x : Int) : shI .shl .i64 x 5 = IntKind.wrap .i64 (x * 32) := shl_ev .i64 x 5 (by decide)
theorem shl_i64_6 (x : Int) : shI .shl .i64 x 6 = IntKind.wrap .i64 (x * 64) := shl_ev .i64 x 6 (by decide)
theorem shl_i64_7 (x : Int) : shI .shl .i64 x 7 = IntKind.wrap .i64 (x * 128) := shl_ev .i64 x 7 (by decide)
theorem shl_i64_8 (x : Int) : shI .shl .i64 x 8 = IntKind.wrap .i64 (x * 256) := shl_ev .i64 x 8 (by decide)
theorem shl_i64_9 (x : Int) : shI .shl .i64 x 9 = IntKind.wrap .i64 (x * 512) := shl_ev .i64 x 9 (by decide)
theorem shl_i64_10 (x : Int) : shI .shl .i64 x 10 = IntKind.wrap .i64 (x * 1024) := shl_ev .i64 x 10 (by decide)
theorem shl_i64_11 (x : Int) : shI .shl .i64 x 11 = IntKind.wrap .i64 (x * 2048) := shl_ev .i64 x 11 (by decide)
theorem shl_i64_12 (x : Int) : shI .shl .i64 x 12 = IntKind.wrap .i64 (x * 4096) := shl_ev .i64 x 12 (by decide)
theorem shl_i64_13 (x : Int) : shI .shl .i64 x 13 = IntKind.wrap .i64 (x * 8192) := shl_ev .i64 x 13 (by decide)
theorem shl_i64_14 (x : Int) : shI .shl .i64 x 14 = IntKind.wrap .i64 (x * 16384) := shl_ev .i64 x 14 (by decide)
theorem shl_i64_15 (x : Int) : shI .shl .i64 x 15 = IntKind.wrap .i64 (x * 32768) := shl_ev .i64 x 15 (by decide)
theorem shl_i64_16 (x : Int) : shI .shl .i64 x 16 = IntKind.wrap .i64 (x * 65536) := shl_ev .i64 x 16 (by decide)
theorem shl_i64_17 (x : Int) : shI .shl .i64 x 17 = IntKind.wrap .i64 (x * 131072) := shl_ev .i64 x 17 (by decide)
theorem shl_i64_18 (x : Int) : shI .shl .i64 x 18 = IntKind.wrap .i64 (x * 262144) := shl_ev .i64 x 18 (by decide)
theorem shl_i64_19 (x : Int) : shI .shl .i64 x 19 = IntKind.wrap .i64 (x * 524288) := shl_ev .i64 x 19 (by decide)
theorem shl_i64_20 (x : Int) : shI .shl .i64 x 20 = IntKind.wrap .i64 (x * 1048576) := shl_ev .i64 x 20 (by decide)
theorem shl_i64_21 (x : Int) : shI .shl .i64 x 21 = IntKind.wrap .i64 (x * 2097152) := shl_ev .i64 x 21 (by decide)
theorem shl_i64_22 (x : Int) : shI .shl .i64 x 22 = IntKind.wrap .i64 (x * 4194304) := shl_ev .i64 x 22 (by decide)
theorem shl_i64_23 (x : Int) : shI .shl .i64 x 23 = IntKind.wrap .i64 (x * 8388608) := shl_ev .i64 x 23 (by decide)
theorem shl_i64_24 (x : Int) : shI .shl .i64 x 24 = IntKind.wrap .i64 (x * 16777216) := shl_ev .i64 x 24 (by decide)
theorem shl_i64_25 (x : Int) : shI .shl .i64 x 25 = IntKind.wrap .i64 (x * 33554432) := shl_ev .i64 x 25 (by decide)
theorem shl_i64_26 (x : Int) : shI .shl .i64 x 26 = IntKind.wrap .i64 (x * 67108864) := shl_ev .i64 x 26 (by decide)
theorem shl_i64_27 (x : Int) : shI .shl .i64 x 27 = IntKind.wrap .i64 (x * 134217728) := shl_ev .i64 x 27 (by decide)
theorem shl_i64_28 (x : Int) : shI .shl .i64 x 28 = IntKind.wrap .i64 (x * 268435456) := shl_ev .i64 x 28 (by decide)
theorem shl_i64_29 (x : Int) : shI .shl .i64 x 29 = IntKind.wrap .i64 (x * 536870912) := shl_ev .i64 x 29 (by decide)
theorem shl_i64_30 (x : Int) : shI .shl .i64 x 30 = IntKind.wrap .i64 (x * 1073741824) := shl_ev .i64 x 30 (by decide)
theorem shl_i64_31 (x : Int) : shI .shl .i64 x 31 = IntKind.wrap .i64 (x * 2147483648) := shl_ev .i64 x 31 (by decide)
theorem shl_i64_32 (x : Int) : shI .shl .i64 x 32 = IntKind.wrap .i64 (x * 4294967296) := shl_ev .i64 x 32 (by decide)
theorem shl_i64_33 (x : Int) : shI .shl .i64 x 33 = IntKind.wrap .i64 (x * 8589934592) := shl_ev .i64 x 33 (by decide)
theorem shl_i64_34 (x : Int) : shI .shl .i64 x 34 = IntKind.wrap .i64 (x * 17179869184) := shl_ev .i64 x 34 (by decide)
theorem shl_i64_35 (x : Int) : shI .shl .i64 x 35 = IntKind.wrap .i64 (x * 34359738368) := shl_ev .i64 x 35 (by decide)
theorem shl_i64_36 (x : Int) : shI .shl .i64 x 36 = IntKind.wrap .i64 (x * 68719476736) := shl_ev .i64 x 36 (by decide)
theorem shl_i64_37 (x : Int) : shI .shl .i64 x 37 = IntKind.wrap .i64 (x * 137438953472) := shl_ev .i64 x 37 (by decide)
theorem shl_i64_38 (x : Int) : shI .shl .i64 x 38 = IntKind.wrap .i64 (x * 274877906944) := shl_ev .i64 x 38 (by decide)
theorem shl_i64_39 (x : Int) : shI .shl .i64 x 39 = IntKind.wrap .i64 (x * 549755813888) := shl_ev .i64 x 39 (by decide)
theorem shl_i64_40 (x : Int) : shI .shl .i64 x 40 = IntKind.wrap .i64 (x * 1099511627776) := shl_ev .i64 x 40 (by decide)
theorem shl_i64_41 (x : Int) : shI .shl .i64 x 41 = IntKind.wrap .i64 (x * 2199023255552) := shl_ev .i64 x 41 (by decide)
theorem shl_i64_42 (x : Int) : shI .shl .i64 x 42 = IntKind.wrap .i64 (x * 4398046511104) := shl_ev .i64 x 42 (by decide)
theorem shl_i64_43 (x : Int) : shI .shl .i64 x 43 = IntKind.wrap .i64 (x * 8796093022208) := shl_ev .i64 x 43 (by decide)
theorem shl_i64_44 (x : Int) : shI .shl .i64 x 44 = IntKind.wrap .i64 (x * 17592186044416) := shl_ev .i64 x 44 (by decide)
theorem shl_i64_45 (x : Int) : shI .shl .i64 x 45 = IntKind.wrap .i64 (x * 35184372088832) := shl_ev .i64 x 45 (by decide)
theorem shl_i64_46 (x : Int) : shI .shl .i64 x 46 = IntKind.wrap .i64 (x * 70368744177664) := shl_ev .i64 x 46 (by decide)
theorem shl_i64_47 (x : Int) : shI .shl .i64 x 47 = IntKind.wrap .i64 (x * 140737488355328) := shl_ev .i64 x 47 (by decide)
theorem shl_i64_48 (x : Int) : shI .shl .i64 x 48 = IntKind.wrap .i64 (x * 281474976710656) := shl_ev .i64 x 48 (by decide)
theorem shl_i64_49 (x : Int) : shI .shl .i64 x 49 = IntKind.wrap .i64 (x * 562949953421312) := shl_ev .i64 x 49 (by decide)
theorem shl_i64_50 (x : Int) : shI .shl .i64 x 50 = IntKind.wrap .i64 (x * 1125899906842624) := shl_ev .i64 x 50 (by decide)
theorem shl_i64_51 (x : Int) : shI .shl .i64 x 51 = IntKind.wrap .i64 (x * 2251799813685248) := shl_ev .i64 x 51 (by decide)
theorem shl_i64_52 (x : Int) : shI .shl .i64 x 52 = IntKind.wrap .i64 (x * 4503599627370496) := shl_ev .i64 x 52 (by decide)
theorem shl_i64_53 (x : Int) : shI .shl .i64 x 53 = IntKind.wrap .i64 (x * 9007199254740992) := shl_ev .i64 x 53 (by decide)
theorem shl_i64_54 (x : Int) : shI .shl .i64 x 54 = IntKind.wrap .i64 (x * 18014398509481984) := shl_ev .i64 x 54 (by decide)
theorem shl_i64_55 (x : Int) : shI .shl .i64 x 55 = IntKind.wrap .i64 (x * 36028797018963968) := shl_ev .i64 x 55 (by decide)
theorem shl_i64_56 (x : Int) : shI .shl .i64 x 56 = IntKind.wrap .i64 (x * 72057594037927936) := shl_ev .i64 x 56 (by decide)
theorem shl_i64_57 (x : Int) : shI .shl .i64 x 57 = IntKind.wrap .i64 (x * 144115188075855872) := shl_ev .i64 x 57 (by decide)
theorem shl_i64_58 (x : Int) : shI .shl .i64 x 58 = IntKind.wrap .i64 (x * 288230376151711744) := shl_ev .i64 x 58 (by decide)
theorem shl_i64_59 (x : Int) : shI .shl .i64 x 59 = IntKind.wrap .i64 (x * 576460752303423488) := shl_ev .i64 x 59 (by decide)
theorem shl_i64_60 (x : Int) : shI .shl .i64 x 60 = IntKind.wrap .i64 (x * 1152921504606846976) := shl_ev .i64 x 60 (by decide)
theorem shl_i64_61 (x : Int) : shI .shl .i64 x 61 = IntKind.wrap .i64 (x * 2305843009213693952) := shl_ev .i64 x 61 (by decide)
theorem shl_i64_62 (x : Int) : shI .shl .i64 x 62 = IntKind.wrap .i64 (x * 4611686018427387904) := shl_ev .i64 x 62 (by decide)
theorem shl_i64_63 (x : Int) : shI .shl .i64 x 63 = IntKind.wrap .i64 (x * 9223372036854775808) := shl_ev .i64 x 63 (by decide)
theorem shl_i64_64 (x : Int) : shI .shl .i64 x 64 = IntKind.wrap .i64 (x * 18446744073709551616) := shl_ev .i64 x 64 (by decide)
theorem shl_i64_0 (x : Int) : shI .shl .i64 x 0 = IntKind.wrap .i64 (x * 1) := shl_ev .i64 x 0 (by decide)
theorem shr_i64_0 (x : Int) : shI .shr .i64 x 0 = x / 1 := shr_ev .i64 x 0 (by decide)
theorem and_u64_1 (x : Int) (h0 : 0 ≤ x) (h1 : x < 18446744073709551616) : binI .and .u64 x 1 = x % 2 := and_low .u64 rfl x 1 (by decide) h0 h1
theorem and_u64_8 (x : Int) (h0 : 0 ≤ x) (h1 : x < 18446744073709551616) : binI .and .u64 x 255 = x % 256 := and_low .u64 rfl x 8 (by decide) h0 h1
theorem and_u64_16 (x : Int) (h0 : 0 ≤ x) (h1 : x < 18446744073709551616) : binI .and .u64 x 65535 = x % 65536 := and_low .u64 rfl x 16 (by decide) h0 h1
theorem and_u64_32 (x : Int) (h0 : 0 ≤ x) (h1 : x < 18446744073709551616) : binI .and .u64 x 4294967295 = x % 4294967296 := and_low .u64 rfl x 32 (by decide) h0 h1
theorem and_u64_64 (x : Int) (h0 : 0 ≤ x) (h1 : x < 18446744073709551616) : binI .and .u64 x 18446744073709551615 = x % 18446744073709551616 := and_low .u64 rfl x 64 (by decide) h0 h1
theorem and_u32_exp (x : Int) (h0 : 0 ≤ x) (h1 : x < 4294967296) : binI .and .u32 x 2139095040 = x / 8388608 % 256 * 8388608 := and_mid .u32 rfl x 8 23 (by decide) h0 h1
theorem or_u64_8 (x : Int) (h0 : 0 ≤ x) (h1 : x < 256) : binI .or .u64 x 18446744073709551360 = x + 18446744073709551360 := or_high x 8 (by decide) h0 h1
theorem or_u64_16 (x : Int) (h0 : 0 ≤ x) (h1 : x < 65536) : binI .or .u64 x 18446744073709486080 = x + 18446744073709486080 := or_high x 16 (by decide) h0 h1
theorem or_u64_32 (x : Int) (h0 : 0 ≤ x) (h1 : x < 4294967296) : binI .or .u64 x 18446744069414584320 = x + 18446744069414584320 := or_high x 32 (by decide) h0 h1
theorem or_u64_64 (x : Int) (h0 : 0 ≤ x) (h1 : x < 18446744073709551616) : binI .or .u64 x 0 = x := by
  have := or_high x 64 (by decide) h0 h1
  simpa using this
theorem quo_u64 (x c : Int) (h0 : 0 ≤ x) (h1 : x < 18446744073709551616) (hc : 0 < c) : binI .quo .u64 x c = x / c := by
  simp only [binI, wrap_u64]
  rw [Int.tdiv_eq_ediv_of_nonneg h0]
  have h2 : 0 ≤ x / c := Int.ediv_nonneg h0 (by omega)
  have h3 : x / c ≤ x := Int.ediv_le_self _ h0
  omega
theorem rem_u64 (x c : Int) (h0 : 0 ≤ x) : binI .rem .u64 x c = x % c := by
  simp only [binI]
  exact Int.tmod_eq_emod_of_nonneg h0
theorem cmp_eql_t {a c : Int} (h : a = c) : cmpI .eql a c = true := by simp [cmpI, h]
theorem cmp_eql_f {a c : Int} (h : a ≠ c) : cmpI .eql a c = false := by simp [cmpI, h]
theorem cmp_neq_t {a c : Int} (h : a ≠ c) : cmpI .neq a c = true := by simp [cmpI, h]
theorem cmp_neq_f {a c : Int} (h : a = c) : cmpI .neq a c = false := by simp [cmpI, h]
theorem cmp_lss_t {a c : Int} (h : a < c) : cmpI .lss a c = true := by simp [cmpI, h]
theorem cmp_lss_f {a c : Int} (h : c ≤ a) : cmpI .lss a c = false := by simp [cmpI]; omega
theorem cmp_leq_t {a c : Int} (h : a ≤ c) : cmpI .leq a c = true := by simp [cmpI, h]
theorem cmp_leq_f {a c : Int} (h : c < a) : cmpI .leq a c = false := by simp [cmpI]; omega
theorem cmp_gtr_t {a c : Int} (h : c < a) : cmpI .gtr a c = true := by simp [cmpI, h]
theorem cmp_gtr_f {a c : Int} (h : a ≤ c) : cmpI .gtr a c = false := by simp [cmpI]; omega
theorem cmp_geq_t {a c : Int} (h : c ≤ a) : cmpI .geq a c = true := by simp [cmpI, h]
theorem cmp_geq_f {a c : Int} (h : a < c) : cmpI .geq a c = false := by simp [cmpI]; omega
theorem ev_add (k : IntKind) (x y : Int) : binI .add k x y = k.wrap (x + y) := rfl
theorem ev_sub (k : IntKind) (x y : Int) : binI .sub k x y = k.wrap (x - y) := rfl
theorem ev_mul (k : IntKind) (x y : Int) : binI .mul k x y = k.wrap (x * y) := rfl
end
end Go.RX
