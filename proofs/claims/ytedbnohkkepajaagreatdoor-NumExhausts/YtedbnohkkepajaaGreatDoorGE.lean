import Derived.Test.YtedbnohkkepajaaGreatDoorGA
namespace Go.Proofs.YtedbnohkkepajaaGreatDoor
noncomputable section
open Go Go.RX
open Go.RowKit (Below)
set_option maxRecDepth 1000000
set_option maxHeartbeats 4000000

theorem wrapi_id (n : Int) (h0 : -4611686018427387904 ≤ n) (h1 : n < 4611686018427387904) : IntKind.wrap .i64 n = n := by rw [wrap_i64]; omega
theorem wrapu_id (n : Int) (h0 : 0 ≤ n) (h1 : n < 18446744073709551616) : IntKind.wrap .u64 n = n := by rw [wrap_u64]; omega
theorem qi_p (x c : Int) (h0 : 0 ≤ x) (h1 : x < 4611686018427387904) (hc : 0 < c) : binI .quo .i64 x c = x / c := by
  have h2 : 0 ≤ x / c := Int.ediv_nonneg h0 (by omega)
  have h3 : x / c ≤ x := Int.ediv_le_self _ h0
  simp only [binI]
  rw [Int.tdiv_eq_ediv_of_nonneg h0, wrapi_id _ (by omega) (by omega)]
theorem qi_n (x c : Int) (h0 : x < 0) (h1 : -4611686018427387904 < x) (hc : 0 < c) : binI .quo .i64 x c = -((-x) / c) := by
  have h2 : 0 ≤ (-x) / c := Int.ediv_nonneg (by omega) (by omega)
  have h3 : (-x) / c ≤ -x := Int.ediv_le_self _ (by omega)
  simp only [binI]
  have e : x.tdiv c = -((-x) / c) := by rw [← Int.tdiv_eq_ediv_of_nonneg (by omega), Int.neg_tdiv, Int.neg_neg]
  rw [e, wrapi_id _ (by omega) (by omega)]
theorem ri_p (x c : Int) (h0 : 0 ≤ x) : binI .rem .i64 x c = x % c := Int.tmod_eq_emod_of_nonneg h0
theorem ri_n (x c : Int) (h0 : x < 0) : binI .rem .i64 x c = -((-x) % c) := by
  show x.tmod c = _
  rw [← Int.tmod_eq_emod_of_nonneg (by omega), Int.neg_tmod, Int.neg_neg]
theorem and_i64_low (x : Int) (n : Nat) (hn : n ≤ 62) : binI .and .i64 x (2 ^ n - 1) = x % 2 ^ n := by
  have hp : (2 : Nat) ^ n ≤ 2 ^ 62 := Nat.pow_le_pow_right (by decide) hn
  have hp0 : 1 ≤ 2 ^ n := Nat.one_le_two_pow
  have hm : (2 ^ n - 1 : Int) = ((2 ^ n - 1 : Nat) : Int) := by
    rw [Int.natCast_sub Nat.one_le_two_pow]
    simp
  have e1 : (BitVec.ofInt IntKind.i64.bits ((2 ^ n - 1 : Nat) : Int)).toNat = 2 ^ n - 1 := by
    rw [ofInt_toNat IntKind.i64.bits _ (by omega) (by have h : ((2 ^ n - 1 : Nat) : Int) < ((2 ^ 64 : Nat) : Int) := by exact_mod_cast (by omega : 2 ^ n - 1 < 2 ^ 64)
                                                      exact_mod_cast h)]
    simp
  simp only [binI, BitVec.toNat_and]
  rw [hm, e1, Nat.and_two_pow_sub_one_eq_mod, BitVec.toNat_ofInt]
  have h1 : (x % ((2 ^ IntKind.i64.bits : Nat) : Int)).toNat % 2 ^ n < 2 ^ n := Nat.mod_lt _ (by omega)
  have h2 : (((x % ((2 ^ IntKind.i64.bits : Nat) : Int)).toNat % 2 ^ n : Nat) : Int) = x % 2 ^ n := by
    rw [Int.natCast_emod, Int.toNat_of_nonneg (Int.emod_nonneg _ (by decide))]
    have hd : ((2 ^ n : Nat) : Int) ∣ ((2 ^ IntKind.i64.bits : Nat) : Int) := by
      exact_mod_cast Nat.pow_dvd_pow 2 (show n ≤ IntKind.i64.bits by show n ≤ 64; omega)
    rw [Int.emod_emod_of_dvd _ hd]
    simp
  rw [wrapi_id _ (by omega) (by have h3 : (((x % ((2 ^ IntKind.i64.bits : Nat) : Int)).toNat % 2 ^ n : Nat) : Int) < ((2 ^ n : Nat) : Int) := by exact_mod_cast h1
                                have h4 : ((2 ^ n : Nat) : Int) ≤ ((2 ^ 62 : Nat) : Int) := by exact_mod_cast hp
                                have h5 : ((2 ^ 62 : Nat) : Int) = 4611686018427387904 := rfl
                                omega)]
  exact h2
theorem and_i64_8 (x : Int) : binI .and .i64 x 255 = x % 256 := and_i64_low x 8 (by decide)
theorem and_i64_32 (x : Int) : binI .and .i64 x 4294967295 = x % 4294967296 := and_i64_low x 32 (by decide)
theorem tri0 (x y c : Int) : triI 0 x y c = (x + y + c) / 18446744073709551616 := rfl
theorem tri1 (x y c : Int) (h0 : 0 ≤ x) (h1 : x < 18446744073709551616) (g0 : 0 ≤ y) (g1 : y < 18446744073709551616) (c0 : 0 ≤ c) (c1 : c ≤ 1) : triI 1 x y c = (y + c - x + 18446744073709551615) / 18446744073709551616 := by
  simp only [triI]
  split <;> omega
theorem tri2 (x y c : Int) : triI 2 x y c = max x y := by
  simp only [triI]
  split <;> omega
theorem tri3 (x y c : Int) : triI 3 x y c = min x y := by
  simp only [triI]
  split <;> omega
theorem wmul_1 (x y : Int) : IntKind.wrap .u64 ((x + 18446744073709551616) * y) = IntKind.wrap .u64 (x * y) := by
  rw [Int.add_mul, wrap_u64, wrap_u64, Int.add_mul_emod_self_left]
theorem wmul_2 (x y : Int) : IntKind.wrap .u64 (x * (y + 18446744073709551616)) = IntKind.wrap .u64 (x * y) := by
  rw [Int.mul_add, wrap_u64, wrap_u64, Int.add_mul_emod_self_right]
theorem wmul_3 (x y : Int) : IntKind.wrap .u64 ((x + 18446744073709551616) * (y + 18446744073709551616)) = IntKind.wrap .u64 (x * y) := by
  rw [wmul_1, wmul_2]
theorem divmul (a b : Int) : a / b * b = a - a % b := by
  have := Int.emod_add_mul_ediv a b
  rw [Int.mul_comm]
  omega
theorem cmp_eql_n {a c : Int} (h : ¬ a = c) : cmpI .eql a c = false := cmp_eql_f h
theorem cmp_neq_n {a c : Int} (h : ¬ a ≠ c) : cmpI .neq a c = false := cmp_neq_f (by omega)
theorem cmp_lss_n {a c : Int} (h : ¬ a < c) : cmpI .lss a c = false := cmp_lss_f (by omega)
theorem cmp_leq_n {a c : Int} (h : ¬ a ≤ c) : cmpI .leq a c = false := cmp_leq_f (by omega)
theorem cmp_gtr_n {a c : Int} (h : ¬ a > c) : cmpI .gtr a c = false := cmp_gtr_f (by omega)
theorem cmp_geq_n {a c : Int} (h : ¬ a ≥ c) : cmpI .geq a c = false := cmp_geq_f (by omega)
theorem or63 (x y : Int) (h0 : 0 ≤ x) (h1 : x < 18446744073709551616) (g0 : 0 ≤ y) (g1 : y < 18446744073709551616) (hy : y % 9223372036854775808 = 0) : binI .or .u64 x y % 256 = x % 256 := by
  obtain ⟨m, rfl⟩ := Int.eq_ofNat_of_zero_le h0
  obtain ⟨n, rfl⟩ := Int.eq_ofNat_of_zero_le g0
  have hn : n % 9223372036854775808 = 0 := by omega
  simp only [binI, BitVec.toNat_or]
  rw [ofInt_toNat IntKind.u64.bits _ h0 h1, ofInt_toNat IntKind.u64.bits _ g0 g1]
  simp only [Int.toNat_natCast, wrap_u64]
  have hk : (m ||| n) % 256 = m % 256 := by
    have e : n = (n / 256) <<< 8 := by rw [Nat.shiftLeft_eq]; omega
    rw [e, show (256 : Nat) = 2 ^ 8 from rfl]
    apply Nat.eq_of_testBit_eq
    intro j
    simp only [Nat.testBit_mod_two_pow, Nat.testBit_or, Nat.testBit_shiftLeft]
    by_cases hj : j < 8
    · have : ¬ 8 ≤ j := by omega
      simp [hj, this]
    · simp [hj]
  have hlt : m ||| n < 2 ^ 64 := Nat.or_lt_two_pow (by omega) (by omega)
  omega
theorem eVx_p (x y : Int) (h0 : 0 ≤ x) (h1 : x ≤ 127) : IE.ev (rho (x % 256) (y % 256) x y) (.var 0) = x := by
  simp only [IE.ev, rho_0]
  omega
theorem esx_p (x y : Int) (h0 : 0 ≤ x) (h1 : x ≤ 127) : IE.ev (rho (x % 256) (y % 256) x y) (.sh .shr .i64 (.cv .i64 (.sh .shl .u64 (.var 0) (.lit 56))) (.lit 56)) = x := by
  simp only [IE.ev, rho_0, shl_u64_56, shr_i64_56, wrap_i64, wrap_u64]
  omega
theorem eSx_p (x y : Int) (h0 : 0 ≤ x) (h1 : x ≤ 127) : IE.ev (rho (x % 256) (y % 256) x y) (.cv .u64 (.sh .shr .i64 (.cv .i64 (.sh .shl .u64 (.var 0) (.lit 56))) (.lit 56))) = x := by
  simp only [IE.ev, rho_0, shl_u64_56, shr_i64_56, wrap_i64, wrap_u64]
  omega
theorem ehx_p (x y : Int) (h0 : 0 ≤ x) (h1 : x ≤ 127) : IE.ev (rho (x % 256) (y % 256) x y) (.sh .shr .i64 (.sh .shr .i64 (.cv .i64 (.sh .shl .u64 (.var 0) (.lit 56))) (.lit 56)) (.lit 63)) = 0 := by
  simp only [IE.ev, rho_0, shl_u64_56, shr_i64_56, shr_i64_63, wrap_i64, wrap_u64]
  omega
theorem eHx_p (x y : Int) (h0 : 0 ≤ x) (h1 : x ≤ 127) : IE.ev (rho (x % 256) (y % 256) x y) (.cv .u64 (.sh .shr .i64 (.sh .shr .i64 (.cv .i64 (.sh .shl .u64 (.var 0) (.lit 56))) (.lit 56)) (.lit 63))) = 0 := by
  simp only [IE.ev, rho_0, shl_u64_56, shr_i64_56, shr_i64_63, wrap_i64, wrap_u64]
  omega
theorem eix_p (x y : Int) (h0 : 0 ≤ x) (h1 : x ≤ 127) : IE.ev (rho (x % 256) (y % 256) x y) (.cv .i64 (.cv .u64 (.sh .shr .i64 (.sh .shr .i64 (.cv .i64 (.sh .shl .u64 (.var 0) (.lit 56))) (.lit 56)) (.lit 63)))) = 0 := by
  simp only [IE.ev, rho_0, shl_u64_56, shr_i64_56, shr_i64_63, wrap_i64, wrap_u64]
  omega
theorem eVx_n (x y : Int) (h0 : -128 ≤ x) (h1 : x < 0) : IE.ev (rho (x % 256) (y % 256) x y) (.var 0) = x + 256 := by
  simp only [IE.ev, rho_0]
  omega
theorem esx_n (x y : Int) (h0 : -128 ≤ x) (h1 : x < 0) : IE.ev (rho (x % 256) (y % 256) x y) (.sh .shr .i64 (.cv .i64 (.sh .shl .u64 (.var 0) (.lit 56))) (.lit 56)) = x := by
  simp only [IE.ev, rho_0, shl_u64_56, shr_i64_56, wrap_i64, wrap_u64]
  omega
theorem eSx_n (x y : Int) (h0 : -128 ≤ x) (h1 : x < 0) : IE.ev (rho (x % 256) (y % 256) x y) (.cv .u64 (.sh .shr .i64 (.cv .i64 (.sh .shl .u64 (.var 0) (.lit 56))) (.lit 56))) = x + 18446744073709551616 := by
  simp only [IE.ev, rho_0, shl_u64_56, shr_i64_56, wrap_i64, wrap_u64]
  omega
theorem ehx_n (x y : Int) (h0 : -128 ≤ x) (h1 : x < 0) : IE.ev (rho (x % 256) (y % 256) x y) (.sh .shr .i64 (.sh .shr .i64 (.cv .i64 (.sh .shl .u64 (.var 0) (.lit 56))) (.lit 56)) (.lit 63)) = -1 := by
  simp only [IE.ev, rho_0, shl_u64_56, shr_i64_56, shr_i64_63, wrap_i64, wrap_u64]
  omega
theorem eHx_n (x y : Int) (h0 : -128 ≤ x) (h1 : x < 0) : IE.ev (rho (x % 256) (y % 256) x y) (.cv .u64 (.sh .shr .i64 (.sh .shr .i64 (.cv .i64 (.sh .shl .u64 (.var 0) (.lit 56))) (.lit 56)) (.lit 63))) = 18446744073709551615 := by
  simp only [IE.ev, rho_0, shl_u64_56, shr_i64_56, shr_i64_63, wrap_i64, wrap_u64]
  omega
theorem eix_n (x y : Int) (h0 : -128 ≤ x) (h1 : x < 0) : IE.ev (rho (x % 256) (y % 256) x y) (.cv .i64 (.cv .u64 (.sh .shr .i64 (.sh .shr .i64 (.cv .i64 (.sh .shl .u64 (.var 0) (.lit 56))) (.lit 56)) (.lit 63)))) = -1 := by
  simp only [IE.ev, rho_0, shl_u64_56, shr_i64_56, shr_i64_63, wrap_i64, wrap_u64]
  omega
theorem eNx_n (x y : Int) (h0 : -128 ≤ x) (h1 : x < 0) : IE.ev (rho (x % 256) (y % 256) x y) (.bin .sub .u64 (.lit 0) (.cv .u64 (.sh .shr .i64 (.cv .i64 (.sh .shl .u64 (.var 0) (.lit 56))) (.lit 56)))) = -x := by
  simp only [IE.ev, rho_0, shl_u64_56, shr_i64_56, wrap_i64, wrap_u64, ev_sub]
  omega
theorem eVy_p (x y : Int) (h0 : 0 ≤ y) (h1 : y ≤ 127) : IE.ev (rho (x % 256) (y % 256) x y) (.var 1) = y := by
  simp only [IE.ev, rho_1]
  omega
theorem esy_p (x y : Int) (h0 : 0 ≤ y) (h1 : y ≤ 127) : IE.ev (rho (x % 256) (y % 256) x y) (.sh .shr .i64 (.cv .i64 (.sh .shl .u64 (.var 1) (.lit 56))) (.lit 56)) = y := by
  simp only [IE.ev, rho_1, shl_u64_56, shr_i64_56, wrap_i64, wrap_u64]
  omega
theorem eSy_p (x y : Int) (h0 : 0 ≤ y) (h1 : y ≤ 127) : IE.ev (rho (x % 256) (y % 256) x y) (.cv .u64 (.sh .shr .i64 (.cv .i64 (.sh .shl .u64 (.var 1) (.lit 56))) (.lit 56))) = y := by
  simp only [IE.ev, rho_1, shl_u64_56, shr_i64_56, wrap_i64, wrap_u64]
  omega
theorem ehy_p (x y : Int) (h0 : 0 ≤ y) (h1 : y ≤ 127) : IE.ev (rho (x % 256) (y % 256) x y) (.sh .shr .i64 (.sh .shr .i64 (.cv .i64 (.sh .shl .u64 (.var 1) (.lit 56))) (.lit 56)) (.lit 63)) = 0 := by
  simp only [IE.ev, rho_1, shl_u64_56, shr_i64_56, shr_i64_63, wrap_i64, wrap_u64]
  omega
theorem eHy_p (x y : Int) (h0 : 0 ≤ y) (h1 : y ≤ 127) : IE.ev (rho (x % 256) (y % 256) x y) (.cv .u64 (.sh .shr .i64 (.sh .shr .i64 (.cv .i64 (.sh .shl .u64 (.var 1) (.lit 56))) (.lit 56)) (.lit 63))) = 0 := by
  simp only [IE.ev, rho_1, shl_u64_56, shr_i64_56, shr_i64_63, wrap_i64, wrap_u64]
  omega
theorem eiy_p (x y : Int) (h0 : 0 ≤ y) (h1 : y ≤ 127) : IE.ev (rho (x % 256) (y % 256) x y) (.cv .i64 (.cv .u64 (.sh .shr .i64 (.sh .shr .i64 (.cv .i64 (.sh .shl .u64 (.var 1) (.lit 56))) (.lit 56)) (.lit 63)))) = 0 := by
  simp only [IE.ev, rho_1, shl_u64_56, shr_i64_56, shr_i64_63, wrap_i64, wrap_u64]
  omega
theorem eVy_n (x y : Int) (h0 : -128 ≤ y) (h1 : y < 0) : IE.ev (rho (x % 256) (y % 256) x y) (.var 1) = y + 256 := by
  simp only [IE.ev, rho_1]
  omega
theorem esy_n (x y : Int) (h0 : -128 ≤ y) (h1 : y < 0) : IE.ev (rho (x % 256) (y % 256) x y) (.sh .shr .i64 (.cv .i64 (.sh .shl .u64 (.var 1) (.lit 56))) (.lit 56)) = y := by
  simp only [IE.ev, rho_1, shl_u64_56, shr_i64_56, wrap_i64, wrap_u64]
  omega
theorem eSy_n (x y : Int) (h0 : -128 ≤ y) (h1 : y < 0) : IE.ev (rho (x % 256) (y % 256) x y) (.cv .u64 (.sh .shr .i64 (.cv .i64 (.sh .shl .u64 (.var 1) (.lit 56))) (.lit 56))) = y + 18446744073709551616 := by
  simp only [IE.ev, rho_1, shl_u64_56, shr_i64_56, wrap_i64, wrap_u64]
  omega
theorem ehy_n (x y : Int) (h0 : -128 ≤ y) (h1 : y < 0) : IE.ev (rho (x % 256) (y % 256) x y) (.sh .shr .i64 (.sh .shr .i64 (.cv .i64 (.sh .shl .u64 (.var 1) (.lit 56))) (.lit 56)) (.lit 63)) = -1 := by
  simp only [IE.ev, rho_1, shl_u64_56, shr_i64_56, shr_i64_63, wrap_i64, wrap_u64]
  omega
theorem eHy_n (x y : Int) (h0 : -128 ≤ y) (h1 : y < 0) : IE.ev (rho (x % 256) (y % 256) x y) (.cv .u64 (.sh .shr .i64 (.sh .shr .i64 (.cv .i64 (.sh .shl .u64 (.var 1) (.lit 56))) (.lit 56)) (.lit 63))) = 18446744073709551615 := by
  simp only [IE.ev, rho_1, shl_u64_56, shr_i64_56, shr_i64_63, wrap_i64, wrap_u64]
  omega
theorem eiy_n (x y : Int) (h0 : -128 ≤ y) (h1 : y < 0) : IE.ev (rho (x % 256) (y % 256) x y) (.cv .i64 (.cv .u64 (.sh .shr .i64 (.sh .shr .i64 (.cv .i64 (.sh .shl .u64 (.var 1) (.lit 56))) (.lit 56)) (.lit 63)))) = -1 := by
  simp only [IE.ev, rho_1, shl_u64_56, shr_i64_56, shr_i64_63, wrap_i64, wrap_u64]
  omega
theorem eNy_n (x y : Int) (h0 : -128 ≤ y) (h1 : y < 0) : IE.ev (rho (x % 256) (y % 256) x y) (.bin .sub .u64 (.lit 0) (.cv .u64 (.sh .shr .i64 (.cv .i64 (.sh .shl .u64 (.var 1) (.lit 56))) (.lit 56)))) = -y := by
  simp only [IE.ev, rho_1, shl_u64_56, shr_i64_56, wrap_i64, wrap_u64, ev_sub]
  omega
theorem eVx_u (x y : Int) (h0 : 0 ≤ x) (h1 : x ≤ 255) : IE.ev (rho (x % 256) (y % 256) x y) (.var 0) = x := by
  simp only [IE.ev, rho_0]
  omega
theorem eVy_u (x y : Int) (h0 : 0 ≤ y) (h1 : y ≤ 255) : IE.ev (rho (x % 256) (y % 256) x y) (.var 1) = y := by
  simp only [IE.ev, rho_1]
  omega
end
end Go.Proofs.YtedbnohkkepajaaGreatDoor
