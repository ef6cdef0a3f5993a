import Derived.Test.YtdmbnllekmgnhaaDoorRXN
namespace Go.RX
noncomputable section

/-! ### A shift to the right of an integer of 128 bits -/
theorem or_pow {x y s : Nat} (hx : x < 2 ^ s) : x ||| y * 2 ^ s = x + y * 2 ^ s := by
  have h := Nat.shiftLeft_add_eq_or_of_lt hx y
  rw [Nat.shiftLeft_eq] at h
  rw [Nat.or_comm, ← h, Nat.add_comm]

theorem shr_lo (n : Int) (s : Nat) (hs : s ≤ 63) : binI .or .u64 (n % 18446744073709551616 / 2 ^ s) (n / 18446744073709551616 % 18446744073709551616 * 2 ^ (64 - s) % 18446744073709551616) = n / 2 ^ s % 18446744073709551616 := by
  have hp : (0 : Int) < 2 ^ s := Int.pow_pos (by decide)
  have hq : (0 : Int) < 2 ^ (64 - s) := Int.pow_pos (by decide)
  have hpq : (2 : Int) ^ s * 2 ^ (64 - s) = 18446744073709551616 := by
    rw [← Int.pow_add, show s + (64 - s) = 64 by omega]
    rfl
  have hqn : ((2 ^ (64 - s) : Nat) : Int) = 2 ^ (64 - s) := by
    rw [Int.natCast_pow]
    rfl
  generalize hP : (2 : Int) ^ s = p at *
  generalize hQ : (2 : Int) ^ (64 - s) = q at *
  have hn : n = n / 18446744073709551616 * 18446744073709551616 + n % 18446744073709551616 := by omega
  have hL0 : 0 ≤ n % 18446744073709551616 := by omega
  have hL1 : n % 18446744073709551616 < p * q := by rw [hpq]; omega
  generalize n / 18446744073709551616 = A at *
  generalize n % 18446744073709551616 = L at *
  have e1 : n / p = L / p + A * q := by
    rw [hn, ← hpq, show A * (p * q) + L = L + A * q * p by rw [Int.mul_comm p q, ← Int.mul_assoc, Int.add_comm], Int.add_mul_ediv_right _ _ (Int.ne_of_gt hp)]
  have e3 : A % 18446744073709551616 % p = A % p := Int.emod_emod_of_dvd _ ⟨q, hpq.symm⟩
  have e2 : A % 18446744073709551616 * q % 18446744073709551616 = A % p * q := by
    rw [← e3]
    have := Int.mul_emod_mul_of_pos (A % 18446744073709551616) p hq
    rw [Int.mul_comm q p, hpq] at this
    rw [Int.mul_comm _ q, this, Int.mul_comm q]
  have x0 : 0 ≤ L / p := Int.ediv_nonneg hL0 (Int.le_of_lt hp)
  have x1 : L / p < q := Int.ediv_lt_of_lt_mul hp (by rw [Int.mul_comm]; exact hL1)
  have y0 : 0 ≤ A % p := Int.emod_nonneg _ (Int.ne_of_gt hp)
  have y1 : A % p < p := Int.emod_lt_of_pos _ hp
  have hsum : A % p * q + L / p < 18446744073709551616 := by
    have h1 : (A % p + 1) * q ≤ p * q := Int.mul_le_mul_of_nonneg_right (by omega) (Int.le_of_lt hq)
    rw [hpq, Int.add_mul, Int.one_mul] at h1
    omega
  have hyq : 0 ≤ A % p * q := Int.mul_nonneg y0 (Int.le_of_lt hq)
  rw [e2, e1]
  have e6 : (L / p + A * q) % 18446744073709551616 = L / p + A % p * q := by
    have h2 : A * q = A % p * q + A / p * 18446744073709551616 := by
      have := Int.emod_add_mul_ediv A p
      conv => lhs; rw [← this]
      rw [Int.add_mul, ← hpq, Int.mul_comm p (A / p), Int.mul_assoc]
    rw [h2, ← Int.add_assoc, Int.add_mul_emod_self_right]
    exact Int.emod_eq_of_lt (by omega) (by omega)
  rw [e6]
  obtain ⟨x, hx⟩ := Int.eq_ofNat_of_zero_le x0
  obtain ⟨y, hy⟩ := Int.eq_ofNat_of_zero_le y0
  rw [hx] at x1 hsum
  rw [hy] at hsum hyq
  rw [hx, hy, ← hqn] at *
  have hx' : x < 2 ^ (64 - s) := by omega
  have e5 : ((y : Nat) : Int) * ((2 ^ (64 - s) : Nat) : Int) = ((y * 2 ^ (64 - s) : Nat) : Int) := by rw [Int.natCast_mul]
  rw [e5] at hsum ⊢
  rw [or_nat (by omega) (by omega), or_pow hx']
  omega
end
end Go.RX
