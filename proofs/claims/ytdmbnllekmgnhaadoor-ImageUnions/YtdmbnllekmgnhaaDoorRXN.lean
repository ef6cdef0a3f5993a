import Derived.Test.YtdmbnllekmgnhaaDoorRXM
import Derived.Test.YtdmbnllekmgnhaaDoorRXB
namespace Go.RX
noncomputable section

/-! ### Products, quotients, and bits of two symbols -/
theorem mulM {M : Int} (hM : M ∣ 18446744073709551616) {x y x' y' : Int} (h1 : x % M = x' % M) (h2 : y % M = y' % M) : (x * y) % 18446744073709551616 % M = (x' * y') % 18446744073709551616 % M := by
  rw [Int.emod_emod_of_dvd _ hM, Int.emod_emod_of_dvd _ hM, Int.mul_emod, h1, h2, ← Int.mul_emod]

/-- The quotient and the remainder of integers by those of their sizes. -/
theorem ediv_pm (a b : Int) : a / b = -(a / (-b)) ∧ a % b = a % (-b) := by
  constructor
  · rw [Int.ediv_neg, Int.neg_neg]
  · rw [Int.emod_neg]
theorem ediv_mp {a b : Int} (hb : 0 < b) : (a / b = if (-a) % b = 0 then -((-a) / b) else -((-a) / b + 1)) ∧ (a % b = if (-a) % b = 0 then 0 else b - (-a) % b) := by
  have h0 := Int.emod_nonneg (-a) (Int.ne_of_gt hb)
  have h1 := Int.emod_lt_of_pos (-a) hb
  have h2 := Int.mul_ediv_add_emod (-a) b
  by_cases hr : (-a) % b = 0
  · rw [if_pos hr, if_pos hr]
    refine (Int.ediv_emod_unique hb).2 ⟨?_, Int.le_refl 0, hb⟩
    rw [hr] at h2
    rw [Int.mul_neg]
    omega
  · rw [if_neg hr, if_neg hr]
    refine (Int.ediv_emod_unique hb).2 ⟨?_, by omega, by omega⟩
    rw [Int.mul_neg, Int.mul_add, Int.mul_one]
    omega

/-- Go's quotient by the same. -/
theorem tdiv_np {a b : Int} (ha : a < 0) : a.tdiv b = -((-a) / b) ∧ a.tmod b = -((-a) % b) := by
  constructor
  · rw [← Int.tdiv_eq_ediv_of_nonneg (by omega), Int.neg_tdiv, Int.neg_neg]
  · rw [← Int.tmod_eq_emod_of_nonneg (by omega), Int.neg_tmod, Int.neg_neg]
theorem tdiv_pp {a b : Int} (ha : 0 ≤ a) : a.tdiv b = a / b ∧ a.tmod b = a % b := ⟨Int.tdiv_eq_ediv_of_nonneg ha, Int.tmod_eq_emod_of_nonneg ha⟩

theorem u64_nat {n : Nat} (h : n < 18446744073709551616) : (BitVec.ofInt IntKind.u64.bits (n : Int)).toNat = n := by
  rw [ofInt_toNat IntKind.u64.bits _ (by omega) (by show (n : Int) < 2 ^ 64; omega)]
  simp
theorem and_nat {x y : Nat} (hx : x < 18446744073709551616) (hy : y < 18446744073709551616) : binI .and .u64 (x : Int) (y : Int) = ((x &&& y : Nat) : Int) := by
  show IntKind.wrap .u64 (((BitVec.ofInt IntKind.u64.bits (x : Int) &&& BitVec.ofInt IntKind.u64.bits (y : Int)).toNat : Nat) : Int) = _
  rw [BitVec.toNat_and, u64_nat hx, u64_nat hy, wrap_u64]
  have h : x &&& y ≤ x := Nat.and_le_left
  omega
theorem or_nat {x y : Nat} (hx : x < 18446744073709551616) (hy : y < 18446744073709551616) : binI .or .u64 (x : Int) (y : Int) = ((x ||| y : Nat) : Int) := by
  show IntKind.wrap .u64 (((BitVec.ofInt IntKind.u64.bits (x : Int) ||| BitVec.ofInt IntKind.u64.bits (y : Int)).toNat : Nat) : Int) = _
  rw [BitVec.toNat_or, u64_nat hx, u64_nat hy, wrap_u64]
  have h : x ||| y < 2 ^ 64 := Nat.or_lt_two_pow hx hy
  omega
theorem xor_nat {x y : Nat} (hx : x < 18446744073709551616) (hy : y < 18446744073709551616) : binI .xor .u64 (x : Int) (y : Int) = ((x ^^^ y : Nat) : Int) := by
  show IntKind.wrap .u64 (((BitVec.ofInt IntKind.u64.bits (x : Int) ^^^ BitVec.ofInt IntKind.u64.bits (y : Int)).toNat : Nat) : Int) = _
  rw [BitVec.toNat_xor, u64_nat hx, u64_nat hy, wrap_u64]
  have h : x ^^^ y < 2 ^ 64 := Nat.xor_lt_two_pow hx hy
  omega

/-- Bits of numbers that are alike below a power of 2. -/
theorem bitsM {op : BinOp} (hop : op = .and ∨ op = .or ∨ op = .xor) (w : Nat) {x y x' y' : Int} (x0 : 0 ≤ x) (x1 : x < 18446744073709551616) (y0 : 0 ≤ y) (y1 : y < 18446744073709551616) (x2 : 0 ≤ x') (x3 : x' < 18446744073709551616) (y2 : 0 ≤ y') (y3 : y' < 18446744073709551616)
    (h1 : x % ((2 ^ w : Nat) : Int) = x' % ((2 ^ w : Nat) : Int)) (h2 : y % ((2 ^ w : Nat) : Int) = y' % ((2 ^ w : Nat) : Int)) : binI op .u64 x y % ((2 ^ w : Nat) : Int) = binI op .u64 x' y' % ((2 ^ w : Nat) : Int) := by
  obtain ⟨a, rfl⟩ := Int.eq_ofNat_of_zero_le x0
  obtain ⟨b, rfl⟩ := Int.eq_ofNat_of_zero_le y0
  obtain ⟨c, rfl⟩ := Int.eq_ofNat_of_zero_le x2
  obtain ⟨d, rfl⟩ := Int.eq_ofNat_of_zero_le y2
  have e1 : a % 2 ^ w = c % 2 ^ w := by exact_mod_cast h1
  have e2 : b % 2 ^ w = d % 2 ^ w := by exact_mod_cast h2
  rcases hop with rfl | rfl | rfl
  · rw [and_nat (by omega) (by omega), and_nat (by omega) (by omega), ← Int.natCast_emod, ← Int.natCast_emod, Nat.and_mod_two_pow, Nat.and_mod_two_pow, e1, e2]
  · rw [or_nat (by omega) (by omega), or_nat (by omega) (by omega), ← Int.natCast_emod, ← Int.natCast_emod, Nat.or_mod_two_pow, Nat.or_mod_two_pow, e1, e2]
  · rw [xor_nat (by omega) (by omega), xor_nat (by omega) (by omega), ← Int.natCast_emod, ← Int.natCast_emod, Nat.xor_mod_two_pow, Nat.xor_mod_two_pow, e1, e2]

/-- A shift to the left by less than 64. -/
theorem shlM {M : Int} (hM : M ∣ 18446744073709551616) {x x' : Int} (h : x % M = x' % M) (n : Nat) : (x * 2 ^ n) % 18446744073709551616 % M = (x' * 2 ^ n) % M := by
  rw [Int.emod_emod_of_dvd _ hM, Int.mul_emod, h, ← Int.mul_emod]
end
end Go.RX
