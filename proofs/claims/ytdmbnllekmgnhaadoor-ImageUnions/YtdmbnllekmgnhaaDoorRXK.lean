import Derived.Test.YtdmbnllekmgnhaaDoorRXJ
namespace Go.RX
noncomputable section
open Ieee

/-! ### Floats of 64 bits: a float of 32 bits as one, without its fraction, and what it is compared with -/
theorem dbl_binade : double.binade = 4503599627370496 := rfl
theorem dbl_sign : double.signWeight = 9223372036854775808 := rfl
theorem dbl_inf : double.infRung = 9218868437227405312 := rfl
theorem dbl_least : double.leastPlace = -1074 := rfl

/-- A number M * 2 ^ p of the format of 64 bits, in a form with further digits or places. -/
theorem nearest64 (neg : Bool) (M : Nat) (p : Int) (h0 : 4503599627370496 ≤ M) (h1 : M < 9007199254740992) (hp : -1074 ≤ p) (mag : Nat) (place : Int)
    (h : (∃ d : Nat, mag = M <<< d ∧ place = p - d) ∨ (∃ d : Nat, M = mag <<< d ∧ place = p + d)) : double.nearest neg mag place = double.word neg (min ((p + 1074).toNat * 4503599627370496 + M) 9218868437227405312) := by
  have hM0 : M ≠ 0 := by omega
  have hlM : M.log2 = 52 := by
    have a1 : M.log2 < 53 := (Nat.log2_lt hM0).2 (by omega)
    have a2 : 52 ≤ M.log2 := (Nat.le_log2 hM0).2 (by omega)
    omega
  unfold Format.nearest
  rcases h with ⟨d, rfl, rfl⟩ | ⟨d, hd, rfl⟩
  · have hz : M <<< d ≠ 0 := shift_ne hM0 d
    rw [if_neg hz]
    have hl : max (p - (d : Int) + ((M <<< d).log2 : Int) - (double.fractionBits : Int)) double.leastPlace = p := by
      rw [log2_shift M d hM0, hlM, dbl_least]
      show max (p - (d : Int) + ((52 + d : Nat) : Int) - 52) (-1074) = p
      omega
    simp only [hl]
    have e1 : (p - (d : Int) - p).toNat = 0 := by omega
    have e2 : (p - (p - (d : Int))).toNat = d := by omega
    rw [e1, e2, Nat.shiftLeft_zero, cut_exact neg M d hM0, dbl_least, dbl_binade, dbl_inf]
    simp
  · have hz : mag ≠ 0 := by
      intro e
      subst e
      simp at hd
      exact hM0 hd
    rw [if_neg hz]
    have hlog : M.log2 = mag.log2 + d := by rw [hd, log2_shift mag d hz]
    have hl : max (p + (d : Int) + (mag.log2 : Int) - (double.fractionBits : Int)) double.leastPlace = p := by
      rw [dbl_least]
      show max (p + (d : Int) + (mag.log2 : Int) - 52) (-1074) = p
      omega
    simp only [hl]
    have e1 : (p + (d : Int) - p).toNat = d := by omega
    have e2 : (p - (p + (d : Int))).toNat = 0 := by omega
    rw [e1, e2, cut_zero, ← hd, dbl_least, dbl_binade, dbl_inf]
    simp

theorem word64_lt (neg : Bool) {r : Nat} (h : r < 9218868437227405312) : double.word neg r < 18446744073709551616 := by
  unfold Format.word
  rw [dbl_sign]
  split <;> omega

theorem read64 (neg : Bool) (M : Nat) (p : Int) (h0 : 4503599627370496 ≤ M) (h1 : M < 9007199254740992) (hp : -1074 ≤ p) (hp2 : p ≤ 900) :
    double.read (double.word neg (min ((p + 1074).toNat * 4503599627370496 + M) 9218868437227405312)) = .number neg M p := by
  have hr : min ((p + 1074).toNat * 4503599627370496 + M) 9218868437227405312 = (p + 1074).toNat * 4503599627370496 + M := by omega
  rw [hr]
  generalize hR : (p + 1074).toNat * 4503599627370496 + M = R
  have hR1 : R < 9218868437227405312 := by omega
  unfold Format.read
  have e2 : double.word neg R % double.signWeight = R := by
    unfold Format.word
    rw [dbl_sign]
    split <;> omega
  have e3 : (double.word neg R / double.signWeight % 2 == 1) = neg := by
    unfold Format.word
    rw [dbl_sign]
    cases neg
    · have : R / 9223372036854775808 % 2 = 0 := by omega
      simp only [Bool.false_eq_true, if_false]
      rw [this]
      rfl
    · have : (9223372036854775808 + R) / 9223372036854775808 % 2 = 1 := by omega
      simp only [if_true]
      rw [this]
      rfl
  simp only [e2, e3]
  have h1' : ¬ R < double.binade := by rw [dbl_binade]; omega
  have h2' : R < double.infRung := by rw [dbl_inf]; omega
  rw [if_neg h1', if_pos h2', dbl_binade, dbl_least]
  have hq : R / 4503599627370496 = (p + 1074).toNat + 1 := by omega
  have hm : R % 4503599627370496 = M - 4503599627370496 := by omega
  rw [hq, hm]
  have f1 : 4503599627370496 + (M - 4503599627370496) = M := by omega
  have f2 : (-1074 : Int) + (((p + 1074).toNat + 1 - 1 : Nat) : Int) = p := by omega
  rw [f1, f2]

/-- A number that isn't 0, of at most 24 digits, as a float of 64 bits. -/
def k64 (m : Nat) : Nat := 52 - m.log2
theorem k64_ok {m : Nat} (h0 : m ≠ 0) (h1 : m < 9007199254740992) : 4503599627370496 ≤ m <<< k64 m ∧ m <<< k64 m < 9007199254740992 := by
  have hl : m.log2 < 53 := (Nat.log2_lt h0).2 (by omega)
  have hz := shift_ne h0 (k64 m)
  have hlog := log2_shift m (k64 m) h0
  have e : (m <<< k64 m).log2 = 52 := by rw [hlog]; unfold k64; omega
  constructor
  · exact (Nat.le_log2 hz (k := 52)).1 (by omega)
  · exact (Nat.log2_lt hz (k := 53)).1 (by omega)

theorem read_write64 (neg : Bool) {m : Nat} {p : Int} (h0 : m ≠ 0) (h1 : m < 9007199254740992) (hp : -1000 ≤ p) (hp2 : p ≤ 800) :
    double.read (double.nearest neg m p) = .number neg (m <<< k64 m) (p - k64 m) ∧ double.nearest neg m p < 18446744073709551616 := by
  obtain ⟨c1, c2⟩ := k64_ok h0 h1
  have hk : k64 m ≤ 52 := by unfold k64; omega
  have hn := nearest64 neg (m <<< k64 m) (p - k64 m) c1 c2 (by omega) m p (.inr ⟨k64 m, rfl, by omega⟩)
  rw [hn]
  exact ⟨read64 neg _ _ c1 c2 (by omega) (by omega), word64_lt neg (by omega)⟩

/-- Without the fraction, towards 0. -/
theorem cut_trunc (neg : Bool) (n drop : Nat) : Toward.zero.cut neg n drop = n / 2 ^ drop := by
  unfold Toward.cut
  simp only [Nat.shiftLeft_eq, Nat.one_mul]
  by_cases h : drop ≤ n.log2 + 2
  · rw [Nat.min_eq_left h]
    simp
  · rw [Nat.min_eq_right (by omega)]
    have hlt : n < 2 ^ (n.log2 + 1) := Nat.lt_log2_self
    have h1 : n < 2 ^ (n.log2 + 2) := Nat.lt_of_lt_of_le hlt (Nat.pow_le_pow_right (by decide) (by omega))
    have h2 : n < 2 ^ drop := Nat.lt_of_lt_of_le hlt (Nat.pow_le_pow_right (by decide) (by omega))
    rw [Nat.div_eq_of_lt h1, Nat.div_eq_of_lt h2]
    rfl

/-- The greatest number of places behind the point. -/
def z64 : Nat := 1074
/-- A float of 64 bits that is the integer n. -/
def Is64 (w : Nat) (n : Int) : Prop := ∃ (s : Bool) (m : Nat) (p : Int), double.read w = .number s m p ∧ -(z64 : Int) ≤ p ∧ signed s m (p + (z64 : Int)).toNat = n * 2 ^ z64

theorem signed_shift (s : Bool) (m a b : Nat) : signed s m a * 2 ^ b = signed s m (a + b) := by
  unfold signed
  cases s
  · simp only [Bool.false_eq_true, if_false, Nat.shiftLeft_eq, Nat.pow_add]
    push_cast
    rw [Int.mul_assoc]
  · simp only [if_true, Nat.shiftLeft_eq, Nat.pow_add]
    push_cast
    rw [Int.neg_mul, Int.mul_assoc]

theorem is64_order {w1 w2 : Nat} {n1 n2 : Int} (h1 : Is64 w1 n1) (h2 : Is64 w2 n2) : double.order w1 w2 = some (compare n1 n2) := by
  obtain ⟨s, m, p, r1, p1, e1⟩ := h1
  obtain ⟨t, n, q, r2, p2, e2⟩ := h2
  unfold Format.order
  rw [r1, r2]
  simp only [Datum.order, Option.some.injEq]
  rw [cmp_scale n1 n2 (p := 2 ^ z64) (Int.pow_pos (by decide)), ← e1, ← e2, cmp_scale _ _ (p := (2 : Int) ^ (min p q + (z64 : Int)).toNat) (Int.pow_pos (by decide)), signed_shift, signed_shift]
  congr 2 <;> omega

theorem pow_ne {b : Nat} : (2 : Int) ^ b ≠ 0 := Int.ne_of_gt (Int.pow_pos (by decide))

theorem signed_abs {s : Bool} {m : Nat} {n : Int} {B : Nat} (h : signed s m 0 = n * 2 ^ B) : signed s (m / 2 ^ B) 0 = n := by
  have hp : (0 : Int) < 2 ^ B := Int.pow_pos (by decide)
  have hm : m = n.natAbs * 2 ^ B := by
    have e : (signed s m 0).natAbs = m := by unfold signed; cases s <;> simp
    rw [h, Int.natAbs_mul, Int.natAbs_pow] at e
    exact e.symm
  have hd : m / 2 ^ B = n.natAbs := by rw [hm, Nat.mul_div_cancel _ (Nat.pow_pos (by decide))]
  rw [hd]
  cases s
  · have h0 : 0 ≤ n * 2 ^ B := by rw [← h]; unfold signed; simp
    have hn : 0 ≤ n := Int.nonneg_of_mul_nonneg_left h0 hp
    unfold signed
    simp only [Bool.false_eq_true, if_false, Nat.shiftLeft_zero]
    omega
  · have h0 : n * 2 ^ B ≤ 0 := by rw [← h]; unfold signed; simp
    have hn : n ≤ 0 := by
      rcases Int.lt_or_le 0 n with h1 | h1
      · have := Int.mul_pos h1 hp
        omega
      · exact h1
    unfold signed
    simp only [if_true, Nat.shiftLeft_zero]
    omega

theorem toInt_scaled {s : Bool} {m : Nat} {p : Int} {z : Nat} {n : Int} (p1 : -(z : Int) ≤ p) (e1 : signed s m (p + (z : Int)).toNat = n * 2 ^ z) : signed s ((m <<< p.toNat) / 2 ^ (-p).toNat) 0 = n := by
  rcases Int.le_total 0 p with hp | hp
  · have f1 : (-p).toNat = 0 := by omega
    have f2 : (p + (z : Int)).toNat = p.toNat + z := by omega
    rw [f2, ← signed_shift] at e1
    have h := Int.eq_of_mul_eq_mul_right pow_ne e1
    rw [f1, Nat.pow_zero, Nat.div_one, ← h]
    unfold signed
    simp
  · have f1 : p.toNat = 0 := by omega
    rw [f1, Nat.shiftLeft_zero]
    generalize hA : (p + (z : Int)).toNat = A at e1
    generalize hB : (-p).toNat = B
    have hz : z = A + B := by omega
    subst hz
    refine signed_abs ?_
    have e : signed s m A = signed s m 0 * 2 ^ A := by rw [signed_shift, Nat.zero_add]
    rw [e, Int.pow_add, Int.mul_comm (2 ^ A), ← Int.mul_assoc] at e1
    exact Int.eq_of_mul_eq_mul_right pow_ne e1

theorem is64_toInt {w : Nat} {n : Int} (h : Is64 w n) : (double.read w).toInt .zero = some n := by
  obtain ⟨s, m, p, r1, p1, e1⟩ := h
  rw [r1]
  unfold Datum.toInt Datum.integral
  simp only [cut_trunc, Option.some.injEq]
  exact toInt_scaled p1 e1

/-- What a float of 32 bits is without its fraction: a number of units. -/
def tMag (r : Nat) : Nat := unitsB r / 2 ^ 149
def tB (b : Nat) : Int := if b < 2147483648 then (tMag (b % 2147483648) : Int) else -(tMag (b % 2147483648) : Int)
theorem tMag_eq {r : Nat} : tMag r = (magB r <<< (placeB r).toNat) / 2 ^ (-placeB r).toNat := by
  have hp := place_ge r
  unfold tMag unitsB
  rcases Int.le_total 0 (placeB r) with h | h
  · have f1 : (-placeB r).toNat = 0 := by omega
    have f2 : (placeB r + 149).toNat = (placeB r).toNat + 149 := by omega
    rw [f1, f2, Nat.pow_zero, Nat.div_one, Nat.shiftLeft_add, Nat.shiftLeft_eq _ 149, Nat.mul_div_cancel _ (Nat.pow_pos (by decide))]
  · have f1 : (placeB r).toNat = 0 := by omega
    have f2 : 149 = (placeB r + 149).toNat + (-placeB r).toNat := by omega
    rw [f1, Nat.shiftLeft_zero, Nat.shiftLeft_eq]
    conv => lhs; rw [f2]
    have f3 : ((placeB r + 149).toNat + (-placeB r).toNat) = 149 := by omega
    rw [Nat.pow_add, Nat.mul_comm (magB r), Nat.mul_div_mul_left _ _ (Nat.pow_pos (by decide))]

/-- The float of 64 bits, and it without its fraction. -/
def conv64 (b : Nat) : Nat := double.nearest (decide (2147483648 ≤ b)) (magB (b % 2147483648)) (placeB (b % 2147483648))
def trunc64 (b : Nat) : Nat := double.write ((double.read (conv64 b)).integral .zero)

theorem shift_floor (m : Nat) (p : Int) (k : Nat) : ((m <<< k) <<< (p - (k : Int)).toNat) / 2 ^ (-(p - (k : Int))).toNat = (m <<< p.toNat) / 2 ^ (-p).toNat := by
  simp only [Nat.shiftLeft_eq]
  rcases Int.le_total (k : Int) p with h | h
  · have f1 : (-(p - (k : Int))).toNat = 0 := by omega
    have f2 : (-p).toNat = 0 := by omega
    have f3 : p.toNat = k + (p - (k : Int)).toNat := by omega
    rw [f1, f2, f3, Nat.pow_add, Nat.mul_assoc]
  · have f1 : (p - (k : Int)).toNat = 0 := by omega
    rw [f1, Nat.pow_zero, Nat.mul_one]
    rcases Int.le_total 0 p with h0 | h0
    · have f2 : (-p).toNat = 0 := by omega
      have f3 : k = p.toNat + (-(p - (k : Int))).toNat := by omega
      rw [f2, Nat.pow_zero, Nat.div_one]
      conv => lhs; arg 1; rw [f3]
      have f4 : (-(p - ((p.toNat + (-(p - (k : Int))).toNat : Nat) : Int))).toNat = (-(p - (k : Int))).toNat := by omega
      rw [Nat.pow_add, ← Nat.mul_assoc, Nat.mul_div_cancel _ (Nat.pow_pos (by decide))]
    · have f2 : p.toNat = 0 := by omega
      have f3 : (-(p - (k : Int))).toNat = k + (-p).toNat := by omega
      rw [f2, f3, Nat.pow_zero, Nat.mul_one, Nat.pow_add, Nat.mul_comm m, Nat.mul_div_mul_left _ _ (Nat.pow_pos (by decide))]

theorem signed_sh (s : Bool) (m a b : Nat) : signed s (m <<< a) b = signed s m (a + b) := by
  unfold signed
  rw [← Nat.shiftLeft_add]

theorem is64_zero (s : Bool) : Is64 (double.word s 0) 0 := by
  refine ⟨s, 0, -1074, by cases s <;> decide, by unfold z64; omega, ?_⟩
  unfold signed
  cases s <;> simp

theorem signed_tB {b : Nat} : signed (decide (2147483648 ≤ b)) (tMag (b % 2147483648)) 0 = tB b := by
  unfold signed tB
  by_cases h : 2147483648 ≤ b
  · simp only [h, decide_true, if_true, if_neg (show ¬ b < 2147483648 by omega), Nat.shiftLeft_zero]
  · simp only [h, decide_false, Bool.false_eq_true, if_false, if_pos (show b < 2147483648 by omega), Nat.shiftLeft_zero]

theorem is64_write (s : Bool) {m : Nat} {p : Int} (h0 : m ≠ 0) (h1 : m < 16777216) (hp : -149 ≤ p) (hp2 : p ≤ 104) (c : Nat) (hc : c = (m <<< p.toNat) / 2 ^ (-p).toNat) : Is64 (double.nearest s c 0) (signed s c 0) := by
  by_cases hc0 : c = 0
  · have e : double.nearest s c 0 = double.word s 0 := by
      rw [hc0]
      unfold Format.nearest
      simp
    have e2 : signed s c 0 = 0 := by
      rw [hc0]
      unfold signed
      cases s <;> simp
    rw [e, e2]
    exact is64_zero s
  rcases Int.le_total 0 p with h | h
  · have f1 : (-p).toNat = 0 := by omega
    rw [f1, Nat.pow_zero, Nat.div_one] at hc
    obtain ⟨c1, c2⟩ := k64_ok h0 (show m < 9007199254740992 by omega)
    have hk : k64 m ≤ 52 := by unfold k64; omega
    have hn : double.nearest s c 0 = double.word s (min ((p - k64 m + 1074).toNat * 4503599627370496 + m <<< k64 m) 9218868437227405312) := by
      refine nearest64 s (m <<< k64 m) (p - k64 m) c1 c2 (by omega) c 0 ?_
      rcases Int.le_total (k64 m : Int) p with h' | h'
      · refine .inl ⟨(p - k64 m).toNat, ?_, by omega⟩
        rw [hc, ← Nat.shiftLeft_add]
        congr 1
        omega
      · refine .inr ⟨(k64 m - p).toNat, ?_, by omega⟩
        rw [hc, ← Nat.shiftLeft_add]
        congr 1
        omega
    rw [hn]
    refine ⟨s, m <<< k64 m, p - k64 m, read64 s _ _ c1 c2 (by omega) (by omega), by unfold z64; omega, ?_⟩
    rw [signed_sh, signed_shift, hc, signed_sh]
    congr 1
    unfold z64
    omega
  · have f1 : p.toNat = 0 := by omega
    rw [f1, Nat.shiftLeft_zero] at hc
    have hcm : c ≤ m := by rw [hc]; exact Nat.div_le_self _ _
    obtain ⟨r1, r2⟩ := read_write64 s hc0 (show c < 9007199254740992 by omega) (show -1000 ≤ (0 : Int) by omega) (by omega)
    have hk : k64 c ≤ 52 := by unfold k64; omega
    refine ⟨s, c <<< k64 c, 0 - k64 c, r1, by unfold z64; omega, ?_⟩
    rw [signed_sh, signed_shift]
    congr 1
    unfold z64
    omega

theorem is64_trunc {b : Nat} (hr : b % 2147483648 < 2139095040) : Is64 (trunc64 b) (tB b) := by
  rw [← signed_tB]
  unfold trunc64 conv64
  by_cases h0 : b % 2147483648 = 0
  · rw [h0]
    have e0 : double.nearest (decide (2147483648 ≤ b)) (magB 0) (placeB 0) = double.word (decide (2147483648 ≤ b)) 0 := by
      unfold Format.nearest
      rw [if_pos (by decide)]
    rw [e0]
    have e1 : signed (decide (2147483648 ≤ b)) (tMag 0) 0 = 0 := by
      have : tMag 0 = 0 := by unfold tMag; rw [show unitsB 0 = 0 by decide]
      rw [this]
      unfold signed
      split <;> simp
    rw [e1]
    have e2 : ∀ s : Bool, double.write ((double.read (double.word s 0)).integral .zero) = double.word s 0 := by
      intro s
      cases s <;> decide
    rw [e2]
    exact is64_zero _
  · obtain ⟨m0, m1, m2, m3, m4⟩ := magB_ok hr h0
    obtain ⟨r1, r2⟩ := read_write64 (decide (2147483648 ≤ b)) m0 (show magB (b % 2147483648) < 9007199254740992 by omega) (show -1000 ≤ placeB (b % 2147483648) by omega) (by omega)
    rw [r1]
    unfold Datum.integral Format.write
    simp only [cut_trunc, shift_floor]
    rw [← tMag_eq]
    exact is64_write _ m0 m1 m2 m3 _ tMag_eq

theorem toInt_tB {b : Nat} (hb : b < 4294967296) (hr : b % 2147483648 < 2139095040) : (single.read b).toInt .zero = some (tB b) := by
  rw [read_word hb hr]
  unfold Datum.toInt Datum.integral
  simp only [cut_trunc, Option.some.injEq]
  rw [← tMag_eq]
  exact signed_tB

theorem units_le {r s : Nat} : r ≤ s ↔ unitsB r ≤ unitsB s := by
  constructor
  · intro h
    rcases Nat.lt_or_ge r s with h1 | h1
    · exact Nat.le_of_lt (units_mono h1)
    · have : r = s := by omega
      rw [this]
      exact Nat.le_refl _
  · intro h
    rcases Nat.lt_or_ge s r with h1 | h1
    · have := units_mono h1
      omega
    · exact h1

theorem tMag_ge {r rc c : Nat} (hc : unitsB rc = c * 2 ^ 149) : rc ≤ r ↔ c ≤ tMag r := by
  rw [units_le, hc]
  unfold tMag
  exact (Nat.le_div_iff_mul_le (Nat.pow_pos (by decide))).symm

/-- At least an integer above 0. -/
theorem key_ge {b rc c : Nat} (hb : b < 4294967296) (hc : unitsB rc = c * 2 ^ 149) (h0 : 0 < c) : (rc : Int) ≤ keyB b ↔ (c : Int) ≤ tB b := by
  have hz : rc ≠ 0 := by
    intro e
    rw [e, show unitsB 0 = 0 by decide] at hc
    have : 0 < c * 2 ^ 149 := Nat.mul_pos h0 (Nat.pow_pos (by decide))
    omega
  unfold keyB tB
  by_cases h : b < 2147483648
  · rw [if_pos h, if_pos h, Nat.mod_eq_of_lt h]
    have := tMag_ge (r := b) hc
    omega
  · rw [if_neg h, if_neg h]
    omega

/-- At most an integer below 0. -/
theorem key_le {b rc c : Nat} (hb : b < 4294967296) (hc : unitsB rc = c * 2 ^ 149) (h0 : 0 < c) : keyB b ≤ -(rc : Int) ↔ tB b ≤ -(c : Int) := by
  have hz : rc ≠ 0 := by
    intro e
    rw [e, show unitsB 0 = 0 by decide] at hc
    have : 0 < c * 2 ^ 149 := Nat.mul_pos h0 (Nat.pow_pos (by decide))
    omega
  unfold keyB tB
  by_cases h : b < 2147483648
  · rw [if_pos h, if_pos h]
    omega
  · rw [if_neg h, if_neg h]
    have := tMag_ge (r := b % 2147483648) hc
    omega

theorem tB_sign (b : Nat) (hb : b < 4294967296) : (keyB b ≤ 0 → tB b ≤ 0) ∧ (0 < keyB b → 0 ≤ tB b) := by
  unfold keyB tB
  by_cases h : b < 2147483648
  · rw [if_pos h, if_pos h]
    refine ⟨fun h1 => ?_, fun _ => by omega⟩
    have e : b = 0 := by omega
    subst e
    have : tMag (0 % 2147483648) = 0 := by unfold tMag; rw [show 0 % 2147483648 = 0 from rfl, show unitsB 0 = 0 by decide]
    omega
  · rw [if_neg h, if_neg h]
    exact ⟨fun _ => by omega, fun h1 => by omega⟩

theorem read_conv64 {b : Nat} (hr : b % 2147483648 < 2139095040) : ∃ (s : Bool) (m : Nat) (p : Int), double.read (conv64 b) = .number s m p := by
  unfold conv64
  by_cases h0 : b % 2147483648 = 0
  · rw [h0]
    have e0 : ∀ s : Bool, double.nearest s (magB 0) (placeB 0) = double.word s 0 := by
      intro s
      unfold Format.nearest
      rw [if_pos (by decide)]
    rw [e0]
    cases decide (2147483648 ≤ b)
    · exact ⟨false, 0, -1074, by decide⟩
    · exact ⟨true, 0, -1074, by decide⟩
  · obtain ⟨m0, m1, m2, m3, m4⟩ := magB_ok hr h0
    exact ⟨_, _, _, (read_write64 _ m0 (by omega) (by omega) (by omega)).1⟩

def isF64 : Option TypeDesc → Bool
  | some (.float .f64) => true
  | _ => false
def kToD (P : Program) : Op → Bool
  | .convert src dst _ => (P.underlying src).isSome && isF64 (P.underlying dst)
  | _ => false
def kDToI (P : Program) (k : IntKind) : Op → Bool := kToI P k

section
variable {P : Program} {nmv : Nat → Value} {hnm : ∀ i, Flat (nmv i)} {ρ : Nat → Int}

/-- The word of a float of 64 bits. -/
def Word64 (nmv : Nat → Value) (x : SVal) (a : Nat) : Prop := match x with
  | .sym (.nm i) => nmv i = .float .f64 a
  | .v v => v = .float .f64 a
  | _ => False

theorem word64_den {x : SVal} {a : Nat} (h : Word64 nmv x a) (r : Ren) : @den (env0 P nmv hnm ρ) r x = some (.float .f64 a) := by
  unfold Word64 at h
  split at h
  · simp only [den]
    exact congrArg some h
  · rw [h]; rfl
  · exact h.elim

theorem xok_toD {x z : SVal} {b : Nat} (hb : b < 4294967296) (hr : b % 2147483648 < 2139095040) (hx : Word nmv x b) (hz : Word64 nmv z (conv64 b)) : XOk P nmv hnm ρ (kToD P, [x], z) := by
  intro o' hk r f o w ho hd
  cases o' with
  | convert src dst x1 =>
    simp only [kToD, Bool.and_eq_true] at hk
    have hd2 : @denL (env0 P nmv hnm ρ) r [x] = some [f x1] := by simpa [Op.operands] using hd
    have d1 := denL_one hd2
    rw [word_den hx] at d1
    have e1 := Option.some.inj d1
    obtain ⟨sd, hs⟩ := Option.isSome_iff_exists.1 hk.1
    have hk' : P.underlying dst = some (.float .f64) := by
      have := hk.2
      unfold isF64 at this
      split at this
      · assumption
      · cases this
    refine ⟨.float .f64 (conv64 b), ?_, word64_den hz r⟩
    unfold execOp
    simp only [ho]
    refine run_bind_ok (a := Value.float .f64 (conv64 b)) (w' := w) ?_
    unfold convert
    rw [run_bind_ok (run_und hs), run_bind_ok (run_und hk'), ← e1]
    show (Conv.floatToFloat .f32 b .f64).run P w = _
    unfold Conv.floatToFloat
    have hd : FloatKind.decode .f32 b = .number (decide (2147483648 ≤ b)) (magB (b % 2147483648)) (placeB (b % 2147483648)) := read_word hb hr
    have he : FloatKind.encode .f64 (.number (decide (2147483648 ≤ b)) (magB (b % 2147483648)) (placeB (b % 2147483648))) = conv64 b := rfl
    obtain ⟨s, m, p, hrd⟩ := read_conv64 hr
    have hi : (FloatKind.decode .f64 (conv64 b)).isInfinity = false := by
      show (double.read (conv64 b)).isInfinity = false
      rw [hrd]
      rfl
    rw [hd]
    simp only [he, hi]
    rfl
  | _ => simp [kToD] at hk

theorem xok_trunc {g : FuncId} (hE : ExtF P g (Extern.MathFloor.toIntegral "math.archTrunc" .zero)) {x z : SVal} {b : Nat} (hr : b % 2147483648 < 2139095040) (hx : Word64 nmv x (conv64 b)) (hz : Word64 nmv z (trunc64 b)) : XOk P nmv hnm ρ (kVal, [.v (.func (.func g) #[] #[]), x], z) := by
  intro op hk r f o w ho hd
  refine ⟨.float .f64 (trunc64 b), ext_run hE (fun r => word64_den hx r) (fun w => ?_) hk r f o w ho hd, word64_den hz r⟩
  obtain ⟨s, m, p, hrd⟩ := read_conv64 hr
  have hd : FloatKind.decode .f64 (conv64 b) = .number s m p := hrd
  have ht : trunc64 b = FloatKind.encode .f64 ((Datum.number s m p).integral .zero) := by
    unfold trunc64
    rw [hrd]
    rfl
  rw [ht]
  show (match FloatKind.f64.decode (conv64 b) with
    | .nan s t =>
      if FloatKind.f64.format.quiet t = t then pure (.float .f64 (conv64 b)) else do
      let kept ← choose (.extern "math.Floor,Ceil,Trunc,RoundToEven.signallingNaN kept" 2)
      pure (.float .f64 (if kept == 1 then conv64 b else FloatKind.f64.encode (.nan s (FloatKind.f64.format.quiet t))))
    | d => pure (.float .f64 (FloatKind.f64.encode (d.integral .zero))) : Sem Value).run P w = _
  rw [hd]
  rfl

theorem xok_dcmp {op : BinOp} {x y : SVal} {a c : Nat} {n k : Int} {rr : Bool} (hc : isCmp op = true) (hx : Word64 nmv x a) (hy : Word64 nmv y c) (ha : Is64 a n) (hk' : Is64 c k) (h : cmpI op n k = rr) : XOk P nmv hnm ρ (kBin op, [x, y], .v (.bool rr)) := by
  intro o' hk r f o w ho hd
  cases o' with
  | binOp b' ty x1 x2 yt =>
    simp only [kBin, decide_eq_true_eq] at hk
    subst hk
    have hd2 : @denL (env0 P nmv hnm ρ) r [x, y] = some [f x1, f x2] := by simpa [Op.operands] using hd
    obtain ⟨d1, d2⟩ := denL_two hd2
    rw [word64_den hx] at d1
    rw [word64_den hy] at d2
    have e1 := Option.some.inj d1
    have e2 := Option.some.inj d2
    refine ⟨.bool rr, run_binop ho ?_ ?_, rfl⟩
    · rw [← e1, ← e2]
      exact guard_float
    · rw [← e1, ← e2, ← h]
      have ho : FloatKind.f64.format.order a c = some (compare n k) := is64_order ha hk'
      have hz : ∀ op : BinOp, isCmp op = true → (Op.floatCmp op .f64 a c).run P w = .ok (.bool (cmpI op n k)) w := by
        intro op hc
        unfold Op.floatCmp
        rw [ho]
        simp only [compare, compareOfLessAndEq]
        rcases Int.lt_trichotomy n k with h | h | h
        · have h2 : ¬ k ≤ n := by omega
          have h3 : ¬ k < n := by omega
          have h4 : n ≤ k := by omega
          have h1 : ¬ n = k := by omega
          have h5 : (n != k) = true := by simp [h1]
          have h6 : (n == k) = false := by simp [h1]
          simp only [if_pos h]
          cases op <;> first | (exact absurd hc (by decide)) | (simp only [cmpI, gt_iff_lt, ge_iff_le, h5, h6, h, h2, h3, h4, decide_true, decide_false]; rfl)
        · subst h
          have h5 : (n != n) = false := by simp
          have h6 : (n == n) = true := by simp
          simp only [if_neg (Int.lt_irrefl n), if_true]
          cases op <;> first | (exact absurd hc (by decide)) | (simp only [cmpI, gt_iff_lt, ge_iff_le, h5, h6, Int.lt_irrefl, Int.le_refl, decide_true, decide_false]; rfl)
        · have h2 : ¬ n < k := by omega
          have h3 : ¬ n ≤ k := by omega
          have h4 : k ≤ n := by omega
          have h1 : ¬ n = k := by omega
          have h5 : (n != k) = true := by simp [h1]
          have h6 : (n == k) = false := by simp [h1]
          simp only [if_neg h2, if_neg h1]
          cases op <;> first | (exact absurd hc (by decide)) | (simp only [cmpI, gt_iff_lt, ge_iff_le, h5, h6, h, h2, h3, h4, decide_true, decide_false]; rfl)
      have := hz b' hc
      cases b' <;> first | (exact absurd hc (by decide)) | exact this
  | _ => simp [kBin] at hk

theorem xok_dtoI {x z : SVal} {k : IntKind} {e : IE} {a : Nat} {n : Int} (hx : Word64 nmv x a) (ha : Is64 a n) (hz : ieOf z = some (k, e)) (h : e.ev ρ = n) (h1 : k.min ≤ n) (h2 : n ≤ k.max) : XOk P nmv hnm ρ (kDToI P k, [x], z) := by
  intro o' hk r f o w ho hd
  cases o' with
  | convert src dst x1 =>
    simp only [kDToI, kToI, Bool.and_eq_true] at hk
    have hd2 : @denL (env0 P nmv hnm ρ) r [x] = some [f x1] := by simpa [Op.operands] using hd
    have d1 := denL_one hd2
    rw [word64_den hx] at d1
    have e1 := Option.some.inj d1
    obtain ⟨sd, hs⟩ := Option.isSome_iff_exists.1 hk.1
    have hk' : P.underlying dst = some (.int k) := by
      have := hk.2
      unfold isInt at this
      split at this
      · rename_i k' hk'
        rw [hk', of_decide_eq_true this]
      · cases this
    refine ⟨.int k (e.ev ρ), ?_, ieOf_den P nmv hnm ρ _ _ hz r⟩
    unfold execOp
    simp only [ho]
    refine run_bind_ok (a := Value.int k (e.ev ρ)) (w' := w) ?_
    unfold convert
    rw [run_bind_ok (run_und hs), run_bind_ok (run_und hk'), ← e1]
    show (Conv.floatToInt .f64 a k).run P w = _
    unfold Conv.floatToInt
    have hd : FloatKind.decode .f64 a = double.read a := rfl
    rw [hd, is64_toInt ha, h]
    simp only [h1, h2, and_self, if_true]
    rfl
  | _ => simp [kDToI, kToI] at hk
end
end
end Go.RX
