import Ieee.Arith
import Derived.Test.YtdmbnllekmgnhaaDoorRXB
namespace Go.RX
open Ieee

/-! ### Floats of 32 bits: numbers that the format has -/
theorem sgl_binade : single.binade = 8388608 := rfl
theorem sgl_sign : single.signWeight = 2147483648 := rfl
theorem sgl_inf : single.infRung = 2139095040 := rfl
theorem sgl_least : single.leastPlace = -149 := rfl

theorem log2_shift (M d : Nat) (hM : M ≠ 0) : (M <<< d).log2 = M.log2 + d := by
  have h1 := Nat.log2_self_le hM
  have h2 : M < 2 ^ (M.log2 + 1) := Nat.lt_log2_self
  have hz : M <<< d ≠ 0 := by
    rw [Nat.shiftLeft_eq]
    exact Nat.mul_ne_zero hM (by have : 0 < 2 ^ d := Nat.pow_pos (by decide); omega)
  have h3 : M.log2 + d ≤ (M <<< d).log2 := (Nat.le_log2 hz).2 (by rw [Nat.shiftLeft_eq, Nat.pow_add]; exact Nat.mul_le_mul_right _ h1)
  have h4 : (M <<< d).log2 < M.log2 + d + 1 := (Nat.log2_lt hz).2 (by
    rw [Nat.shiftLeft_eq, show M.log2 + d + 1 = (M.log2 + 1) + d by omega, Nat.pow_add]
    exact Nat.mul_lt_mul_of_pos_right h2 (Nat.pow_pos (by decide)))
  omega

theorem cut_exact (neg : Bool) (M d : Nat) (hM : M ≠ 0) : Toward.even.cut neg (M <<< d) d = M := by
  have hl := log2_shift M d hM
  unfold Toward.cut
  have hm : min d ((M <<< d).log2 + 2) = d := by omega
  simp only [hm]
  simp only [Nat.shiftLeft_eq, Nat.one_mul]
  have hp : 0 < 2 ^ d := Nat.pow_pos (by decide)
  rw [Nat.mul_div_cancel _ hp, Nat.mul_mod_left]
  have h1 : ¬ (2 ^ d < 2 * 0) := by omega
  have h2 : (2 ^ d == 2 * 0) = false := by simp
  simp [h1, h2]

theorem cut_zero (neg : Bool) (n : Nat) : Toward.even.cut neg n 0 = n := by
  unfold Toward.cut
  have h : n % 1 = 0 := Nat.mod_one n
  simp [h]

/-- A number M * 2 ^ p of the format, in whatever form it is given. -/
theorem nearest_exact (neg : Bool) (M : Nat) (p : Int) (h0 : M ≠ 0) (h1 : M < 16777216) (hp : -149 ≤ p) (hn : 8388608 ≤ M ∨ p = -149) (mag : Nat) (place : Int)
    (h : (∃ d : Nat, mag = M <<< d ∧ place = p - d) ∨ (∃ d : Nat, M = mag <<< d ∧ place = p + d)) : single.nearest neg mag place = single.word neg (min ((p + 149).toNat * 8388608 + M) 2139095040) := by
  have hlM : M.log2 ≤ 23 := by
    have := (Nat.log2_lt h0 (k := 24)).2 (by omega)
    omega
  have hlast : max (p + (M.log2 : Int) - 23) (-149) = p := by
    rcases hn with hn | hn
    · have : 23 ≤ M.log2 := (Nat.le_log2 h0).2 (by omega)
      omega
    · omega
  unfold Format.nearest
  rcases h with ⟨d, rfl, rfl⟩ | ⟨d, hd, rfl⟩
  · have hz : M <<< d ≠ 0 := by
      rw [Nat.shiftLeft_eq]
      have : 0 < 2 ^ d := Nat.pow_pos (by decide)
      exact Nat.mul_ne_zero h0 (by omega)
    rw [if_neg hz]
    have hl : max (p - (d : Int) + ((M <<< d).log2 : Int) - (single.fractionBits : Int)) single.leastPlace = p := by
      rw [log2_shift M d h0, sgl_least]
      show max (p - (d : Int) + ((M.log2 + d : Nat) : Int) - 23) (-149) = p
      omega
    simp only [hl]
    have e1 : (p - (d : Int) - p).toNat = 0 := by omega
    have e2 : (p - (p - (d : Int))).toNat = d := by omega
    rw [e1, e2, Nat.shiftLeft_zero, cut_exact neg M d h0, sgl_least, sgl_binade, sgl_inf]
    simp
  · have hz : mag ≠ 0 := by
      intro e
      subst e
      simp at hd
      exact h0 hd
    rw [if_neg hz]
    have hlog : M.log2 = mag.log2 + d := by rw [hd, log2_shift mag d hz]
    have hl : max (p + (d : Int) + (mag.log2 : Int) - (single.fractionBits : Int)) single.leastPlace = p := by
      rw [sgl_least]
      show max (p + (d : Int) + (mag.log2 : Int) - 23) (-149) = p
      omega
    simp only [hl]
    have e1 : (p + (d : Int) - p).toNat = d := by omega
    have e2 : (p - (p + (d : Int))).toNat = 0 := by omega
    rw [e1, e2, cut_zero, ← hd, sgl_least, sgl_binade, sgl_inf]
    simp

/-- How far m is shifted to stand in the format at the place i. -/
def shK (m : Nat) (i : Int) : Nat := min (23 - m.log2) (i + 149).toNat

theorem log2_lt24 {m : Nat} (h0 : m ≠ 0) (h1 : m < 16777216) : m.log2 ≤ 23 := by
  have := (Nat.log2_lt h0 (k := 24)).2 (by omega)
  omega

theorem shift_ne {m : Nat} (h0 : m ≠ 0) (k : Nat) : m <<< k ≠ 0 := by
  rw [Nat.shiftLeft_eq]
  exact Nat.mul_ne_zero h0 (Nat.ne_of_gt (Nat.pow_pos (by decide)))

theorem can_ok {m : Nat} {i : Int} (h0 : m ≠ 0) (h1 : m < 16777216) (hi : -149 ≤ i) :
    m <<< shK m i ≠ 0 ∧ m <<< shK m i < 16777216 ∧ -149 ≤ i - shK m i ∧ (8388608 ≤ m <<< shK m i ∨ i - shK m i = -149) := by
  have hl := log2_lt24 h0 h1
  have hz := shift_ne h0 (shK m i)
  have hlog := log2_shift m (shK m i) h0
  refine ⟨hz, ?_, by unfold shK; omega, ?_⟩
  · have : (m <<< shK m i).log2 < 24 := by rw [hlog]; unfold shK; omega
    exact (Nat.log2_lt hz).1 this
  · rcases Nat.le_total (23 - m.log2) (i + 149).toNat with h | h
    · left
      have : 23 ≤ (m <<< shK m i).log2 := by rw [hlog]; unfold shK; omega
      exact (Nat.le_log2 hz).1 this
    · right
      unfold shK
      omega

/-- The bits of m * 2 ^ i. -/
def fl (m : Nat) (i : Int) : Nat := single.nearest false m i

theorem fl_any {m : Nat} {i : Int} (h0 : m ≠ 0) (h1 : m < 16777216) (hi : -149 ≤ i) (neg : Bool) (e : Nat) (mag : Nat) (place : Int) (he : shK m i ≤ e) (hm : mag = m <<< e) (hp : place = i - e) :
    single.nearest neg mag place = single.word neg (min ((i - shK m i + 149).toNat * 8388608 + m <<< shK m i) 2139095040) := by
  obtain ⟨c0, c1, c2, c3⟩ := can_ok h0 h1 hi
  refine nearest_exact neg _ _ c0 c1 c2 c3 mag place (.inl ⟨e - shK m i, ?_, by omega⟩)
  rw [hm, ← Nat.shiftLeft_add]
  congr 1
  omega

theorem fl_eq {m : Nat} {i : Int} (h0 : m ≠ 0) (h1 : m < 16777216) (hi : -149 ≤ i) (neg : Bool) : single.nearest neg m i = single.word neg (min ((i - shK m i + 149).toNat * 8388608 + m <<< shK m i) 2139095040) := by
  obtain ⟨c0, c1, c2, c3⟩ := can_ok h0 h1 hi
  exact nearest_exact neg _ _ c0 c1 c2 c3 m i (.inr ⟨shK m i, rfl, by omega⟩)

theorem rung_lt {m : Nat} {i : Int} (h0 : m ≠ 0) (h1 : m < 16777216) (hi : -149 ≤ i) (hi2 : i ≤ 104) : (i - shK m i + 149).toNat * 8388608 + m <<< shK m i < 2139095040 := by
  obtain ⟨c0, c1, c2, c3⟩ := can_ok h0 h1 hi
  have : (i - shK m i + 149).toNat ≤ 253 := by omega
  omega

theorem fl_val {m : Nat} {i : Int} (h0 : m ≠ 0) (h1 : m < 16777216) (hi : -149 ≤ i) (hi2 : i ≤ 104) : fl m i = (i - shK m i + 149).toNat * 8388608 + m <<< shK m i := by
  have := rung_lt h0 h1 hi hi2
  unfold fl
  rw [fl_eq h0 h1 hi]
  unfold Format.word
  simp only [Bool.false_eq_true, if_false]
  omega

theorem read_rung (r : Nat) (h : r < 2139095040) : single.read r = .number false (if r < 8388608 then r else 8388608 + r % 8388608) (if r < 8388608 then -149 else -149 + ((r / 8388608 - 1 : Nat) : Int)) := by
  unfold Format.read
  have e1 : r / single.signWeight % 2 = 0 := by rw [sgl_sign]; omega
  have e2 : r % single.signWeight = r := by rw [sgl_sign]; omega
  simp only [e1, e2]
  by_cases h1 : r < 8388608
  · have h1' : r < single.binade := h1
    rw [if_pos h1', if_pos h1, if_pos h1]
    rfl
  · have h1' : ¬ r < single.binade := h1
    have h2' : r < single.infRung := h
    rw [if_neg h1', if_pos h2', if_neg h1, if_neg h1]
    rfl

theorem read_fl {m : Nat} {i : Int} (h0 : m ≠ 0) (h1 : m < 16777216) (hi : -149 ≤ i) (hi2 : i ≤ 104) : single.read (fl m i) = .number false (m <<< shK m i) (i - shK m i) := by
  obtain ⟨c0, c1, c2, c3⟩ := can_ok h0 h1 hi
  rw [fl_val h0 h1 hi hi2, read_rung _ (rung_lt h0 h1 hi hi2)]
  generalize m <<< shK m i = M at *
  generalize i - (shK m i : Int) = p at *
  by_cases hp : p = -149
  · subst hp
    by_cases hM : M < 8388608
    · simp [hM]
    · have e1 : ((-149 : Int) + 149).toNat = 0 := by omega
      rw [e1]
      simp only [Nat.zero_mul, Nat.zero_add, if_neg hM]
      congr 1 <;> omega
  · have hM : 8388608 ≤ M := by rcases c3 with h | h <;> omega
    have hr : ¬ ((p + 149).toNat * 8388608 + M < 8388608) := by omega
    rw [if_neg hr, if_neg hr]
    congr 1 <;> omega

theorem read_two : single.read 1073741824 = .number false 8388608 (-22) := by decide

/-- Twice a number. -/
theorem mul_two {m : Nat} {i : Int} (h0 : m ≠ 0) (h1 : m < 16777216) (hi : -149 ≤ i) (hi2 : i ≤ 104) : single.mul (fl m i) 1073741824 = some (fl m (i + 1)) := by
  unfold Format.mul
  rw [read_fl h0 h1 hi hi2, read_two]
  simp only [Datum.product, Option.map_some, Format.write, Option.some.injEq]
  have hk : shK m (i + 1) ≤ shK m i + 23 := by unfold shK; omega
  rw [fl_any h0 h1 (by omega) _ (shK m i + 23) _ _ hk (by rw [Nat.shiftLeft_add, Nat.shiftLeft_eq (m <<< shK m i)]) (by omega)]
  unfold fl
  rw [fl_eq h0 h1 (by omega)]
  rfl

/-- Half of a number that is none of the least ones. -/
theorem div_two {m : Nat} {i : Int} (h0 : m ≠ 0) (h1 : m < 16777216) (hi : -149 < i) (hi2 : i ≤ 104) : single.div (fl m i) 1073741824 = some (fl m (i - 1)) := by
  obtain ⟨c0, c1, c2, c3⟩ := can_ok h0 h1 (show -149 ≤ i by omega)
  unfold Format.div
  rw [read_fl h0 h1 (by omega) hi2, read_two]
  have hlog : (m <<< shK m i).log2 = m.log2 + shK m i := log2_shift m (shK m i) h0
  have hl23 : (m <<< shK m i).log2 ≤ 23 := log2_lt24 c0 c1
  have hn : (8388608 : Nat).log2 = 23 := by decide
  simp only [Datum.quotient, Option.map_some, Format.write, Option.some.injEq, show (8388608 : Nat) ≠ 0 by decide, if_false, hn]
  have hfb : single.fractionBits + 2 + 23 - (m <<< shK m i).log2 = 48 - (m <<< shK m i).log2 := rfl
  rw [hfb]
  have hd : (m <<< shK m i) <<< (48 - (m <<< shK m i).log2) = (m <<< (shK m i + (25 - (m <<< shK m i).log2))) * 8388608 := by
    rw [← Nat.shiftLeft_add, show (8388608 : Nat) = 2 ^ 23 from rfl, ← Nat.shiftLeft_eq, ← Nat.shiftLeft_add]
    congr 1
    omega
  rw [hd, Nat.mul_div_cancel _ (by decide), Nat.mul_mod_left]
  have hk : shK m (i - 1) ≤ shK m i + (25 - (m <<< shK m i).log2) + 1 := by unfold shK at *; omega
  rw [fl_any h0 h1 (by omega) _ (shK m i + (25 - (m <<< shK m i).log2) + 1) _ _ hk (by
    simp only [bne_self_eq_false, Bool.toNat_false, Nat.add_zero]
    rw [Nat.shiftLeft_succ]) (by omega)]
  unfold fl
  rw [fl_eq h0 h1 (by omega)]
  rfl

/-- The number and the place of bits. -/
def magB (b : Nat) : Nat := if b < 8388608 then b else 8388608 + b % 8388608
def placeB (b : Nat) : Int := if b < 8388608 then -149 else -149 + ((b / 8388608 - 1 : Nat) : Int)

theorem magB_ok {b : Nat} (h : b < 2139095040) (h0 : b ≠ 0) : magB b ≠ 0 ∧ magB b < 16777216 ∧ -149 ≤ placeB b ∧ placeB b ≤ 104 ∧ (8388608 ≤ magB b ∨ placeB b = -149) := by
  unfold magB placeB
  by_cases h1 : b < 8388608
  · simp only [if_pos h1]
    exact ⟨h0, by omega, by omega, by omega, .inr trivial⟩
  · simp only [if_neg h1]
    exact ⟨by omega, by omega, by omega, by omega, .inl (by omega)⟩

/-- The bits of the number of bits. -/
theorem fl_bits {b : Nat} (h : b < 2139095040) (h0 : b ≠ 0) : fl (magB b) (placeB b) = b := by
  obtain ⟨m0, m1, m2, m3, m4⟩ := magB_ok h h0
  have hn := nearest_exact false (magB b) (placeB b) m0 m1 m2 m4 (magB b) (placeB b) (.inl ⟨0, rfl, by simp⟩)
  unfold fl
  rw [hn]
  unfold Format.word
  simp only [Bool.false_eq_true, if_false]
  unfold magB placeB
  by_cases h1 : b < 8388608
  · simp only [if_pos h1]
    omega
  · simp only [if_neg h1]
    omega

theorem zero_half : single.div 0 1073741824 = some 0 := by decide
theorem zero_twice : single.mul 0 1073741824 = some 0 := by decide


/-! ### Floats of 32 bits: their order, what 0 less one is, and integers as floats -/
/-- What a rung is worth, in units of the least place. -/
def unitsB (r : Nat) : Nat := magB r <<< (placeB r + 149).toNat

theorem units_mono {r s : Nat} (h : r < s) : unitsB r < unitsB s := by
  unfold unitsB magB placeB
  by_cases hs : s < 8388608
  · have hr : r < 8388608 := by omega
    simp only [if_pos hs, if_pos hr]
    simpa using h
  · by_cases hr : r < 8388608
    · simp only [if_neg hs, if_pos hr]
      have e : ((-149 : Int) + 149).toNat = 0 := by omega
      rw [e, Nat.shiftLeft_zero, Nat.shiftLeft_eq]
      have hp : 0 < 2 ^ ((-149 + ((s / 8388608 - 1 : Nat) : Int)) + 149).toNat := Nat.pow_pos (by decide)
      calc r < 8388608 := hr
        _ ≤ 8388608 + s % 8388608 := by omega
        _ ≤ _ := Nat.le_mul_of_pos_right _ hp
    · simp only [if_neg hs, if_neg hr, Nat.shiftLeft_eq]
      have e1 : ((-149 + ((r / 8388608 - 1 : Nat) : Int)) + 149).toNat = r / 8388608 - 1 := by omega
      have e2 : ((-149 + ((s / 8388608 - 1 : Nat) : Int)) + 149).toNat = s / 8388608 - 1 := by omega
      rw [e1, e2]
      by_cases he : r / 8388608 = s / 8388608
      · rw [he]
        exact Nat.mul_lt_mul_of_pos_right (by omega) (Nat.pow_pos (by decide))
      · have hlt : r / 8388608 < s / 8388608 := by omega
        have h1 : (8388608 + r % 8388608) * 2 ^ (r / 8388608 - 1) < 16777216 * 2 ^ (r / 8388608 - 1) := Nat.mul_lt_mul_of_pos_right (by omega) (Nat.pow_pos (by decide))
        have h2 : 16777216 * 2 ^ (r / 8388608 - 1) = 8388608 * 2 ^ (r / 8388608) := by
          rw [show r / 8388608 = (r / 8388608 - 1) + 1 by omega, Nat.pow_succ, Nat.add_sub_cancel]
          omega
        have h3 : 8388608 * 2 ^ (r / 8388608) ≤ 8388608 * 2 ^ (s / 8388608 - 1) := Nat.mul_le_mul_left _ (Nat.pow_le_pow_right (by decide) (by omega))
        have h4 : 8388608 * 2 ^ (s / 8388608 - 1) ≤ (8388608 + s % 8388608) * 2 ^ (s / 8388608 - 1) := Nat.mul_le_mul_right _ (by omega)
        omega

/-- Words in the order of their numbers. -/
def keyB (b : Nat) : Int := if b < 2147483648 then b else 2147483648 - (b : Int)

theorem read_word {b : Nat} (h : b < 4294967296) (hr : b % 2147483648 < 2139095040) : single.read b = .number (decide (2147483648 ≤ b)) (magB (b % 2147483648)) (placeB (b % 2147483648)) := by
  unfold Format.read magB placeB
  have e2 : b % single.signWeight = b % 2147483648 := rfl
  have e3 : (b / single.signWeight % 2 == 1) = decide (2147483648 ≤ b) := by
    rw [sgl_sign]
    by_cases hb : 2147483648 ≤ b
    · have : b / 2147483648 % 2 = 1 := by omega
      simp [this, hb]
    · have : b / 2147483648 % 2 = 0 := by omega
      simp [this, hb]
  simp only [e2, e3]
  generalize b % 2147483648 = r at *
  by_cases h1 : r < 8388608
  · have h1' : r < single.binade := h1
    rw [if_pos h1', if_pos h1, if_pos h1]
    rfl
  · have h1' : ¬ r < single.binade := h1
    have h2' : r < single.infRung := hr
    rw [if_neg h1', if_pos h2', if_neg h1, if_neg h1]
    rfl

theorem read_inf {b : Nat} (h : b < 4294967296) (hr : b % 2147483648 = 2139095040) : single.read b = .infinity (decide (2147483648 ≤ b)) := by
  have : b = 2139095040 ∨ b = 4286578688 := by omega
  rcases this with rfl | rfl <;> decide

theorem read_nan {b : Nat} (hr : 2139095040 < b % 2147483648) : single.read b = .nan (b / 2147483648 % 2 == 1) (b % 2147483648 - 2139095040) := by
  unfold Format.read
  have e2 : b % single.signWeight = b % 2147483648 := rfl
  simp only [e2]
  have h1 : ¬ (b % 2147483648 < single.binade) := by rw [sgl_binade]; omega
  have h2 : ¬ (b % 2147483648 < single.infRung) := by rw [sgl_inf]; omega
  have h3 : ¬ (b % 2147483648 = single.infRung) := by rw [sgl_inf]; omega
  rw [if_neg h1, if_neg h2, if_neg h3]
  rfl

theorem place_ge (r : Nat) : -149 ≤ placeB r := by
  unfold placeB
  split <;> omega

/-- A number's units at a lesser place. -/
theorem signed_units (neg : Bool) (r : Nat) (base : Int) (h0 : -149 ≤ base) (h : base ≤ placeB r) : signed neg (magB r) (placeB r - base).toNat * 2 ^ (base + 149).toNat = if neg then -(unitsB r : Int) else unitsB r := by
  have e : (magB r <<< (placeB r - base).toNat) * 2 ^ (base + 149).toNat = unitsB r := by
    unfold unitsB
    rw [← Nat.shiftLeft_eq, ← Nat.shiftLeft_add]
    congr 1
    omega
  unfold signed
  cases neg
  · simp only [Bool.false_eq_true, if_false, ← e]
    simp
  · simp only [if_true, ← e]
    simp [Int.neg_mul]

theorem cmp_scale (a c : Int) {p : Int} (h : 0 < p) : compare a c = compare (a * p) (c * p) := by
  have e1 : a * p < c * p ↔ a < c := ⟨fun h' => Int.lt_of_mul_lt_mul_right h' (by omega), fun h' => Int.mul_lt_mul_of_pos_right h' h⟩
  have e2 : a * p = c * p ↔ a = c := ⟨fun h' => Int.eq_of_mul_eq_mul_right (by omega) h', fun h' => by rw [h']⟩
  simp only [compare, compareOfLessAndEq, e1, e2]

theorem units_zero {_ : Nat} : unitsB 0 = 0 := by decide

theorem cmp_units {neg neg' : Bool} {r s : Nat} : compare (if neg then -(unitsB r : Int) else unitsB r) (if neg' then -(unitsB s : Int) else unitsB s) = compare (if neg then -(r : Int) else r) (if neg' then -(s : Int) else s) := by
  have hz : unitsB 0 = 0 := by decide
  have h1 : r < s → unitsB r < unitsB s := units_mono
  have h2 : s < r → unitsB s < unitsB r := units_mono
  have h3 : r = s → unitsB r = unitsB s := fun h => by rw [h]
  have h4 : 0 < r → 0 < unitsB r := fun h => by have := units_mono h; omega
  have h5 : r = 0 → unitsB r = 0 := fun h => by rw [h]; exact hz
  have h6 : 0 < s → 0 < unitsB s := fun h => by have := units_mono h; omega
  have h7 : s = 0 → unitsB s = 0 := fun h => by rw [h]; exact hz
  generalize unitsB r = u at *
  generalize unitsB s = v at *
  simp only [compare, compareOfLessAndEq]
  cases neg <;> cases neg' <;> simp only [Bool.false_eq_true, if_false, if_true] <;> (repeat' split) <;> first | rfl | (exfalso; omega)

/-- **The order of two numbers, or infinities.** -/
theorem order_key {b c : Nat} (hb : b < 4294967296) (hc : c < 4294967296) (hb' : b % 2147483648 ≤ 2139095040) (hc' : c % 2147483648 ≤ 2139095040) : single.order b c = some (compare (keyB b) (keyB c)) := by
  have hk : ∀ {n : Nat}, n < 4294967296 → keyB n = if decide (2147483648 ≤ n) then -((n % 2147483648 : Nat) : Int) else ((n % 2147483648 : Nat) : Int) := by
    intro n hn
    unfold keyB
    by_cases h : 2147483648 ≤ n
    · simp only [h, decide_true, if_true, if_neg (show ¬ n < 2147483648 by omega)]; omega
    · simp only [h, decide_false, Bool.false_eq_true, if_false, if_pos (show n < 2147483648 by omega)]; omega
  rw [hk hb, hk hc]
  unfold Format.order
  by_cases h1 : b % 2147483648 = 2139095040
  · rw [read_inf hb h1]
    by_cases h2 : c % 2147483648 = 2139095040
    · rw [read_inf hc h2, h1, h2]
      simp only [Datum.order]
      cases decide (2147483648 ≤ b) <;> cases decide (2147483648 ≤ c) <;> rfl
    · rw [read_word hc (by omega), h1]
      simp only [Datum.order, Option.some.injEq]
      generalize c % 2147483648 = s at *
      simp only [compare, compareOfLessAndEq]
      cases decide (2147483648 ≤ b) <;> cases decide (2147483648 ≤ c) <;> simp only [Bool.false_eq_true, if_false, if_true] <;> (repeat' split) <;> first | rfl | (exfalso; omega)
  · rw [read_word hb (by omega)]
    by_cases h2 : c % 2147483648 = 2139095040
    · rw [read_inf hc h2, h2]
      simp only [Datum.order, Option.some.injEq]
      generalize b % 2147483648 = s at *
      simp only [compare, compareOfLessAndEq]
      cases decide (2147483648 ≤ b) <;> cases decide (2147483648 ≤ c) <;> simp only [Bool.false_eq_true, if_false, if_true] <;> (repeat' split) <;> first | rfl | (exfalso; omega)
    · rw [read_word hc (by omega)]
      simp only [Datum.order, Option.some.injEq]
      have g1 := place_ge (b % 2147483648)
      have g2 := place_ge (c % 2147483648)
      rw [cmp_scale _ _ (p := (2 : Int) ^ (min (placeB (b % 2147483648)) (placeB (c % 2147483648)) + 149).toNat) (Int.pow_pos (by decide))]
      have s1 := signed_units (decide (2147483648 ≤ b)) (b % 2147483648) (min (placeB (b % 2147483648)) (placeB (c % 2147483648))) (by omega) (by omega)
      have s2 := signed_units (decide (2147483648 ≤ c)) (c % 2147483648) (min (placeB (b % 2147483648)) (placeB (c % 2147483648))) (by omega) (by omega)
      rw [s1, s2]
      exact cmp_units

/-- A NaN stands in no order. -/
theorem order_nan {b c : Nat} (h : 2139095040 < b % 2147483648) : single.order b c = none := by
  unfold Format.order
  rw [read_nan h]
  rfl


/-- The word of a number of the format, in whatever form it is given. -/
theorem nearest_rung (neg : Bool) {r : Nat} (h0 : r ≠ 0) (h : r < 2139095040) (mag : Nat) (place : Int) (d : Nat) (hm : mag = magB r <<< d) (hp : place = placeB r - d) : single.nearest neg mag place = single.word neg r := by
  obtain ⟨m0, m1, m2, m3, m4⟩ := magB_ok h h0
  rw [nearest_exact neg (magB r) (placeB r) m0 m1 m2 m4 mag place (.inl ⟨d, hm, hp⟩)]
  congr 1
  unfold magB placeB
  by_cases h1 : r < 8388608
  · simp only [if_pos h1]
    omega
  · simp only [if_neg h1]
    omega

/-- 0 less a number that isn't 0. -/
theorem sub_zero {b : Nat} (hb : b < 4294967296) (h0 : b % 2147483648 ≠ 0) (h : b % 2147483648 < 2139095040) : single.sub 0 b = some (if b < 2147483648 then 2147483648 + b else b - 2147483648) := by
  unfold Format.sub
  have hz : single.read 0 = .number false 0 (-149) := by decide
  rw [hz, read_word hb h]
  obtain ⟨m0, m1, m2, m3, m4⟩ := magB_ok h h0
  have hmin : min (-149) (placeB (b % 2147483648)) = -149 := by omega
  simp only [Datum.opposite, Datum.sum, hmin, Option.map_some, Option.some.injEq, Format.write]
  have hs0 : signed false 0 ((-149 : Int) - -149).toNat = 0 := rfl
  rw [hs0, Int.zero_add]
  have hw : single.word (!decide (2147483648 ≤ b)) (b % 2147483648) = if b < 2147483648 then 2147483648 + b else b - 2147483648 := by
    unfold Format.word
    rw [sgl_sign]
    by_cases hl : b < 2147483648
    · simp only [show ¬ 2147483648 ≤ b by omega, decide_false, Bool.not_false, if_true, if_pos hl]; omega
    · simp only [show 2147483648 ≤ b by omega, decide_true, Bool.not_true, Bool.false_eq_true, if_false, if_neg hl]; omega
  rw [← hw]
  have hne : magB (b % 2147483648) <<< (placeB (b % 2147483648) - -149).toNat ≠ 0 := shift_ne m0 _
  have key := fun neg => nearest_rung neg h0 h (magB (b % 2147483648) <<< (placeB (b % 2147483648) - -149).toNat) (-149) (placeB (b % 2147483648) - -149).toNat rfl (by omega)
  rw [← key]
  unfold signed
  generalize magB (b % 2147483648) <<< (placeB (b % 2147483648) - -149).toNat = S at hne ⊢
  cases decide (2147483648 ≤ b)
  · simp only [Bool.not_false, if_true]
    have e1 : ¬ (-(S : Int) = 0) := by omega
    have e2 : decide (-(S : Int) < 0) = true := decide_eq_true (by omega)
    rw [if_neg e1, e2, Int.natAbs_neg, Int.natAbs_natCast]
  · simp only [Bool.not_true, Bool.false_eq_true, if_false]
    have e1 : ¬ ((S : Int) = 0) := by omega
    have e2 : decide ((S : Int) < 0) = false := decide_eq_false (by omega)
    rw [if_neg e1, e2, Int.natAbs_natCast]

/-- An integer as a float. -/
theorem write_int {n : Nat} : single.write (.number (decide ((n : Int) < 0)) (n : Int).natAbs 0) = if n = 0 then 0 else fl n 0 := by
  have e : decide ((n : Int) < 0) = false := decide_eq_false (by omega)
  rw [e, Int.natAbs_natCast]
  unfold Format.write fl
  simp only
  split
  · rename_i h; subst h; decide
  · rfl

/-- A float that is an integer, as one. -/
theorem toInt_fl {m : Nat} (h0 : m ≠ 0) (h1 : m < 16777216) : (single.read (fl m 0)).toInt .zero = some (m : Int) := by
  rw [read_fl h0 h1 (by omega) (by omega)]
  unfold Datum.toInt Datum.integral
  simp only
  have e1 : ((0 : Int) - (shK m 0 : Int)).toNat = 0 := by omega
  have e2 : (-((0 : Int) - (shK m 0 : Int))).toNat = shK m 0 := by omega
  rw [e1, e2, Nat.shiftLeft_zero]
  have hc : Toward.zero.cut false (m <<< shK m 0) (shK m 0) = m := by
    unfold Toward.cut
    have hl := log2_shift m (shK m 0) h0
    have hm : min (shK m 0) ((m <<< shK m 0).log2 + 2) = shK m 0 := by omega
    simp only [hm]
    simp only [Nat.shiftLeft_eq, Nat.one_mul]
    rw [Nat.mul_div_cancel _ (Nat.pow_pos (by decide))]
    rfl
  rw [hc]
  simp [signed]

theorem toInt_zero : (single.read 0).toInt .zero = some (0 : Int) := by decide
end Go.RX

namespace Go.RX
noncomputable section
open Go.RowKit (Below)

/-! ### A table of further facts; floats of 32 bits by their words -/
abbrev XE := (Op → Bool) × List SVal × SVal

def lookX (op : Op) (xs : List SVal) : List XE → Option SVal
  | [] => none
  | e :: es => if e.1 op && sameL (sameS 9) e.2.1 xs then some e.2.2 else lookX op xs es

def extraT (T : List XE) (rest : Op → List SVal → Option SVal) (op : Op) (xs : List SVal) : Option SVal :=
  match lookX op xs T with
  | some y => some y
  | none => rest op xs

theorem lookX_ok {op : Op} {xs : List SVal} {y : SVal} : ∀ {T : List XE}, lookX op xs T = some y → ∃ k, (k, xs, y) ∈ T ∧ k op = true
  | [], h => by cases h
  | e :: es, h => by
    simp only [lookX] at h
    split at h
    · rename_i hc
      simp only [Bool.and_eq_true] at hc
      cases h
      have := sameL_ok (sameS_ok 9) _ _ hc.2
      obtain ⟨a, b, c⟩ := e
      simp only at this hc
      subst this
      exact ⟨a, by simp, hc.1⟩
    · obtain ⟨k, h1, h2⟩ := lookX_ok h
      exact ⟨k, List.mem_cons_of_mem _ h1, h2⟩

/-- The bare names and expressions. -/
@[reducible] def env0 (P : Program) (nmv : Nat → Value) (hnm : ∀ i, Flat (nmv i)) (ρ : Nat → Int) : Env := envS P nmv hnm ρ (fun _ _ _ => none) (fun _ _ => none)

/-- What an entry of the table says. -/
def XOk (P : Program) (nmv : Nat → Value) (hnm : ∀ i, Flat (nmv i)) (ρ : Nat → Int) (e : XE) : Prop := ∀ op, e.1 op = true → ∀ (r : Ren) (f : Operand → Value) (o : Oper) (w : World), o.op = op → @denL (env0 P nmv hnm ρ) r e.2.1 = some (op.operands.toList.map f) →
    ∃ v, (execOp f o).run P w = .ok (.value v) w ∧ @den (env0 P nmv hnm ρ) r e.2.2 = some v

theorem extraT_ok {P : Program} {nmv : Nat → Value} {hnm : ∀ i, Flat (nmv i)} {ρ : Nat → Int} {K : Know} {T : List XE} {rest : Op → List SVal → Option SVal} (hT : ∀ e ∈ T, XOk P nmv hnm ρ e) (hE : ExtraOk P nmv hnm ρ K rest) : ExtraOk P nmv hnm ρ K (extraT T rest) := by
  intro op xs y h r f o w ho hd
  have hv : ∀ s, (envS P nmv hnm ρ K (extraT T rest)).val s = (env0 P nmv hnm ρ).val s := fun _ => rfl
  have hv' : ∀ s, (envS P nmv hnm ρ K (extraT T rest)).val s = (envS P nmv hnm ρ K rest).val s := fun _ => rfl
  unfold extraT at h
  split at h
  · rename_i y0 hy
    cases h
    obtain ⟨k, h1, h2⟩ := lookX_ok hy
    rw [denL_val hv] at hd
    obtain ⟨v, h3, h4⟩ := hT _ h1 op h2 r f o w ho hd
    exact ⟨v, h3, by rw [den_val hv]; exact h4⟩
  · rw [denL_val hv'] at hd
    obtain ⟨v, h3, h4⟩ := hE op xs y h r f o w ho hd
    exact ⟨v, h3, by rw [den_val hv']; exact h4⟩

/-! #### Keys -/
def kBin (b : BinOp) : Op → Bool
  | .binOp b' _ _ _ _ => decide (b' = b)
  | _ => false

def isF32 : Option TypeDesc → Bool
  | some (.float .f32) => true
  | _ => false
def isInt (k : IntKind) : Option TypeDesc → Bool
  | some (.int k') => decide (k' = k)
  | _ => false

def kToF (P : Program) : Op → Bool
  | .convert src dst _ => (P.underlying src).isSome && isF32 (P.underlying dst)
  | _ => false

def kToI (P : Program) (k : IntKind) : Op → Bool
  | .convert src dst _ => (P.underlying src).isSome && isInt k (P.underlying dst)
  | _ => false

inductive CB where
  | complex | real | imag

def CB.is : CB → Builtin → Bool
  | .complex, .complex | .real, .real | .imag, .imag => true
  | _, _ => false

def kCall (b : CB) : Op → Bool
  | .call c => match c.callee with
    | .builtin b' => b.is b'
    | _ => false
  | _ => false

def cmpF (op : BinOp) (x y : Nat) : Bool :=
  let c := Ieee.single.order x y
  match op with
  | .eql => c == some .eq
  | .neq => c != some .eq
  | .lss => c == some .lt
  | .leq => c == some .lt || c == some .eq
  | .gtr => c == some .gt
  | .geq => c == some .gt || c == some .eq
  | _ => false

theorem guard_float {P : Program} {w : World} {op : BinOp} {ty : TypeId} {x y : Operand} {k k' : FloatKind} {a b : Nat} : (eqGuard op ty x y (.float k a) (.float k' b)).run P w = .ok () w := by
  cases op <;> rfl

theorem binop_cmpF {P : Program} {w : World} {op : BinOp} {ty : TypeId} {a b : Nat} (h : isCmp op = true) : (Go.binOp op ty (.float .f32 a) (.float .f32 b)).run P w = .ok (.bool (cmpF op a b)) w := by
  cases op <;> first | (simp [isCmp] at h; done) | rfl

def arF (op : BinOp) (a b : Nat) : Option Nat :=
  match op with
  | .add => Ieee.single.add a b
  | .sub => Ieee.single.sub a b
  | .mul => Ieee.single.mul a b
  | .quo => Ieee.single.div a b
  | _ => none

theorem binop_arF {P : Program} {w : World} {op : BinOp} {ty : TypeId} {a b c : Nat} (h : arF op a b = some c) : (Go.binOp op ty (.float .f32 a) (.float .f32 b)).run P w = .ok (.float .f32 c) w := by
  cases op <;> first | (simp [arF] at h; done) | (simp only [arF] at h; simp [Go.binOp, Op.floatArith, FloatKind.format, h])

section
variable {P : Program} {nmv : Nat → Value} {hnm : ∀ i, Flat (nmv i)} {ρ : Nat → Int}

/-- A float's word. -/
def Word (nmv : Nat → Value) (x : SVal) (a : Nat) : Prop := match x with
  | .sym (.nm i) => nmv i = .float .f32 a
  | .v v => v = .float .f32 a
  | _ => False

theorem word_den {x : SVal} {a : Nat} (h : Word nmv x a) (r : Ren) : @den (env0 P nmv hnm ρ) r x = some (.float .f32 a) := by
  unfold Word at h
  split at h
  · simp only [den]
    exact congrArg some h
  · rw [h]; rfl
  · exact h.elim

theorem xok_cmp {op : BinOp} {x y : SVal} {a b : Nat} {rr : Bool} (hc : isCmp op = true) (hx : Word nmv x a) (hy : Word nmv y b) (h : cmpF op a b = rr) : XOk P nmv hnm ρ (kBin op, [x, y], .v (.bool rr)) := by
  intro o' hk r f o w ho hd
  cases o' with
  | binOp b' ty x1 x2 yt =>
    simp only [kBin, decide_eq_true_eq] at hk
    subst hk
    have hd2 : @denL (env0 P nmv hnm ρ) r [x, y] = some [f x1, f x2] := by simpa [Op.operands] using hd
    obtain ⟨d1, d2⟩ := denL_two hd2
    rw [word_den hx] at d1
    rw [word_den hy] at d2
    have e1 := Option.some.inj d1
    have e2 := Option.some.inj d2
    refine ⟨.bool (cmpF b' a b), run_binop ho ?_ ?_, by rw [h]; rfl⟩
    · rw [← e1, ← e2]
      exact guard_float
    · rw [← e1, ← e2]
      exact binop_cmpF hc
  | _ => simp [kBin] at hk

theorem xok_ar {op : BinOp} {x y z : SVal} {a b c : Nat} (hx : Word nmv x a) (hy : Word nmv y b) (hz : Word nmv z c) (h : arF op a b = some c) : XOk P nmv hnm ρ (kBin op, [x, y], z) := by
  intro o' hk r f o w ho hd
  cases o' with
  | binOp b' ty x1 x2 yt =>
    simp only [kBin, decide_eq_true_eq] at hk
    subst hk
    have hd2 : @denL (env0 P nmv hnm ρ) r [x, y] = some [f x1, f x2] := by simpa [Op.operands] using hd
    obtain ⟨d1, d2⟩ := denL_two hd2
    rw [word_den hx] at d1
    rw [word_den hy] at d2
    have e1 := Option.some.inj d1
    have e2 := Option.some.inj d2
    refine ⟨.float .f32 c, run_binop ho ?_ ?_, word_den hz r⟩
    · rw [← e1, ← e2]
      exact guard_float
    · rw [← e1, ← e2]
      exact binop_arF h
  | _ => simp [kBin] at hk

theorem xok_toF {x z : SVal} {k : IntKind} {e : IE} {c : Nat} (hx : ieOf x = some (k, e)) (hz : Word nmv z c) (h : FloatKind.nearest .f32 (e.ev ρ) = c) : XOk P nmv hnm ρ (kToF P, [x], z) := by
  intro o' hk r f o w ho hd
  cases o' with
  | convert src dst x1 =>
    simp only [kToF, Bool.and_eq_true] at hk
    have hd2 : @denL (env0 P nmv hnm ρ) r [x] = some [f x1] := by simpa [Op.operands] using hd
    have d1 := denL_one hd2
    rw [ieOf_den P nmv hnm ρ _ _ hx r] at d1
    have e1 := Option.some.inj d1
    obtain ⟨sd, hs⟩ := Option.isSome_iff_exists.1 hk.1
    have hk' : P.underlying dst = some (.float .f32) := by
      have := hk.2
      unfold isF32 at this
      split at this
      · assumption
      · cases this
    refine ⟨.float .f32 c, ?_, word_den hz r⟩
    unfold execOp
    simp only [ho]
    refine run_bind_ok (a := Value.float .f32 c) (w' := w) ?_
    unfold convert
    rw [run_bind_ok (run_und hs), run_bind_ok (run_und hk'), ← e1]
    simp only [Conv.intToFloat, h]
    rfl
  | _ => simp [kToF] at hk

theorem xok_toI {x z : SVal} {k : IntKind} {e : IE} {a : Nat} (hx : Word nmv x a) (hz : ieOf z = some (k, e)) (h : (Ieee.single.read a).toInt .zero = some (e.ev ρ)) (h1 : k.min ≤ e.ev ρ) (h2 : e.ev ρ ≤ k.max) : XOk P nmv hnm ρ (kToI P k, [x], z) := by
  intro o' hk r f o w ho hd
  cases o' with
  | convert src dst x1 =>
    simp only [kToI, Bool.and_eq_true] at hk
    have hd2 : @denL (env0 P nmv hnm ρ) r [x] = some [f x1] := by simpa [Op.operands] using hd
    have d1 := denL_one hd2
    rw [word_den hx] at d1
    have e1 := Option.some.inj d1
    obtain ⟨sd, hs⟩ := Option.isSome_iff_exists.1 hk.1
    have hk' : P.underlying dst = some (.int k) := by
      have := hk.2
      unfold isInt at this
      split at this
      · rename_i k' hk'
        rw [hk', of_decide_eq_true this]
      · cases this
    refine ⟨.int k (e.ev ρ), ?_, ieOf_den P nmv hnm ρ _ _ hz r⟩
    unfold execOp
    simp only [ho]
    refine run_bind_ok (a := Value.int k (e.ev ρ)) (w' := w) ?_
    unfold convert
    rw [run_bind_ok (run_und hs), run_bind_ok (run_und hk'), ← e1]
    show (Conv.floatToInt .f32 a k).run P w = _
    unfold Conv.floatToInt
    have hd : FloatKind.decode .f32 a = Ieee.single.read a := rfl
    rw [hd, h]
    simp only [h1, h2, and_self, if_true]
    rfl
  | _ => simp [kToI] at hk

/-- A call of a function that the model gives. -/
def kVal : Op → Bool
  | .call c => match c.callee with
    | .value _ => true
    | _ => false
  | _ => false

theorem ext_run {g : FuncId} {en : Array Value → Sem Value} (hE : ExtF P g en) {x : SVal} {a v : Value} (hx : ∀ r, @den (env0 P nmv hnm ρ) r x = some a) (hr : ∀ w, (en #[a]).run P w = .ok v w) {op : Op} (hk : kVal op = true) (r : Ren) (f : Operand → Value) (o : Oper) (w : World) (ho : o.op = op)
    (hd : @denL (env0 P nmv hnm ρ) r [.v (.func (.func g) #[] #[]), x] = some (op.operands.toList.map f)) : (execOp f o).run P w = .ok (.value v) w := by
  cases op with
  | call c =>
    obtain ⟨callee, args, tys⟩ := c
    cases callee with
    | value xo =>
      have hl : @denL (env0 P nmv hnm ρ) r [.v (.func (.func g) #[] #[]), x] = some (f xo :: args.toList.map f) := by simpa [Op.operands, Call.operands] using hd
      obtain ⟨u, l, e1, e2, e3⟩ := (@denL_cons (env0 P nmv hnm ρ) _ _ _ _).1 hl
      obtain ⟨u', l', e4, e5, e6⟩ := (@denL_cons (env0 P nmv hnm ρ) _ _ _ _).1 e2
      simp only [denL, Option.some.injEq] at e5
      subst e5
      rw [hx] at e4
      cases e4
      simp only [List.cons.injEq] at e3
      have hf : f xo = .func (.func g) #[] #[] := by
        rw [e3.1]
        exact (Option.some.inj e1).symm
      have ha : args.map f = #[a] := Array.toList_inj.1 (by simpa using e3.2.trans e6)
      exact run_extern hE ho rfl hf (by rw [ha]; exact hr w)
    | _ => simp [kVal] at hk
  | _ => simp [kVal] at hk

theorem xok_from {g : FuncId} (hE : ExtF P g Extern.MathFloatBits.float32frombits) {x z : SVal} {e : IE} {c : Nat} (hx : ieOf x = some (.u32, e)) (hz : Word nmv z c) (h : e.ev ρ = (c : Int)) : XOk P nmv hnm ρ (kVal, [.v (.func (.func g) #[] #[]), x], z) := by
  intro op hk r f o w ho hd
  refine ⟨_, ext_run hE (fun r => ieOf_den P nmv hnm ρ _ _ hx r) (v := .float .f32 c) (fun w => ?_) hk r f o w ho hd, word_den hz r⟩
  rw [h]
  rfl

theorem xok_bits {g : FuncId} (hE : ExtF P g Extern.MathFloatBits.float32bits) {x z : SVal} {e : IE} {c : Nat} (hx : Word nmv x c) (hz : ieOf z = some (.u32, e)) (h : e.ev ρ = (c : Int)) : XOk P nmv hnm ρ (kVal, [.v (.func (.func g) #[] #[]), x], z) := by
  intro op hk r f o w ho hd
  refine ⟨.int .u32 (e.ev ρ), ext_run hE (fun r => word_den hx r) (fun w => ?_) hk r f o w ho hd, ieOf_den P nmv hnm ρ _ _ hz r⟩
  rw [h]
  rfl

/-- A complex number's words. -/
def Words (nmv : Nat → Value) (x : SVal) (a b : Nat) : Prop := match x with
  | .sym (.nm i) => nmv i = .complex .f32 a b
  | .v v => v = .complex .f32 a b
  | _ => False

theorem words_den {x : SVal} {a b : Nat} (h : Words nmv x a b) (r : Ren) : @den (env0 P nmv hnm ρ) r x = some (.complex .f32 a b) := by
  unfold Words at h
  split at h
  · simp only [den]
    exact congrArg some h
  · rw [h]; rfl
  · exact h.elim

theorem run_builtin {w : World} {f : Operand → Value} {o : Oper} {c : Call} (b : Builtin) (ho : o.op = .call c) (hc : c.callee = .builtin b) {v : Value}
    (hb : ∀ (tys : Array TypeId) (ty : TypeId) (cs : Array Bool), (builtin b tys ty cs (c.args.map f)).run P w = .ok (.value v) w) : (execOp f o).run P w = .ok (.value v) w := run_mm b ho hc hb

theorem kCall_eq {b : CB} {op : Op} (h : kCall b op = true) : ∃ c b', op = .call c ∧ c.callee = .builtin b' ∧ b.is b' = true := by
  unfold kCall at h
  split at h
  · rename_i c
    split at h
    · rename_i b' hb'
      exact ⟨c, b', rfl, hb', h⟩
    · cases h
  · cases h

theorem args_of {c : Call} {b' : Builtin} (hc : c.callee = .builtin b') (f : Operand → Value) : (Op.call c).operands.toList.map f = (c.args.map f).toList := by
  obtain ⟨callee, args, tys⟩ := c
  simp only at hc
  subst hc
  simp [Op.operands, Call.operands]

theorem xok_complex {x y z : SVal} {a b : Nat} (hx : Word nmv x a) (hy : Word nmv y b) (hz : Words nmv z a b) : XOk P nmv hnm ρ (kCall .complex, [x, y], z) := by
  intro op hk r f o w ho hd
  obtain ⟨c, b', rfl, hc, hb⟩ := kCall_eq hk
  rw [args_of hc] at hd
  obtain ⟨u, l, e1, e2, e3⟩ := (@denL_cons (env0 P nmv hnm ρ) _ _ _ _).1 hd
  obtain ⟨u', l', e4, e5, e6⟩ := (@denL_cons (env0 P nmv hnm ρ) _ _ _ _).1 e2
  simp only [denL, Option.some.injEq] at e5
  subst e5
  subst e6
  rw [word_den hx] at e1
  rw [word_den hy] at e4
  cases e1
  cases e4
  have ha : c.args.map f = #[.float .f32 a, .float .f32 b] := Array.toList_inj.1 e3
  cases b' <;> first | (simp [CB.is] at hb; done) | skip
  refine ⟨.complex .f32 a b, run_builtin .complex ho hc (fun _ _ _ => ?_), words_den hz r⟩
  rw [ha]
  rfl

theorem xok_real {x z : SVal} {a b : Nat} (hx : Words nmv x a b) (hz : Word nmv z a) : XOk P nmv hnm ρ (kCall .real, [x], z) := by
  intro op hk r f o w ho hd
  obtain ⟨c, b', rfl, hc, hb⟩ := kCall_eq hk
  rw [args_of hc] at hd
  obtain ⟨u, l, e1, e2, e3⟩ := (@denL_cons (env0 P nmv hnm ρ) _ _ _ _).1 hd
  simp only [denL, Option.some.injEq] at e2
  subst e2
  rw [words_den hx] at e1
  cases e1
  have ha : c.args.map f = #[.complex .f32 a b] := Array.toList_inj.1 e3
  cases b' <;> first | (simp [CB.is] at hb; done) | skip
  refine ⟨.float .f32 a, run_builtin .real ho hc (fun _ _ _ => ?_), word_den hz r⟩
  rw [ha]
  rfl

theorem xok_imag {x z : SVal} {a b : Nat} (hx : Words nmv x a b) (hz : Word nmv z b) : XOk P nmv hnm ρ (kCall .imag, [x], z) := by
  intro op hk r f o w ho hd
  obtain ⟨c, b', rfl, hc, hb⟩ := kCall_eq hk
  rw [args_of hc] at hd
  obtain ⟨u, l, e1, e2, e3⟩ := (@denL_cons (env0 P nmv hnm ρ) _ _ _ _).1 hd
  simp only [denL, Option.some.injEq] at e2
  subst e2
  rw [words_den hx] at e1
  cases e1
  have ha : c.args.map f = #[.complex .f32 a b] := Array.toList_inj.1 e3
  cases b' <;> first | (simp [CB.is] at hb; done) | skip
  refine ⟨.float .f32 b, run_builtin .imag ho hc (fun _ _ _ => ?_), word_den hz r⟩
  rw [ha]
  rfl

theorem guard_complex {w : World} {op : BinOp} {ty : TypeId} {x y : Operand} {k k' : FloatKind} {a b c d : Nat} : (eqGuard op ty x y (.complex k a b) (.complex k' c d)).run P w = .ok () w := by
  cases op <;> rfl

theorem run_ccmp {w : World} {a b : Nat} : (Op.Complex.cmp .eql .f32 a b).run P w = .ok (cmpF .eql a b) w := rfl

theorem xok_ceq {x y : SVal} {a b c d : Nat} {rr : Bool} (ng : Bool) (hx : Words nmv x a b) (hy : Words nmv y c d) (h : (cmpF .eql a c && cmpF .eql b d) = rr) : XOk P nmv hnm ρ (kBin (if ng then .neq else .eql), [x, y], .v (.bool (rr != ng))) := by
  intro o' hk r f o w ho hd
  cases o' with
  | binOp b' ty x1 x2 yt =>
    simp only [kBin, decide_eq_true_eq] at hk
    subst hk
    have hd2 : @denL (env0 P nmv hnm ρ) r [x, y] = some [f x1, f x2] := by simpa [Op.operands] using hd
    obtain ⟨d1, d2⟩ := denL_two hd2
    rw [words_den hx] at d1
    rw [words_den hy] at d2
    have e1 := Option.some.inj d1
    have e2 := Option.some.inj d2
    have hsplit : ∀ ng : Bool, (Go.binOp (if ng then .neq else .eql) ty (.complex .f32 a b) (.complex .f32 c d)).run P w = .ok (.bool ((cmpF .eql a c && cmpF .eql b d) != ng)) w := by
      intro ng
      cases ng
      · show (Op.complexOp .eql .f32 a b c d).run P w = _
        unfold Op.complexOp
        simp only
        rw [run_bind_ok run_ccmp, run_bind_ok run_ccmp]
        cases cmpF .eql a c <;> cases cmpF .eql b d <;> rfl
      · show (Op.complexOp .neq .f32 a b c d).run P w = _
        unfold Op.complexOp
        simp only
        rw [run_bind_ok run_ccmp, run_bind_ok run_ccmp]
        cases cmpF .eql a c <;> cases cmpF .eql b d <;> rfl
    refine ⟨.bool (rr != ng), run_binop ho ?_ ?_, rfl⟩
    · rw [← e1, ← e2]
      exact guard_complex
    · rw [← e1, ← e2, ← h]
      exact hsplit ng
  | _ => simp [kBin] at hk
end
end
end Go.RX
