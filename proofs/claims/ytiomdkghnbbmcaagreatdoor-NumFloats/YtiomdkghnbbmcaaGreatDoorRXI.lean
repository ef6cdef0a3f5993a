import Ieee.Arith
namespace Go.RX
open Ieee

/-! ### Floats of 32 bits: numbers that the format has -/
theorem sgl_binade : single.binade = 8388608 := rfl
theorem sgl_sign : single.signWeight = 2147483648 := rfl
theorem sgl_inf : single.infRung = 2139095040 := rfl
theorem sgl_least : single.leastPlace = -149 := rfl

theorem log2_shift (M d : Nat) (hM : M ≠ 0) : (M <<< d).log2 = M.log2 + d := by
  have h1 := Nat.log2_self_le hM
  have h2 : M < 2 ^ (M.log2 + 1) := Nat.lt_log2_self
  have hz : M <<< d ≠ 0 := by
    rw [Nat.shiftLeft_eq]
    exact Nat.mul_ne_zero hM (by have : 0 < 2 ^ d := Nat.pow_pos (by decide); omega)
  have h3 : M.log2 + d ≤ (M <<< d).log2 := (Nat.le_log2 hz).2 (by rw [Nat.shiftLeft_eq, Nat.pow_add]; exact Nat.mul_le_mul_right _ h1)
  have h4 : (M <<< d).log2 < M.log2 + d + 1 := (Nat.log2_lt hz).2 (by
    rw [Nat.shiftLeft_eq, show M.log2 + d + 1 = (M.log2 + 1) + d by omega, Nat.pow_add]
    exact Nat.mul_lt_mul_of_pos_right h2 (Nat.pow_pos (by decide)))
  omega

theorem cut_exact (neg : Bool) (M d : Nat) (hM : M ≠ 0) : Toward.even.cut neg (M <<< d) d = M := by
  have hl := log2_shift M d hM
  unfold Toward.cut
  have hm : min d ((M <<< d).log2 + 2) = d := by omega
  simp only [hm]
  simp only [Nat.shiftLeft_eq, Nat.one_mul]
  have hp : 0 < 2 ^ d := Nat.pow_pos (by decide)
  rw [Nat.mul_div_cancel _ hp, Nat.mul_mod_left]
  have h1 : ¬ (2 ^ d < 2 * 0) := by omega
  have h2 : (2 ^ d == 2 * 0) = false := by simp
  simp [h1, h2]

theorem cut_zero (neg : Bool) (n : Nat) : Toward.even.cut neg n 0 = n := by
  unfold Toward.cut
  have h : n % 1 = 0 := Nat.mod_one n
  simp [h]

/-- A number M * 2 ^ p of the format, in whatever form it is given. -/
theorem nearest_exact (neg : Bool) (M : Nat) (p : Int) (h0 : M ≠ 0) (h1 : M < 16777216) (hp : -149 ≤ p) (hn : 8388608 ≤ M ∨ p = -149) (mag : Nat) (place : Int)
    (h : (∃ d : Nat, mag = M <<< d ∧ place = p - d) ∨ (∃ d : Nat, M = mag <<< d ∧ place = p + d)) : single.nearest neg mag place = single.word neg (min ((p + 149).toNat * 8388608 + M) 2139095040) := by
  have hlM : M.log2 ≤ 23 := by
    have := (Nat.log2_lt h0 (k := 24)).2 (by omega)
    omega
  have hlast : max (p + (M.log2 : Int) - 23) (-149) = p := by
    rcases hn with hn | hn
    · have : 23 ≤ M.log2 := (Nat.le_log2 h0).2 (by omega)
      omega
    · omega
  unfold Format.nearest
  rcases h with ⟨d, rfl, rfl⟩ | ⟨d, hd, rfl⟩
  · have hz : M <<< d ≠ 0 := by
      rw [Nat.shiftLeft_eq]
      have : 0 < 2 ^ d := Nat.pow_pos (by decide)
      exact Nat.mul_ne_zero h0 (by omega)
    rw [if_neg hz]
    have hl : max (p - (d : Int) + ((M <<< d).log2 : Int) - (single.fractionBits : Int)) single.leastPlace = p := by
      rw [log2_shift M d h0, sgl_least]
      show max (p - (d : Int) + ((M.log2 + d : Nat) : Int) - 23) (-149) = p
      omega
    simp only [hl]
    have e1 : (p - (d : Int) - p).toNat = 0 := by omega
    have e2 : (p - (p - (d : Int))).toNat = d := by omega
    rw [e1, e2, Nat.shiftLeft_zero, cut_exact neg M d h0, sgl_least, sgl_binade, sgl_inf]
    simp
  · have hz : mag ≠ 0 := by
      intro e
      subst e
      simp at hd
      exact h0 hd
    rw [if_neg hz]
    have hlog : M.log2 = mag.log2 + d := by rw [hd, log2_shift mag d hz]
    have hl : max (p + (d : Int) + (mag.log2 : Int) - (single.fractionBits : Int)) single.leastPlace = p := by
      rw [sgl_least]
      show max (p + (d : Int) + (mag.log2 : Int) - 23) (-149) = p
      omega
    simp only [hl]
    have e1 : (p + (d : Int) - p).toNat = d := by omega
    have e2 : (p - (p + (d : Int))).toNat = 0 := by omega
    rw [e1, e2, cut_zero, ← hd, sgl_least, sgl_binade, sgl_inf]
    simp

/-- How far m is shifted to stand in the format at the place i. -/
def shK (m : Nat) (i : Int) : Nat := min (23 - m.log2) (i + 149).toNat

theorem log2_lt24 {m : Nat} (h0 : m ≠ 0) (h1 : m < 16777216) : m.log2 ≤ 23 := by
  have := (Nat.log2_lt h0 (k := 24)).2 (by omega)
  omega

theorem shift_ne {m : Nat} (h0 : m ≠ 0) (k : Nat) : m <<< k ≠ 0 := by
  rw [Nat.shiftLeft_eq]
  exact Nat.mul_ne_zero h0 (Nat.ne_of_gt (Nat.pow_pos (by decide)))

theorem can_ok {m : Nat} {i : Int} (h0 : m ≠ 0) (h1 : m < 16777216) (hi : -149 ≤ i) :
    m <<< shK m i ≠ 0 ∧ m <<< shK m i < 16777216 ∧ -149 ≤ i - shK m i ∧ (8388608 ≤ m <<< shK m i ∨ i - shK m i = -149) := by
  have hl := log2_lt24 h0 h1
  have hz := shift_ne h0 (shK m i)
  have hlog := log2_shift m (shK m i) h0
  refine ⟨hz, ?_, by unfold shK; omega, ?_⟩
  · have : (m <<< shK m i).log2 < 24 := by rw [hlog]; unfold shK; omega
    exact (Nat.log2_lt hz).1 this
  · rcases Nat.le_total (23 - m.log2) (i + 149).toNat with h | h
    · left
      have : 23 ≤ (m <<< shK m i).log2 := by rw [hlog]; unfold shK; omega
      exact (Nat.le_log2 hz).1 this
    · right
      unfold shK
      omega

/-- The bits of m * 2 ^ i. -/
def fl (m : Nat) (i : Int) : Nat := single.nearest false m i

theorem fl_any {m : Nat} {i : Int} (h0 : m ≠ 0) (h1 : m < 16777216) (hi : -149 ≤ i) (neg : Bool) (e : Nat) (mag : Nat) (place : Int) (he : shK m i ≤ e) (hm : mag = m <<< e) (hp : place = i - e) :
    single.nearest neg mag place = single.word neg (min ((i - shK m i + 149).toNat * 8388608 + m <<< shK m i) 2139095040) := by
  obtain ⟨c0, c1, c2, c3⟩ := can_ok h0 h1 hi
  refine nearest_exact neg _ _ c0 c1 c2 c3 mag place (.inl ⟨e - shK m i, ?_, by omega⟩)
  rw [hm, ← Nat.shiftLeft_add]
  congr 1
  omega

theorem fl_eq {m : Nat} {i : Int} (h0 : m ≠ 0) (h1 : m < 16777216) (hi : -149 ≤ i) (neg : Bool) : single.nearest neg m i = single.word neg (min ((i - shK m i + 149).toNat * 8388608 + m <<< shK m i) 2139095040) := by
  obtain ⟨c0, c1, c2, c3⟩ := can_ok h0 h1 hi
  exact nearest_exact neg _ _ c0 c1 c2 c3 m i (.inr ⟨shK m i, rfl, by omega⟩)

theorem rung_lt {m : Nat} {i : Int} (h0 : m ≠ 0) (h1 : m < 16777216) (hi : -149 ≤ i) (hi2 : i ≤ 104) : (i - shK m i + 149).toNat * 8388608 + m <<< shK m i < 2139095040 := by
  obtain ⟨c0, c1, c2, c3⟩ := can_ok h0 h1 hi
  have : (i - shK m i + 149).toNat ≤ 253 := by omega
  omega

theorem fl_val {m : Nat} {i : Int} (h0 : m ≠ 0) (h1 : m < 16777216) (hi : -149 ≤ i) (hi2 : i ≤ 104) : fl m i = (i - shK m i + 149).toNat * 8388608 + m <<< shK m i := by
  have := rung_lt h0 h1 hi hi2
  unfold fl
  rw [fl_eq h0 h1 hi]
  unfold Format.word
  simp only [Bool.false_eq_true, if_false]
  omega

theorem read_rung (r : Nat) (h : r < 2139095040) : single.read r = .number false (if r < 8388608 then r else 8388608 + r % 8388608) (if r < 8388608 then -149 else -149 + ((r / 8388608 - 1 : Nat) : Int)) := by
  unfold Format.read
  have e1 : r / single.signWeight % 2 = 0 := by rw [sgl_sign]; omega
  have e2 : r % single.signWeight = r := by rw [sgl_sign]; omega
  simp only [e1, e2]
  by_cases h1 : r < 8388608
  · have h1' : r < single.binade := h1
    rw [if_pos h1', if_pos h1, if_pos h1]
    rfl
  · have h1' : ¬ r < single.binade := h1
    have h2' : r < single.infRung := h
    rw [if_neg h1', if_pos h2', if_neg h1, if_neg h1]
    rfl

theorem read_fl {m : Nat} {i : Int} (h0 : m ≠ 0) (h1 : m < 16777216) (hi : -149 ≤ i) (hi2 : i ≤ 104) : single.read (fl m i) = .number false (m <<< shK m i) (i - shK m i) := by
  obtain ⟨c0, c1, c2, c3⟩ := can_ok h0 h1 hi
  rw [fl_val h0 h1 hi hi2, read_rung _ (rung_lt h0 h1 hi hi2)]
  generalize m <<< shK m i = M at *
  generalize i - (shK m i : Int) = p at *
  by_cases hp : p = -149
  · subst hp
    by_cases hM : M < 8388608
    · simp [hM]
    · have e1 : ((-149 : Int) + 149).toNat = 0 := by omega
      rw [e1]
      simp only [Nat.zero_mul, Nat.zero_add, if_neg hM]
      congr 1 <;> omega
  · have hM : 8388608 ≤ M := by rcases c3 with h | h <;> omega
    have hr : ¬ ((p + 149).toNat * 8388608 + M < 8388608) := by omega
    rw [if_neg hr, if_neg hr]
    congr 1 <;> omega

theorem read_two : single.read 1073741824 = .number false 8388608 (-22) := by decide

/-- Twice a number. -/
theorem mul_two {m : Nat} {i : Int} (h0 : m ≠ 0) (h1 : m < 16777216) (hi : -149 ≤ i) (hi2 : i ≤ 104) : single.mul (fl m i) 1073741824 = some (fl m (i + 1)) := by
  unfold Format.mul
  rw [read_fl h0 h1 hi hi2, read_two]
  simp only [Datum.product, Option.map_some, Format.write, Option.some.injEq]
  have hk : shK m (i + 1) ≤ shK m i + 23 := by unfold shK; omega
  rw [fl_any h0 h1 (by omega) _ (shK m i + 23) _ _ hk (by rw [Nat.shiftLeft_add, Nat.shiftLeft_eq (m <<< shK m i)]) (by omega)]
  unfold fl
  rw [fl_eq h0 h1 (by omega)]
  rfl

/-- Half of a number that is none of the least ones. -/
theorem div_two {m : Nat} {i : Int} (h0 : m ≠ 0) (h1 : m < 16777216) (hi : -149 < i) (hi2 : i ≤ 104) : single.div (fl m i) 1073741824 = some (fl m (i - 1)) := by
  obtain ⟨c0, c1, c2, c3⟩ := can_ok h0 h1 (show -149 ≤ i by omega)
  unfold Format.div
  rw [read_fl h0 h1 (by omega) hi2, read_two]
  have hlog : (m <<< shK m i).log2 = m.log2 + shK m i := log2_shift m (shK m i) h0
  have hl23 : (m <<< shK m i).log2 ≤ 23 := log2_lt24 c0 c1
  have hn : (8388608 : Nat).log2 = 23 := by decide
  simp only [Datum.quotient, Option.map_some, Format.write, Option.some.injEq, show (8388608 : Nat) ≠ 0 by decide, if_false, hn]
  have hfb : single.fractionBits + 2 + 23 - (m <<< shK m i).log2 = 48 - (m <<< shK m i).log2 := rfl
  rw [hfb]
  have hd : (m <<< shK m i) <<< (48 - (m <<< shK m i).log2) = (m <<< (shK m i + (25 - (m <<< shK m i).log2))) * 8388608 := by
    rw [← Nat.shiftLeft_add, show (8388608 : Nat) = 2 ^ 23 from rfl, ← Nat.shiftLeft_eq, ← Nat.shiftLeft_add]
    congr 1
    omega
  rw [hd, Nat.mul_div_cancel _ (by decide), Nat.mul_mod_left]
  have hk : shK m (i - 1) ≤ shK m i + (25 - (m <<< shK m i).log2) + 1 := by unfold shK at *; omega
  rw [fl_any h0 h1 (by omega) _ (shK m i + (25 - (m <<< shK m i).log2) + 1) _ _ hk (by
    simp only [bne_self_eq_false, Bool.toNat_false, Nat.add_zero]
    rw [Nat.shiftLeft_succ]) (by omega)]
  unfold fl
  rw [fl_eq h0 h1 (by omega)]
  rfl

/-- The number and the place of bits. -/
def magB (b : Nat) : Nat := if b < 8388608 then b else 8388608 + b % 8388608
def placeB (b : Nat) : Int := if b < 8388608 then -149 else -149 + ((b / 8388608 - 1 : Nat) : Int)

theorem magB_ok {b : Nat} (h : b < 2139095040) (h0 : b ≠ 0) : magB b ≠ 0 ∧ magB b < 16777216 ∧ -149 ≤ placeB b ∧ placeB b ≤ 104 ∧ (8388608 ≤ magB b ∨ placeB b = -149) := by
  unfold magB placeB
  by_cases h1 : b < 8388608
  · simp only [if_pos h1]
    exact ⟨h0, by omega, by omega, by omega, .inr trivial⟩
  · simp only [if_neg h1]
    exact ⟨by omega, by omega, by omega, by omega, .inl (by omega)⟩

/-- The bits of the number of bits. -/
theorem fl_bits {b : Nat} (h : b < 2139095040) (h0 : b ≠ 0) : fl (magB b) (placeB b) = b := by
  obtain ⟨m0, m1, m2, m3, m4⟩ := magB_ok h h0
  have hn := nearest_exact false (magB b) (placeB b) m0 m1 m2 m4 (magB b) (placeB b) (.inl ⟨0, rfl, by simp⟩)
  unfold fl
  rw [hn]
  unfold Format.word
  simp only [Bool.false_eq_true, if_false]
  unfold magB placeB
  by_cases h1 : b < 8388608
  · simp only [if_pos h1]
    omega
  · simp only [if_neg h1]
    omega

theorem zero_half : single.div 0 1073741824 = some 0 := by decide
theorem zero_twice : single.mul 0 1073741824 = some 0 := by decide


/-! ### Floats of 32 bits: their order, what 0 less one is, and integers as floats -/
/-- What a rung is worth, in units of the least place. -/
def unitsB (r : Nat) : Nat := magB r <<< (placeB r + 149).toNat

theorem units_mono {r s : Nat} (h : r < s) : unitsB r < unitsB s := by
  unfold unitsB magB placeB
  by_cases hs : s < 8388608
  · have hr : r < 8388608 := by omega
    simp only [if_pos hs, if_pos hr]
    simpa using h
  · by_cases hr : r < 8388608
    · simp only [if_neg hs, if_pos hr]
      have e : ((-149 : Int) + 149).toNat = 0 := by omega
      rw [e, Nat.shiftLeft_zero, Nat.shiftLeft_eq]
      have hp : 0 < 2 ^ ((-149 + ((s / 8388608 - 1 : Nat) : Int)) + 149).toNat := Nat.pow_pos (by decide)
      calc r < 8388608 := hr
        _ ≤ 8388608 + s % 8388608 := by omega
        _ ≤ _ := Nat.le_mul_of_pos_right _ hp
    · simp only [if_neg hs, if_neg hr, Nat.shiftLeft_eq]
      have e1 : ((-149 + ((r / 8388608 - 1 : Nat) : Int)) + 149).toNat = r / 8388608 - 1 := by omega
      have e2 : ((-149 + ((s / 8388608 - 1 : Nat) : Int)) + 149).toNat = s / 8388608 - 1 := by omega
      rw [e1, e2]
      by_cases he : r / 8388608 = s / 8388608
      · rw [he]
        exact Nat.mul_lt_mul_of_pos_right (by omega) (Nat.pow_pos (by decide))
      · have hlt : r / 8388608 < s / 8388608 := by omega
        have h1 : (8388608 + r % 8388608) * 2 ^ (r / 8388608 - 1) < 16777216 * 2 ^ (r / 8388608 - 1) := Nat.mul_lt_mul_of_pos_right (by omega) (Nat.pow_pos (by decide))
        have h2 : 16777216 * 2 ^ (r / 8388608 - 1) = 8388608 * 2 ^ (r / 8388608) := by
          rw [show r / 8388608 = (r / 8388608 - 1) + 1 by omega, Nat.pow_succ, Nat.add_sub_cancel]
          omega
        have h3 : 8388608 * 2 ^ (r / 8388608) ≤ 8388608 * 2 ^ (s / 8388608 - 1) := Nat.mul_le_mul_left _ (Nat.pow_le_pow_right (by decide) (by omega))
        have h4 : 8388608 * 2 ^ (s / 8388608 - 1) ≤ (8388608 + s % 8388608) * 2 ^ (s / 8388608 - 1) := Nat.mul_le_mul_right _ (by omega)
        omega

/-- Words in the order of their numbers. -/
def keyB (b : Nat) : Int := if b < 2147483648 then b else 2147483648 - (b : Int)

theorem read_word {b : Nat} (h : b < 4294967296) (hr : b % 2147483648 < 2139095040) : single.read b = .number (decide (2147483648 ≤ b)) (magB (b % 2147483648)) (placeB (b % 2147483648)) := by
  unfold Format.read magB placeB
  have e2 : b % single.signWeight = b % 2147483648 := rfl
  have e3 : (b / single.signWeight % 2 == 1) = decide (2147483648 ≤ b) := by
    rw [sgl_sign]
    by_cases hb : 2147483648 ≤ b
    · have : b / 2147483648 % 2 = 1 := by omega
      simp [this, hb]
    · have : b / 2147483648 % 2 = 0 := by omega
      simp [this, hb]
  simp only [e2, e3]
  generalize b % 2147483648 = r at *
  by_cases h1 : r < 8388608
  · have h1' : r < single.binade := h1
    rw [if_pos h1', if_pos h1, if_pos h1]
    rfl
  · have h1' : ¬ r < single.binade := h1
    have h2' : r < single.infRung := hr
    rw [if_neg h1', if_pos h2', if_neg h1, if_neg h1]
    rfl

theorem read_inf {b : Nat} (h : b < 4294967296) (hr : b % 2147483648 = 2139095040) : single.read b = .infinity (decide (2147483648 ≤ b)) := by
  have : b = 2139095040 ∨ b = 4286578688 := by omega
  rcases this with rfl | rfl <;> decide

theorem read_nan {b : Nat} (hr : 2139095040 < b % 2147483648) : single.read b = .nan (b / 2147483648 % 2 == 1) (b % 2147483648 - 2139095040) := by
  unfold Format.read
  have e2 : b % single.signWeight = b % 2147483648 := rfl
  simp only [e2]
  have h1 : ¬ (b % 2147483648 < single.binade) := by rw [sgl_binade]; omega
  have h2 : ¬ (b % 2147483648 < single.infRung) := by rw [sgl_inf]; omega
  have h3 : ¬ (b % 2147483648 = single.infRung) := by rw [sgl_inf]; omega
  rw [if_neg h1, if_neg h2, if_neg h3]
  rfl

theorem place_ge (r : Nat) : -149 ≤ placeB r := by
  unfold placeB
  split <;> omega

/-- A number's units at a lesser place. -/
theorem signed_units (neg : Bool) (r : Nat) (base : Int) (h0 : -149 ≤ base) (h : base ≤ placeB r) : signed neg (magB r) (placeB r - base).toNat * 2 ^ (base + 149).toNat = if neg then -(unitsB r : Int) else unitsB r := by
  have e : (magB r <<< (placeB r - base).toNat) * 2 ^ (base + 149).toNat = unitsB r := by
    unfold unitsB
    rw [← Nat.shiftLeft_eq, ← Nat.shiftLeft_add]
    congr 1
    omega
  unfold signed
  cases neg
  · simp only [Bool.false_eq_true, if_false, ← e]
    simp
  · simp only [if_true, ← e]
    simp [Int.neg_mul]

theorem cmp_scale (a c : Int) {p : Int} (h : 0 < p) : compare a c = compare (a * p) (c * p) := by
  have e1 : a * p < c * p ↔ a < c := ⟨fun h' => Int.lt_of_mul_lt_mul_right h' (by omega), fun h' => Int.mul_lt_mul_of_pos_right h' h⟩
  have e2 : a * p = c * p ↔ a = c := ⟨fun h' => Int.eq_of_mul_eq_mul_right (by omega) h', fun h' => by rw [h']⟩
  simp only [compare, compareOfLessAndEq, e1, e2]

theorem units_zero {_ : Nat} : unitsB 0 = 0 := by decide

theorem cmp_units {neg neg' : Bool} {r s : Nat} : compare (if neg then -(unitsB r : Int) else unitsB r) (if neg' then -(unitsB s : Int) else unitsB s) = compare (if neg then -(r : Int) else r) (if neg' then -(s : Int) else s) := by
  have hz : unitsB 0 = 0 := by decide
  have h1 : r < s → unitsB r < unitsB s := units_mono
  have h2 : s < r → unitsB s < unitsB r := units_mono
  have h3 : r = s → unitsB r = unitsB s := fun h => by rw [h]
  have h4 : 0 < r → 0 < unitsB r := fun h => by have := units_mono h; omega
  have h5 : r = 0 → unitsB r = 0 := fun h => by rw [h]; exact hz
  have h6 : 0 < s → 0 < unitsB s := fun h => by have := units_mono h; omega
  have h7 : s = 0 → unitsB s = 0 := fun h => by rw [h]; exact hz
  generalize unitsB r = u at *
  generalize unitsB s = v at *
  simp only [compare, compareOfLessAndEq]
  cases neg <;> cases neg' <;> simp only [Bool.false_eq_true, if_false, if_true] <;> (repeat' split) <;> first | rfl | (exfalso; omega)

/-- **The order of two numbers, or infinities.** -/
theorem order_key {b c : Nat} (hb : b < 4294967296) (hc : c < 4294967296) (hb' : b % 2147483648 ≤ 2139095040) (hc' : c % 2147483648 ≤ 2139095040) : single.order b c = some (compare (keyB b) (keyB c)) := by
  have hk : ∀ {n : Nat}, n < 4294967296 → keyB n = if decide (2147483648 ≤ n) then -((n % 2147483648 : Nat) : Int) else ((n % 2147483648 : Nat) : Int) := by
    intro n hn
    unfold keyB
    by_cases h : 2147483648 ≤ n
    · simp only [h, decide_true, if_true, if_neg (show ¬ n < 2147483648 by omega)]; omega
    · simp only [h, decide_false, Bool.false_eq_true, if_false, if_pos (show n < 2147483648 by omega)]; omega
  rw [hk hb, hk hc]
  unfold Format.order
  by_cases h1 : b % 2147483648 = 2139095040
  · rw [read_inf hb h1]
    by_cases h2 : c % 2147483648 = 2139095040
    · rw [read_inf hc h2, h1, h2]
      simp only [Datum.order]
      cases decide (2147483648 ≤ b) <;> cases decide (2147483648 ≤ c) <;> rfl
    · rw [read_word hc (by omega), h1]
      simp only [Datum.order, Option.some.injEq]
      generalize c % 2147483648 = s at *
      simp only [compare, compareOfLessAndEq]
      cases decide (2147483648 ≤ b) <;> cases decide (2147483648 ≤ c) <;> simp only [Bool.false_eq_true, if_false, if_true] <;> (repeat' split) <;> first | rfl | (exfalso; omega)
  · rw [read_word hb (by omega)]
    by_cases h2 : c % 2147483648 = 2139095040
    · rw [read_inf hc h2, h2]
      simp only [Datum.order, Option.some.injEq]
      generalize b % 2147483648 = s at *
      simp only [compare, compareOfLessAndEq]
      cases decide (2147483648 ≤ b) <;> cases decide (2147483648 ≤ c) <;> simp only [Bool.false_eq_true, if_false, if_true] <;> (repeat' split) <;> first | rfl | (exfalso; omega)
    · rw [read_word hc (by omega)]
      simp only [Datum.order, Option.some.injEq]
      have g1 := place_ge (b % 2147483648)
      have g2 := place_ge (c % 2147483648)
      rw [cmp_scale _ _ (p := (2 : Int) ^ (min (placeB (b % 2147483648)) (placeB (c % 2147483648)) + 149).toNat) (Int.pow_pos (by decide))]
      have s1 := signed_units (decide (2147483648 ≤ b)) (b % 2147483648) (min (placeB (b % 2147483648)) (placeB (c % 2147483648))) (by omega) (by omega)
      have s2 := signed_units (decide (2147483648 ≤ c)) (c % 2147483648) (min (placeB (b % 2147483648)) (placeB (c % 2147483648))) (by omega) (by omega)
      rw [s1, s2]
      exact cmp_units

/-- A NaN stands in no order. -/
theorem order_nan {b c : Nat} (h : 2139095040 < b % 2147483648) : single.order b c = none := by
  unfold Format.order
  rw [read_nan h]
  rfl


/-- The word of a number of the format, in whatever form it is given. -/
theorem nearest_rung (neg : Bool) {r : Nat} (h0 : r ≠ 0) (h : r < 2139095040) (mag : Nat) (place : Int) (d : Nat) (hm : mag = magB r <<< d) (hp : place = placeB r - d) : single.nearest neg mag place = single.word neg r := by
  obtain ⟨m0, m1, m2, m3, m4⟩ := magB_ok h h0
  rw [nearest_exact neg (magB r) (placeB r) m0 m1 m2 m4 mag place (.inl ⟨d, hm, hp⟩)]
  congr 1
  unfold magB placeB
  by_cases h1 : r < 8388608
  · simp only [if_pos h1]
    omega
  · simp only [if_neg h1]
    omega

/-- 0 less a number that isn't 0. -/
theorem sub_zero {b : Nat} (hb : b < 4294967296) (h0 : b % 2147483648 ≠ 0) (h : b % 2147483648 < 2139095040) : single.sub 0 b = some (if b < 2147483648 then 2147483648 + b else b - 2147483648) := by
  unfold Format.sub
  have hz : single.read 0 = .number false 0 (-149) := by decide
  rw [hz, read_word hb h]
  obtain ⟨m0, m1, m2, m3, m4⟩ := magB_ok h h0
  have hmin : min (-149) (placeB (b % 2147483648)) = -149 := by omega
  simp only [Datum.opposite, Datum.sum, hmin, Option.map_some, Option.some.injEq, Format.write]
  have hs0 : signed false 0 ((-149 : Int) - -149).toNat = 0 := rfl
  rw [hs0, Int.zero_add]
  have hw : single.word (!decide (2147483648 ≤ b)) (b % 2147483648) = if b < 2147483648 then 2147483648 + b else b - 2147483648 := by
    unfold Format.word
    rw [sgl_sign]
    by_cases hl : b < 2147483648
    · simp only [show ¬ 2147483648 ≤ b by omega, decide_false, Bool.not_false, if_true, if_pos hl]; omega
    · simp only [show 2147483648 ≤ b by omega, decide_true, Bool.not_true, Bool.false_eq_true, if_false, if_neg hl]; omega
  rw [← hw]
  have hne : magB (b % 2147483648) <<< (placeB (b % 2147483648) - -149).toNat ≠ 0 := shift_ne m0 _
  have key := fun neg => nearest_rung neg h0 h (magB (b % 2147483648) <<< (placeB (b % 2147483648) - -149).toNat) (-149) (placeB (b % 2147483648) - -149).toNat rfl (by omega)
  rw [← key]
  unfold signed
  generalize magB (b % 2147483648) <<< (placeB (b % 2147483648) - -149).toNat = S at hne ⊢
  cases decide (2147483648 ≤ b)
  · simp only [Bool.not_false, if_true]
    have e1 : ¬ (-(S : Int) = 0) := by omega
    have e2 : decide (-(S : Int) < 0) = true := decide_eq_true (by omega)
    rw [if_neg e1, e2, Int.natAbs_neg, Int.natAbs_natCast]
  · simp only [Bool.not_true, Bool.false_eq_true, if_false]
    have e1 : ¬ ((S : Int) = 0) := by omega
    have e2 : decide ((S : Int) < 0) = false := decide_eq_false (by omega)
    rw [if_neg e1, e2, Int.natAbs_natCast]

/-- An integer as a float. -/
theorem write_int {n : Nat} : single.write (.number (decide ((n : Int) < 0)) (n : Int).natAbs 0) = if n = 0 then 0 else fl n 0 := by
  have e : decide ((n : Int) < 0) = false := decide_eq_false (by omega)
  rw [e, Int.natAbs_natCast]
  unfold Format.write fl
  simp only
  split
  · rename_i h; subst h; decide
  · rfl

/-- A float that is an integer, as one. -/
theorem toInt_fl {m : Nat} (h0 : m ≠ 0) (h1 : m < 16777216) : (single.read (fl m 0)).toInt .zero = some (m : Int) := by
  rw [read_fl h0 h1 (by omega) (by omega)]
  unfold Datum.toInt Datum.integral
  simp only
  have e1 : ((0 : Int) - (shK m 0 : Int)).toNat = 0 := by omega
  have e2 : (-((0 : Int) - (shK m 0 : Int))).toNat = shK m 0 := by omega
  rw [e1, e2, Nat.shiftLeft_zero]
  have hc : Toward.zero.cut false (m <<< shK m 0) (shK m 0) = m := by
    unfold Toward.cut
    have hl := log2_shift m (shK m 0) h0
    have hm : min (shK m 0) ((m <<< shK m 0).log2 + 2) = shK m 0 := by omega
    simp only [hm]
    simp only [Nat.shiftLeft_eq, Nat.one_mul]
    rw [Nat.mul_div_cancel _ (Nat.pow_pos (by decide))]
    rfl
  rw [hc]
  simp [signed]

theorem toInt_zero : (single.read 0).toInt .zero = some (0 : Int) := by decide
end Go.RX
