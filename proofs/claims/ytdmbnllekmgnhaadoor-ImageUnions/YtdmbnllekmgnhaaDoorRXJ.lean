import Derived.Test.YtdmbnllekmgnhaaDoorRXI
namespace Go.RX
noncomputable section
open Ieee

/-! ### Halving and doubling; comparisons of floats as comparisons of integers -/
def FF (m : Nat) (i : Int) : Nat := if m = 0 then 0 else fl m i

theorem FF_mul {m : Nat} {i : Int} (h1 : m < 16777216) (hi : -149 ≤ i) (hi2 : i ≤ 104) : arF .mul (FF m i) 1073741824 = some (FF m (i + 1)) := by
  unfold FF arF
  by_cases h0 : m = 0
  · simp only [if_pos h0]; exact zero_twice
  · simp only [if_neg h0]; exact mul_two h0 h1 hi hi2

theorem FF_div {m : Nat} {i : Int} (h1 : m < 16777216) (hi : -149 < i) (hi2 : i ≤ 104) : arF .quo (FF m i) 1073741824 = some (FF m (i - 1)) := by
  unfold FF arF
  by_cases h0 : m = 0
  · simp only [if_pos h0]; exact zero_half
  · simp only [if_neg h0]; exact div_two h0 h1 hi hi2

theorem FF_int (m : Nat) : FloatKind.nearest .f32 (m : Int) = FF m 0 := write_int

theorem FF_bits {r : Nat} (h : r < 2139095040) : FF (magB r) (placeB r) = r := by
  unfold FF
  by_cases h0 : r = 0
  · subst h0; decide
  · rw [if_neg (magB_ok h h0).1, fl_bits h h0]

theorem magB_lt (r : Nat) : magB r < 16777216 := by
  unfold magB
  split <;> omega

theorem sub_zero' {b : Nat} (hb : b < 4294967296) (h0 : b % 2147483648 ≠ 0) (h : b % 2147483648 < 2139095040) : arF .sub 0 b = some (if b < 2147483648 then 2147483648 + b else b - 2147483648) := sub_zero hb h0 h

/-- No NaN. -/
def Num (b : Nat) : Prop := b < 4294967296 ∧ b % 2147483648 ≤ 2139095040

theorem cmpF_key {op : BinOp} (hop : isCmp op = true) {a b : Nat} (ha : Num a) (hb : Num b) : cmpF op a b = cmpI op (keyB a) (keyB b) := by
  unfold cmpF
  rw [order_key ha.1 hb.1 ha.2 hb.2]
  generalize keyB a = x
  generalize keyB b = y
  simp only [compare, compareOfLessAndEq]
  rcases Int.lt_trichotomy x y with h | h | h
  · have h1 : ¬ x = y := by omega
    have h2 : ¬ y ≤ x := by omega
    have h3 : ¬ y < x := by omega
    have h4 : x ≤ y := by omega
    have h5 : (x != y) = true := by simp [h1]
    have h6 : (x == y) = false := by simp [h1]
    simp only [if_pos h]
    cases op <;> first | (exact absurd hop (by decide)) | (simp only [cmpI, gt_iff_lt, ge_iff_le, h5, h6, h, h2, h3, h4, decide_true, decide_false]; try decide)
  · subst h
    have h5 : (x != x) = false := by simp
    have h6 : (x == x) = true := by simp
    simp only [if_neg (Int.lt_irrefl x), if_true]
    cases op <;> first | (exact absurd hop (by decide)) | (simp only [cmpI, gt_iff_lt, ge_iff_le, h5, h6, Int.lt_irrefl, Int.le_refl, decide_true, decide_false]; try decide)
  · have h1 : ¬ x = y := by omega
    have h2 : ¬ x < y := by omega
    have h3 : ¬ x ≤ y := by omega
    have h4 : y ≤ x := by omega
    have h5 : (x != y) = true := by simp [h1]
    have h6 : (x == y) = false := by simp [h1]
    simp only [if_neg h2, if_neg h1]
    cases op <;> first | (exact absurd hop (by decide)) | (simp only [cmpI, gt_iff_lt, ge_iff_le, h5, h6, h, h2, h3, h4, decide_true, decide_false]; try decide)

theorem cmpF_nan {op : BinOp} {a b : Nat} (h : 2139095040 < a % 2147483648) : cmpF op a b = (match op with | .neq => true | _ => false) := by
  unfold cmpF
  rw [order_nan h]
  cases op <;> rfl

theorem fl_num {m : Nat} {i : Int} (h0 : m ≠ 0) (h1 : m < 16777216) (hi : -149 ≤ i) (hi2 : i ≤ 104) : Num (fl m i) ∧ fl m i < 2139095040 ∧ fl m i ≠ 0 := by
  have h := fl_val h0 h1 hi hi2
  have h2 := rung_lt h0 h1 hi hi2
  have h3 := shift_ne h0 (shK m i)
  generalize m <<< shK m i = S at *
  refine ⟨⟨by omega, by omega⟩, by omega, by omega⟩

theorem key_low {b : Nat} (h : b < 2147483648) : keyB b = (b : Int) := by
  unfold keyB
  rw [if_pos h]

theorem shK_norm {m : Nat} {i : Int} (h1 : m < 16777216) (hn : 8388608 ≤ m) : shK m i = 0 := by
  have : 23 ≤ m.log2 := (Nat.le_log2 (by omega)).2 (by omega)
  unfold shK
  omega

theorem fl_norm {m : Nat} {i : Int} (h1 : m < 16777216) (hn : 8388608 ≤ m) (hi : -149 ≤ i) (hi2 : i ≤ 104) : (fl m i : Int) = (i + 149) * 8388608 + m := by
  rw [fl_val (by omega) h1 hi hi2, shK_norm h1 hn, Nat.shiftLeft_zero]
  omega

/-- At most 0: below the least number of 24 binary digits. -/
theorem fl_small {m : Nat} {i : Int} (h0 : m ≠ 0) (h1 : m < 8388608) (hi : -149 ≤ i) (hi2 : i ≤ 0) : fl m i < 1258291200 := by
  rw [fl_val h0 (by omega) hi (by omega)]
  have h2 : (m <<< shK m i) < 16777216 := (can_ok h0 (by omega) hi).2.1
  have hl : m.log2 < 23 := (Nat.log2_lt h0).2 (by omega)
  by_cases hk : shK m i = 0
  · have : i = -149 := by unfold shK at hk; omega
    subst this
    rw [hk, Nat.shiftLeft_zero]
    omega
  · omega

theorem toInt_FF {m : Nat} (h1 : m < 16777216) : (single.read (FF m 0)).toInt .zero = some (m : Int) := by
  unfold FF
  by_cases h0 : m = 0
  · subst h0; exact toInt_zero
  · rw [if_neg h0]; exact toInt_fl h0 h1
end
end Go.RX
