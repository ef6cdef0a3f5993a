import Derived.Test.YtgecchiocfkpkaaGreatDoorLJ
namespace Go.Proofs.YtgecchiocfkpkaaGreatDoor
noncomputable section
open Go Go.RX
open Go.RowKit (Below)
set_option maxRecDepth 1000000
set_option maxHeartbeats 4000000
/-! ### Bits -/
theorem sx_and {w : Nat} (hw : w ≤ 64) (x y : Int) (hx : (BitVec.ofInt w x).toInt = x) (hy : (BitVec.ofInt w y).toInt = y) : (BitVec.ofInt 64 x &&& BitVec.ofInt 64 y).toInt = (BitVec.ofInt w x &&& BitVec.ofInt w y).toInt := by
  have e : ∀ z : Int, (BitVec.ofInt w z).toInt = z → BitVec.ofInt 64 z = (BitVec.ofInt w z).signExtend 64 := by
    intro z hz
    unfold BitVec.signExtend
    rw [hz]
  rw [e x hx, e y hy, ← BitVec.signExtend_and, BitVec.toInt_signExtend_of_le hw]
theorem sx_or {w : Nat} (hw : w ≤ 64) (x y : Int) (hx : (BitVec.ofInt w x).toInt = x) (hy : (BitVec.ofInt w y).toInt = y) : (BitVec.ofInt 64 x ||| BitVec.ofInt 64 y).toInt = (BitVec.ofInt w x ||| BitVec.ofInt w y).toInt := by
  have e : ∀ z : Int, (BitVec.ofInt w z).toInt = z → BitVec.ofInt 64 z = (BitVec.ofInt w z).signExtend 64 := by
    intro z hz
    unfold BitVec.signExtend
    rw [hz]
  rw [e x hx, e y hy, ← BitVec.signExtend_or, BitVec.toInt_signExtend_of_le hw]
theorem sx_xor {w : Nat} (hw : w ≤ 64) (x y : Int) (hx : (BitVec.ofInt w x).toInt = x) (hy : (BitVec.ofInt w y).toInt = y) : (BitVec.ofInt 64 x ^^^ BitVec.ofInt 64 y).toInt = (BitVec.ofInt w x ^^^ BitVec.ofInt w y).toInt := by
  have e : ∀ z : Int, (BitVec.ofInt w z).toInt = z → BitVec.ofInt 64 z = (BitVec.ofInt w z).signExtend 64 := by
    intro z hz
    unfold BitVec.signExtend
    rw [hz]
  rw [e x hx, e y hy, ← BitVec.signExtend_xor, BitVec.toInt_signExtend_of_le hw]
theorem w_toInt (v : BitVec 64) : IntKind.wrap .i64 (v.toNat : Int) = v.toInt := by
  have h := v.isLt
  rw [wrap_i64, BitVec.toInt_eq_toNat_cond]
  split <;> omega
theorem w_toNat (v : BitVec 64) : IntKind.wrap .u64 (v.toNat : Int) = v.toNat := by
  have h := v.isLt
  rw [wrap_u64]
  omega
theorem toInt_8 {x : Int} (h0 : -128 ≤ x) (h1 : x ≤ 127) : (BitVec.ofInt 8 x).toInt = x := by
  rw [BitVec.toInt_ofInt]
  simp only [Int.bmod]
  split <;> omega
theorem toInt_16 {x : Int} (h0 : -32768 ≤ x) (h1 : x ≤ 32767) : (BitVec.ofInt 16 x).toInt = x := by
  rw [BitVec.toInt_ofInt]
  simp only [Int.bmod]
  split <;> omega
theorem toInt_32 {x : Int} (h0 : -2147483648 ≤ x) (h1 : x ≤ 2147483647) : (BitVec.ofInt 32 x).toInt = x := by
  rw [BitVec.toInt_ofInt]
  simp only [Int.bmod]
  split <;> omega
theorem toNat_of (w : Nat) (x : Int) : ((BitVec.ofInt w x).toNat : Int) = x % 2 ^ w := by
  have h : (0 : Int) < 2 ^ w := Int.pow_pos (by decide)
  have h2 := Int.emod_nonneg x (show (2 : Int) ^ w ≠ 0 by omega)
  rw [BitVec.toNat_ofInt]
  have e : ((2 ^ w : Nat) : Int) = (2 : Int) ^ w := by norm_cast
  rw [e]
  omega
theorem ofInt_id (w : Nat) (x : Int) (h0 : 0 ≤ x) (h1 : x < 2 ^ 64) (hw : 64 = w) : (BitVec.ofInt w x).toNat = x.toNat := by subst hw; exact ofInt_toNat 64 x h0 h1
/-- A word of a kind with the mask M: which number it is. -/
def numI (sg : Bool) (hi M b : Int) : Int := if sg && decide (b > hi) then b - (M + 1) else b
theorem and_mask {M : Int} (hM : M = 1 ∨ M = 255 ∨ M = 65535 ∨ M = 4294967295) {x : Int} (h0 : 0 ≤ x) (h1 : x < 18446744073709551616) : binI .and .u64 x M = x % (M + 1) := by
  rcases hM with rfl | rfl | rfl | rfl
  · exact and_u64_1 x h0 h1
  · exact and_u64_8 x h0 h1
  · exact and_u64_16 x h0 h1
  · exact and_u64_32 x h0 h1
theorem or_mask {M : Int} (hM : M = 255 ∨ M = 65535 ∨ M = 4294967295) {x : Int} (h0 : 0 ≤ x) (h1 : x ≤ M) : binI .or .u64 x (18446744073709551615 - M) = x + (18446744073709551615 - M) := by
  rcases hM with rfl | rfl | rfl
  · exact or_u64_8 x h0 (by omega)
  · exact or_u64_16 x h0 (by omega)
  · exact or_u64_32 x h0 (by omega)
theorem nat_and (w : Nat) {a b : Nat} (_h2 : a < 2 ^ w) (h3 : b < 2 ^ w) : a &&& b < 2 ^ w := Nat.and_lt_two_pow _ h3
/-- Of numbers from 0 on. -/
theorem bit_u_and (w : Nat) (hw : w ≤ 32) {x y : Int} (x0 : 0 ≤ x) (x1 : x < 2 ^ w) (y0 : 0 ≤ y) (y1 : y < 2 ^ w) : ∃ Z : Int, 0 ≤ Z ∧ Z < 2 ^ w ∧ binI .and .u64 x y = Z ∧ binI .and .i64 x y = Z := by
  have hp : (2 : Int) ^ w ≤ 4294967296 := by
    have h : (2 : Nat) ^ w ≤ 2 ^ 32 := Nat.pow_le_pow_right (by decide) hw
    have e : ((2 ^ w : Nat) : Int) = (2 : Int) ^ w := by norm_cast
    omega
  have e : ((2 ^ w : Nat) : Int) = (2 : Int) ^ w := by norm_cast
  have hx : x.toNat < 2 ^ w := by omega
  have hy : y.toNat < 2 ^ w := by omega
  have hz := nat_and w hx hy
  have ev : (BitVec.ofInt 64 x &&& BitVec.ofInt 64 y).toNat = x.toNat &&& y.toNat := by
    rw [BitVec.toNat_and, ofInt_toNat 64 x x0 (by omega), ofInt_toNat 64 y y0 (by omega)]
  generalize x.toNat &&& y.toNat = z at hz ev
  refine ⟨z, by omega, by omega, ?_, ?_⟩
  · show IntKind.wrap .u64 (((BitVec.ofInt 64 x &&& BitVec.ofInt 64 y).toNat : Nat) : Int) = _
    rw [w_toNat, ev]
  · show IntKind.wrap .i64 (((BitVec.ofInt 64 x &&& BitVec.ofInt 64 y).toNat : Nat) : Int) = _
    rw [ev]
    exact w64 (by omega) (by omega)
/-- Of signed ones. -/
theorem bit_s_and (w : Nat) (hw : w ≤ 32) (h8 : 1 ≤ w) {x y : Int} (hx : (BitVec.ofInt w x).toInt = x) (hy : (BitVec.ofInt w y).toInt = y) : ∃ Z : Int, 0 ≤ Z ∧ Z < 2 ^ w ∧ binI .and .u64 (x % 2 ^ w) (y % 2 ^ w) = Z ∧ binI .and .i64 x y = if 2 * Z < 2 ^ w then Z else Z - 2 ^ w := by
  have e : ((2 ^ w : Nat) : Int) = (2 : Int) ^ w := by norm_cast
  have hp0 : (0 : Int) < 2 ^ w := Int.pow_pos (by decide)
  have hp : (2 : Int) ^ w ≤ 4294967296 := by
    have h : (2 : Nat) ^ w ≤ 2 ^ 32 := Nat.pow_le_pow_right (by decide) hw
    omega
  have ex := toNat_of w x
  have ey := toNat_of w y
  have hv := (BitVec.ofInt w x &&& BitVec.ofInt w y).isLt
  have lx := (BitVec.ofInt w x).isLt
  have ly := (BitVec.ofInt w y).isLt
  have ez := BitVec.toNat_and (BitVec.ofInt w x) (BitVec.ofInt w y)
  refine ⟨((BitVec.ofInt w x &&& BitVec.ofInt w y).toNat : Int), by omega, by omega, ?_, ?_⟩
  · show IntKind.wrap .u64 (((BitVec.ofInt 64 (x % 2 ^ w) &&& BitVec.ofInt 64 (y % 2 ^ w)).toNat : Nat) : Int) = _
    rw [w_toNat, BitVec.toNat_and, ofInt_toNat 64 (x % 2 ^ w) (by omega) (by omega), ofInt_toNat 64 (y % 2 ^ w) (by omega) (by omega), ← ex, ← ey, Int.toNat_natCast, Int.toNat_natCast, ez]
  · show IntKind.wrap .i64 (((BitVec.ofInt 64 x &&& BitVec.ofInt 64 y).toNat : Nat) : Int) = _
    rw [w_toInt, sx_and (show w ≤ 64 by omega) x y hx hy, BitVec.toInt_eq_toNat_cond]
    generalize (BitVec.ofInt w x &&& BitVec.ofInt w y).toNat = z at *
    split <;> split <;> omega
theorem nat_or (w : Nat) {a b : Nat} (h2 : a < 2 ^ w) (h3 : b < 2 ^ w) : a ||| b < 2 ^ w := Nat.or_lt_two_pow h2 h3
/-- Of numbers from 0 on. -/
theorem bit_u_or (w : Nat) (hw : w ≤ 32) {x y : Int} (x0 : 0 ≤ x) (x1 : x < 2 ^ w) (y0 : 0 ≤ y) (y1 : y < 2 ^ w) : ∃ Z : Int, 0 ≤ Z ∧ Z < 2 ^ w ∧ binI .or .u64 x y = Z ∧ binI .or .i64 x y = Z := by
  have hp : (2 : Int) ^ w ≤ 4294967296 := by
    have h : (2 : Nat) ^ w ≤ 2 ^ 32 := Nat.pow_le_pow_right (by decide) hw
    have e : ((2 ^ w : Nat) : Int) = (2 : Int) ^ w := by norm_cast
    omega
  have e : ((2 ^ w : Nat) : Int) = (2 : Int) ^ w := by norm_cast
  have hx : x.toNat < 2 ^ w := by omega
  have hy : y.toNat < 2 ^ w := by omega
  have hz := nat_or w hx hy
  have ev : (BitVec.ofInt 64 x ||| BitVec.ofInt 64 y).toNat = x.toNat ||| y.toNat := by
    rw [BitVec.toNat_or, ofInt_toNat 64 x x0 (by omega), ofInt_toNat 64 y y0 (by omega)]
  generalize x.toNat ||| y.toNat = z at hz ev
  refine ⟨z, by omega, by omega, ?_, ?_⟩
  · show IntKind.wrap .u64 (((BitVec.ofInt 64 x ||| BitVec.ofInt 64 y).toNat : Nat) : Int) = _
    rw [w_toNat, ev]
  · show IntKind.wrap .i64 (((BitVec.ofInt 64 x ||| BitVec.ofInt 64 y).toNat : Nat) : Int) = _
    rw [ev]
    exact w64 (by omega) (by omega)
/-- Of signed ones. -/
theorem bit_s_or (w : Nat) (hw : w ≤ 32) (h8 : 1 ≤ w) {x y : Int} (hx : (BitVec.ofInt w x).toInt = x) (hy : (BitVec.ofInt w y).toInt = y) : ∃ Z : Int, 0 ≤ Z ∧ Z < 2 ^ w ∧ binI .or .u64 (x % 2 ^ w) (y % 2 ^ w) = Z ∧ binI .or .i64 x y = if 2 * Z < 2 ^ w then Z else Z - 2 ^ w := by
  have e : ((2 ^ w : Nat) : Int) = (2 : Int) ^ w := by norm_cast
  have hp0 : (0 : Int) < 2 ^ w := Int.pow_pos (by decide)
  have hp : (2 : Int) ^ w ≤ 4294967296 := by
    have h : (2 : Nat) ^ w ≤ 2 ^ 32 := Nat.pow_le_pow_right (by decide) hw
    omega
  have ex := toNat_of w x
  have ey := toNat_of w y
  have hv := (BitVec.ofInt w x ||| BitVec.ofInt w y).isLt
  have lx := (BitVec.ofInt w x).isLt
  have ly := (BitVec.ofInt w y).isLt
  have ez := BitVec.toNat_or (BitVec.ofInt w x) (BitVec.ofInt w y)
  refine ⟨((BitVec.ofInt w x ||| BitVec.ofInt w y).toNat : Int), by omega, by omega, ?_, ?_⟩
  · show IntKind.wrap .u64 (((BitVec.ofInt 64 (x % 2 ^ w) ||| BitVec.ofInt 64 (y % 2 ^ w)).toNat : Nat) : Int) = _
    rw [w_toNat, BitVec.toNat_or, ofInt_toNat 64 (x % 2 ^ w) (by omega) (by omega), ofInt_toNat 64 (y % 2 ^ w) (by omega) (by omega), ← ex, ← ey, Int.toNat_natCast, Int.toNat_natCast, ez]
  · show IntKind.wrap .i64 (((BitVec.ofInt 64 x ||| BitVec.ofInt 64 y).toNat : Nat) : Int) = _
    rw [w_toInt, sx_or (show w ≤ 64 by omega) x y hx hy, BitVec.toInt_eq_toNat_cond]
    generalize (BitVec.ofInt w x ||| BitVec.ofInt w y).toNat = z at *
    split <;> split <;> omega
theorem nat_xor (w : Nat) {a b : Nat} (h2 : a < 2 ^ w) (h3 : b < 2 ^ w) : a ^^^ b < 2 ^ w := Nat.xor_lt_two_pow h2 h3
/-- Of numbers from 0 on. -/
theorem bit_u_xor (w : Nat) (hw : w ≤ 32) {x y : Int} (x0 : 0 ≤ x) (x1 : x < 2 ^ w) (y0 : 0 ≤ y) (y1 : y < 2 ^ w) : ∃ Z : Int, 0 ≤ Z ∧ Z < 2 ^ w ∧ binI .xor .u64 x y = Z ∧ binI .xor .i64 x y = Z := by
  have hp : (2 : Int) ^ w ≤ 4294967296 := by
    have h : (2 : Nat) ^ w ≤ 2 ^ 32 := Nat.pow_le_pow_right (by decide) hw
    have e : ((2 ^ w : Nat) : Int) = (2 : Int) ^ w := by norm_cast
    omega
  have e : ((2 ^ w : Nat) : Int) = (2 : Int) ^ w := by norm_cast
  have hx : x.toNat < 2 ^ w := by omega
  have hy : y.toNat < 2 ^ w := by omega
  have hz := nat_xor w hx hy
  have ev : (BitVec.ofInt 64 x ^^^ BitVec.ofInt 64 y).toNat = x.toNat ^^^ y.toNat := by
    rw [BitVec.toNat_xor, ofInt_toNat 64 x x0 (by omega), ofInt_toNat 64 y y0 (by omega)]
  generalize x.toNat ^^^ y.toNat = z at hz ev
  refine ⟨z, by omega, by omega, ?_, ?_⟩
  · show IntKind.wrap .u64 (((BitVec.ofInt 64 x ^^^ BitVec.ofInt 64 y).toNat : Nat) : Int) = _
    rw [w_toNat, ev]
  · show IntKind.wrap .i64 (((BitVec.ofInt 64 x ^^^ BitVec.ofInt 64 y).toNat : Nat) : Int) = _
    rw [ev]
    exact w64 (by omega) (by omega)
/-- Of signed ones. -/
theorem bit_s_xor (w : Nat) (hw : w ≤ 32) (h8 : 1 ≤ w) {x y : Int} (hx : (BitVec.ofInt w x).toInt = x) (hy : (BitVec.ofInt w y).toInt = y) : ∃ Z : Int, 0 ≤ Z ∧ Z < 2 ^ w ∧ binI .xor .u64 (x % 2 ^ w) (y % 2 ^ w) = Z ∧ binI .xor .i64 x y = if 2 * Z < 2 ^ w then Z else Z - 2 ^ w := by
  have e : ((2 ^ w : Nat) : Int) = (2 : Int) ^ w := by norm_cast
  have hp0 : (0 : Int) < 2 ^ w := Int.pow_pos (by decide)
  have hp : (2 : Int) ^ w ≤ 4294967296 := by
    have h : (2 : Nat) ^ w ≤ 2 ^ 32 := Nat.pow_le_pow_right (by decide) hw
    omega
  have ex := toNat_of w x
  have ey := toNat_of w y
  have hv := (BitVec.ofInt w x ^^^ BitVec.ofInt w y).isLt
  have lx := (BitVec.ofInt w x).isLt
  have ly := (BitVec.ofInt w y).isLt
  have ez := BitVec.toNat_xor (BitVec.ofInt w x) (BitVec.ofInt w y)
  refine ⟨((BitVec.ofInt w x ^^^ BitVec.ofInt w y).toNat : Int), by omega, by omega, ?_, ?_⟩
  · show IntKind.wrap .u64 (((BitVec.ofInt 64 (x % 2 ^ w) ^^^ BitVec.ofInt 64 (y % 2 ^ w)).toNat : Nat) : Int) = _
    rw [w_toNat, BitVec.toNat_xor, ofInt_toNat 64 (x % 2 ^ w) (by omega) (by omega), ofInt_toNat 64 (y % 2 ^ w) (by omega) (by omega), ← ex, ← ey, Int.toNat_natCast, Int.toNat_natCast, ez]
  · show IntKind.wrap .i64 (((BitVec.ofInt 64 x ^^^ BitVec.ofInt 64 y).toNat : Nat) : Int) = _
    rw [w_toInt, sx_xor (show w ≤ 64 by omega) x y hx hy, BitVec.toInt_eq_toNat_cond]
    generalize (BitVec.ofInt w x ^^^ BitVec.ofInt w y).toNat = z at *
    split <;> split <;> omega
/-- Small kinds: (the kind, is it signed, its whole span, the mask). -/
def bitK : List (Int × Bool × Int × Int × Int) := [(0, false, 0, 1, 1), (1, false, 0, 255, 255), (2, false, 0, 65535, 65535), (3, false, 0, 4294967295, 4294967295), (5, true, -128, 127, 255), (6, true, -32768, 32767, 65535), (7, true, -2147483648, 2147483647, 4294967295)]
theorem bitK_ok {s : Int × Bool × Int × Int × Int} (hs : s ∈ bitK) : (s.2.2.2.2 = 1 ∨ s.2.2.2.2 = 255 ∨ s.2.2.2.2 = 65535 ∨ s.2.2.2.2 = 4294967295) ∧ (s.2.1 = true → (s.2.2.2.2 = 255 ∨ s.2.2.2.2 = 65535 ∨ s.2.2.2.2 = 4294967295) ∧ 2 * s.2.2.2.1 + 1 = s.2.2.2.2 ∧ s.2.2.1 = -s.2.2.2.1 - 1) ∧ (s.2.1 = false → s.2.2.2.1 = s.2.2.2.2 ∧ s.2.2.1 = 0) := by
  simp only [bitK, List.mem_cons, List.not_mem_nil, or_false] at hs
  rcases hs with rfl | rfl | rfl | rfl | rfl | rfl | rfl <;> simp
/-- What the program's operation on two numbers of a kind is. -/
theorem bit_and {s : Int × Bool × Int × Int × Int} (hs : s ∈ bitK) {x y : Int} (x0 : s.2.2.1 ≤ x) (x1 : x ≤ s.2.2.2.1) (y0 : s.2.2.1 ≤ y) (y1 : y ≤ s.2.2.2.1) :
    s.2.2.1 ≤ binI .and .i64 x y ∧ binI .and .i64 x y ≤ s.2.2.2.1 ∧ 0 ≤ binI .and .u64 (x % (s.2.2.2.2 + 1)) (y % (s.2.2.2.2 + 1)) ∧ binI .and .u64 (x % (s.2.2.2.2 + 1)) (y % (s.2.2.2.2 + 1)) ≤ s.2.2.2.2 ∧ numI s.2.1 s.2.2.2.1 s.2.2.2.2 (binI .and .u64 (x % (s.2.2.2.2 + 1)) (y % (s.2.2.2.2 + 1))) = binI .and .i64 x y := by
  simp only [bitK, List.mem_cons, List.not_mem_nil, or_false] at hs
  rcases hs with rfl | rfl | rfl | rfl | rfl | rfl | rfl
  · change 0 ≤ x at x0; change x ≤ 1 at x1; change 0 ≤ y at y0; change y ≤ 1 at y1
    show 0 ≤ binI .and .i64 x y ∧ binI .and .i64 x y ≤ 1 ∧ 0 ≤ binI .and .u64 (x % 2) (y % 2) ∧ binI .and .u64 (x % 2) (y % 2) ≤ 1 ∧ (if (false && decide (binI .and .u64 (x % 2) (y % 2) > 1)) = true then binI .and .u64 (x % 2) (y % 2) - 2 else binI .and .u64 (x % 2) (y % 2)) = binI .and .i64 x y
    have ex : x % 2 = x := by omega
    have ey : y % 2 = y := by omega
    obtain ⟨Z, z0, z1, e1, e2⟩ := bit_u_and 1 (by decide) (x := x) (y := y) (by omega) (by omega) (by omega) (by omega)
    rw [ex, ey, e1, e2]
    simp only [Bool.false_and, Bool.false_eq_true, if_false]
    exact ⟨by omega, by omega, by omega, by omega, trivial⟩
  · change 0 ≤ x at x0; change x ≤ 255 at x1; change 0 ≤ y at y0; change y ≤ 255 at y1
    show 0 ≤ binI .and .i64 x y ∧ binI .and .i64 x y ≤ 255 ∧ 0 ≤ binI .and .u64 (x % 256) (y % 256) ∧ binI .and .u64 (x % 256) (y % 256) ≤ 255 ∧ (if (false && decide (binI .and .u64 (x % 256) (y % 256) > 255)) = true then binI .and .u64 (x % 256) (y % 256) - 256 else binI .and .u64 (x % 256) (y % 256)) = binI .and .i64 x y
    have ex : x % 256 = x := by omega
    have ey : y % 256 = y := by omega
    obtain ⟨Z, z0, z1, e1, e2⟩ := bit_u_and 8 (by decide) (x := x) (y := y) (by omega) (by omega) (by omega) (by omega)
    rw [ex, ey, e1, e2]
    simp only [Bool.false_and, Bool.false_eq_true, if_false]
    exact ⟨by omega, by omega, by omega, by omega, trivial⟩
  · change 0 ≤ x at x0; change x ≤ 65535 at x1; change 0 ≤ y at y0; change y ≤ 65535 at y1
    show 0 ≤ binI .and .i64 x y ∧ binI .and .i64 x y ≤ 65535 ∧ 0 ≤ binI .and .u64 (x % 65536) (y % 65536) ∧ binI .and .u64 (x % 65536) (y % 65536) ≤ 65535 ∧ (if (false && decide (binI .and .u64 (x % 65536) (y % 65536) > 65535)) = true then binI .and .u64 (x % 65536) (y % 65536) - 65536 else binI .and .u64 (x % 65536) (y % 65536)) = binI .and .i64 x y
    have ex : x % 65536 = x := by omega
    have ey : y % 65536 = y := by omega
    obtain ⟨Z, z0, z1, e1, e2⟩ := bit_u_and 16 (by decide) (x := x) (y := y) (by omega) (by omega) (by omega) (by omega)
    rw [ex, ey, e1, e2]
    simp only [Bool.false_and, Bool.false_eq_true, if_false]
    exact ⟨by omega, by omega, by omega, by omega, trivial⟩
  · change 0 ≤ x at x0; change x ≤ 4294967295 at x1; change 0 ≤ y at y0; change y ≤ 4294967295 at y1
    show 0 ≤ binI .and .i64 x y ∧ binI .and .i64 x y ≤ 4294967295 ∧ 0 ≤ binI .and .u64 (x % 4294967296) (y % 4294967296) ∧ binI .and .u64 (x % 4294967296) (y % 4294967296) ≤ 4294967295 ∧ (if (false && decide (binI .and .u64 (x % 4294967296) (y % 4294967296) > 4294967295)) = true then binI .and .u64 (x % 4294967296) (y % 4294967296) - 4294967296 else binI .and .u64 (x % 4294967296) (y % 4294967296)) = binI .and .i64 x y
    have ex : x % 4294967296 = x := by omega
    have ey : y % 4294967296 = y := by omega
    obtain ⟨Z, z0, z1, e1, e2⟩ := bit_u_and 32 (by decide) (x := x) (y := y) (by omega) (by omega) (by omega) (by omega)
    rw [ex, ey, e1, e2]
    simp only [Bool.false_and, Bool.false_eq_true, if_false]
    exact ⟨by omega, by omega, by omega, by omega, trivial⟩
  · change -128 ≤ x at x0; change x ≤ 127 at x1; change -128 ≤ y at y0; change y ≤ 127 at y1
    show -128 ≤ binI .and .i64 x y ∧ binI .and .i64 x y ≤ 127 ∧ 0 ≤ binI .and .u64 (x % 256) (y % 256) ∧ binI .and .u64 (x % 256) (y % 256) ≤ 255 ∧ (if (true && decide (binI .and .u64 (x % 256) (y % 256) > 127)) = true then binI .and .u64 (x % 256) (y % 256) - 256 else binI .and .u64 (x % 256) (y % 256)) = binI .and .i64 x y
    obtain ⟨Z, z0, z1, e1, e2⟩ := bit_s_and 8 (by decide) (by decide) (x := x) (y := y) (toInt_8 x0 x1) (toInt_8 y0 y1)
    have e1 : binI .and .u64 (x % 256) (y % 256) = Z := e1
    rw [e1, e2]
    simp only [Bool.true_and, decide_eq_true_eq]
    split <;> split <;> omega
  · change -32768 ≤ x at x0; change x ≤ 32767 at x1; change -32768 ≤ y at y0; change y ≤ 32767 at y1
    show -32768 ≤ binI .and .i64 x y ∧ binI .and .i64 x y ≤ 32767 ∧ 0 ≤ binI .and .u64 (x % 65536) (y % 65536) ∧ binI .and .u64 (x % 65536) (y % 65536) ≤ 65535 ∧ (if (true && decide (binI .and .u64 (x % 65536) (y % 65536) > 32767)) = true then binI .and .u64 (x % 65536) (y % 65536) - 65536 else binI .and .u64 (x % 65536) (y % 65536)) = binI .and .i64 x y
    obtain ⟨Z, z0, z1, e1, e2⟩ := bit_s_and 16 (by decide) (by decide) (x := x) (y := y) (toInt_16 x0 x1) (toInt_16 y0 y1)
    have e1 : binI .and .u64 (x % 65536) (y % 65536) = Z := e1
    rw [e1, e2]
    simp only [Bool.true_and, decide_eq_true_eq]
    split <;> split <;> omega
  · change -2147483648 ≤ x at x0; change x ≤ 2147483647 at x1; change -2147483648 ≤ y at y0; change y ≤ 2147483647 at y1
    show -2147483648 ≤ binI .and .i64 x y ∧ binI .and .i64 x y ≤ 2147483647 ∧ 0 ≤ binI .and .u64 (x % 4294967296) (y % 4294967296) ∧ binI .and .u64 (x % 4294967296) (y % 4294967296) ≤ 4294967295 ∧ (if (true && decide (binI .and .u64 (x % 4294967296) (y % 4294967296) > 2147483647)) = true then binI .and .u64 (x % 4294967296) (y % 4294967296) - 4294967296 else binI .and .u64 (x % 4294967296) (y % 4294967296)) = binI .and .i64 x y
    obtain ⟨Z, z0, z1, e1, e2⟩ := bit_s_and 32 (by decide) (by decide) (x := x) (y := y) (toInt_32 x0 x1) (toInt_32 y0 y1)
    have e1 : binI .and .u64 (x % 4294967296) (y % 4294967296) = Z := e1
    rw [e1, e2]
    simp only [Bool.true_and, decide_eq_true_eq]
    split <;> split <;> omega
/-- What the program's operation on two numbers of a kind is. -/
theorem bit_or {s : Int × Bool × Int × Int × Int} (hs : s ∈ bitK) {x y : Int} (x0 : s.2.2.1 ≤ x) (x1 : x ≤ s.2.2.2.1) (y0 : s.2.2.1 ≤ y) (y1 : y ≤ s.2.2.2.1) :
    s.2.2.1 ≤ binI .or .i64 x y ∧ binI .or .i64 x y ≤ s.2.2.2.1 ∧ 0 ≤ binI .or .u64 (x % (s.2.2.2.2 + 1)) (y % (s.2.2.2.2 + 1)) ∧ binI .or .u64 (x % (s.2.2.2.2 + 1)) (y % (s.2.2.2.2 + 1)) ≤ s.2.2.2.2 ∧ numI s.2.1 s.2.2.2.1 s.2.2.2.2 (binI .or .u64 (x % (s.2.2.2.2 + 1)) (y % (s.2.2.2.2 + 1))) = binI .or .i64 x y := by
  simp only [bitK, List.mem_cons, List.not_mem_nil, or_false] at hs
  rcases hs with rfl | rfl | rfl | rfl | rfl | rfl | rfl
  · change 0 ≤ x at x0; change x ≤ 1 at x1; change 0 ≤ y at y0; change y ≤ 1 at y1
    show 0 ≤ binI .or .i64 x y ∧ binI .or .i64 x y ≤ 1 ∧ 0 ≤ binI .or .u64 (x % 2) (y % 2) ∧ binI .or .u64 (x % 2) (y % 2) ≤ 1 ∧ (if (false && decide (binI .or .u64 (x % 2) (y % 2) > 1)) = true then binI .or .u64 (x % 2) (y % 2) - 2 else binI .or .u64 (x % 2) (y % 2)) = binI .or .i64 x y
    have ex : x % 2 = x := by omega
    have ey : y % 2 = y := by omega
    obtain ⟨Z, z0, z1, e1, e2⟩ := bit_u_or 1 (by decide) (x := x) (y := y) (by omega) (by omega) (by omega) (by omega)
    rw [ex, ey, e1, e2]
    simp only [Bool.false_and, Bool.false_eq_true, if_false]
    exact ⟨by omega, by omega, by omega, by omega, trivial⟩
  · change 0 ≤ x at x0; change x ≤ 255 at x1; change 0 ≤ y at y0; change y ≤ 255 at y1
    show 0 ≤ binI .or .i64 x y ∧ binI .or .i64 x y ≤ 255 ∧ 0 ≤ binI .or .u64 (x % 256) (y % 256) ∧ binI .or .u64 (x % 256) (y % 256) ≤ 255 ∧ (if (false && decide (binI .or .u64 (x % 256) (y % 256) > 255)) = true then binI .or .u64 (x % 256) (y % 256) - 256 else binI .or .u64 (x % 256) (y % 256)) = binI .or .i64 x y
    have ex : x % 256 = x := by omega
    have ey : y % 256 = y := by omega
    obtain ⟨Z, z0, z1, e1, e2⟩ := bit_u_or 8 (by decide) (x := x) (y := y) (by omega) (by omega) (by omega) (by omega)
    rw [ex, ey, e1, e2]
    simp only [Bool.false_and, Bool.false_eq_true, if_false]
    exact ⟨by omega, by omega, by omega, by omega, trivial⟩
  · change 0 ≤ x at x0; change x ≤ 65535 at x1; change 0 ≤ y at y0; change y ≤ 65535 at y1
    show 0 ≤ binI .or .i64 x y ∧ binI .or .i64 x y ≤ 65535 ∧ 0 ≤ binI .or .u64 (x % 65536) (y % 65536) ∧ binI .or .u64 (x % 65536) (y % 65536) ≤ 65535 ∧ (if (false && decide (binI .or .u64 (x % 65536) (y % 65536) > 65535)) = true then binI .or .u64 (x % 65536) (y % 65536) - 65536 else binI .or .u64 (x % 65536) (y % 65536)) = binI .or .i64 x y
    have ex : x % 65536 = x := by omega
    have ey : y % 65536 = y := by omega
    obtain ⟨Z, z0, z1, e1, e2⟩ := bit_u_or 16 (by decide) (x := x) (y := y) (by omega) (by omega) (by omega) (by omega)
    rw [ex, ey, e1, e2]
    simp only [Bool.false_and, Bool.false_eq_true, if_false]
    exact ⟨by omega, by omega, by omega, by omega, trivial⟩
  · change 0 ≤ x at x0; change x ≤ 4294967295 at x1; change 0 ≤ y at y0; change y ≤ 4294967295 at y1
    show 0 ≤ binI .or .i64 x y ∧ binI .or .i64 x y ≤ 4294967295 ∧ 0 ≤ binI .or .u64 (x % 4294967296) (y % 4294967296) ∧ binI .or .u64 (x % 4294967296) (y % 4294967296) ≤ 4294967295 ∧ (if (false && decide (binI .or .u64 (x % 4294967296) (y % 4294967296) > 4294967295)) = true then binI .or .u64 (x % 4294967296) (y % 4294967296) - 4294967296 else binI .or .u64 (x % 4294967296) (y % 4294967296)) = binI .or .i64 x y
    have ex : x % 4294967296 = x := by omega
    have ey : y % 4294967296 = y := by omega
    obtain ⟨Z, z0, z1, e1, e2⟩ := bit_u_or 32 (by decide) (x := x) (y := y) (by omega) (by omega) (by omega) (by omega)
    rw [ex, ey, e1, e2]
    simp only [Bool.false_and, Bool.false_eq_true, if_false]
    exact ⟨by omega, by omega, by omega, by omega, trivial⟩
  · change -128 ≤ x at x0; change x ≤ 127 at x1; change -128 ≤ y at y0; change y ≤ 127 at y1
    show -128 ≤ binI .or .i64 x y ∧ binI .or .i64 x y ≤ 127 ∧ 0 ≤ binI .or .u64 (x % 256) (y % 256) ∧ binI .or .u64 (x % 256) (y % 256) ≤ 255 ∧ (if (true && decide (binI .or .u64 (x % 256) (y % 256) > 127)) = true then binI .or .u64 (x % 256) (y % 256) - 256 else binI .or .u64 (x % 256) (y % 256)) = binI .or .i64 x y
    obtain ⟨Z, z0, z1, e1, e2⟩ := bit_s_or 8 (by decide) (by decide) (x := x) (y := y) (toInt_8 x0 x1) (toInt_8 y0 y1)
    have e1 : binI .or .u64 (x % 256) (y % 256) = Z := e1
    rw [e1, e2]
    simp only [Bool.true_and, decide_eq_true_eq]
    split <;> split <;> omega
  · change -32768 ≤ x at x0; change x ≤ 32767 at x1; change -32768 ≤ y at y0; change y ≤ 32767 at y1
    show -32768 ≤ binI .or .i64 x y ∧ binI .or .i64 x y ≤ 32767 ∧ 0 ≤ binI .or .u64 (x % 65536) (y % 65536) ∧ binI .or .u64 (x % 65536) (y % 65536) ≤ 65535 ∧ (if (true && decide (binI .or .u64 (x % 65536) (y % 65536) > 32767)) = true then binI .or .u64 (x % 65536) (y % 65536) - 65536 else binI .or .u64 (x % 65536) (y % 65536)) = binI .or .i64 x y
    obtain ⟨Z, z0, z1, e1, e2⟩ := bit_s_or 16 (by decide) (by decide) (x := x) (y := y) (toInt_16 x0 x1) (toInt_16 y0 y1)
    have e1 : binI .or .u64 (x % 65536) (y % 65536) = Z := e1
    rw [e1, e2]
    simp only [Bool.true_and, decide_eq_true_eq]
    split <;> split <;> omega
  · change -2147483648 ≤ x at x0; change x ≤ 2147483647 at x1; change -2147483648 ≤ y at y0; change y ≤ 2147483647 at y1
    show -2147483648 ≤ binI .or .i64 x y ∧ binI .or .i64 x y ≤ 2147483647 ∧ 0 ≤ binI .or .u64 (x % 4294967296) (y % 4294967296) ∧ binI .or .u64 (x % 4294967296) (y % 4294967296) ≤ 4294967295 ∧ (if (true && decide (binI .or .u64 (x % 4294967296) (y % 4294967296) > 2147483647)) = true then binI .or .u64 (x % 4294967296) (y % 4294967296) - 4294967296 else binI .or .u64 (x % 4294967296) (y % 4294967296)) = binI .or .i64 x y
    obtain ⟨Z, z0, z1, e1, e2⟩ := bit_s_or 32 (by decide) (by decide) (x := x) (y := y) (toInt_32 x0 x1) (toInt_32 y0 y1)
    have e1 : binI .or .u64 (x % 4294967296) (y % 4294967296) = Z := e1
    rw [e1, e2]
    simp only [Bool.true_and, decide_eq_true_eq]
    split <;> split <;> omega
/-- What the program's operation on two numbers of a kind is. -/
theorem bit_xor {s : Int × Bool × Int × Int × Int} (hs : s ∈ bitK) {x y : Int} (x0 : s.2.2.1 ≤ x) (x1 : x ≤ s.2.2.2.1) (y0 : s.2.2.1 ≤ y) (y1 : y ≤ s.2.2.2.1) :
    s.2.2.1 ≤ binI .xor .i64 x y ∧ binI .xor .i64 x y ≤ s.2.2.2.1 ∧ 0 ≤ binI .xor .u64 (x % (s.2.2.2.2 + 1)) (y % (s.2.2.2.2 + 1)) ∧ binI .xor .u64 (x % (s.2.2.2.2 + 1)) (y % (s.2.2.2.2 + 1)) ≤ s.2.2.2.2 ∧ numI s.2.1 s.2.2.2.1 s.2.2.2.2 (binI .xor .u64 (x % (s.2.2.2.2 + 1)) (y % (s.2.2.2.2 + 1))) = binI .xor .i64 x y := by
  simp only [bitK, List.mem_cons, List.not_mem_nil, or_false] at hs
  rcases hs with rfl | rfl | rfl | rfl | rfl | rfl | rfl
  · change 0 ≤ x at x0; change x ≤ 1 at x1; change 0 ≤ y at y0; change y ≤ 1 at y1
    show 0 ≤ binI .xor .i64 x y ∧ binI .xor .i64 x y ≤ 1 ∧ 0 ≤ binI .xor .u64 (x % 2) (y % 2) ∧ binI .xor .u64 (x % 2) (y % 2) ≤ 1 ∧ (if (false && decide (binI .xor .u64 (x % 2) (y % 2) > 1)) = true then binI .xor .u64 (x % 2) (y % 2) - 2 else binI .xor .u64 (x % 2) (y % 2)) = binI .xor .i64 x y
    have ex : x % 2 = x := by omega
    have ey : y % 2 = y := by omega
    obtain ⟨Z, z0, z1, e1, e2⟩ := bit_u_xor 1 (by decide) (x := x) (y := y) (by omega) (by omega) (by omega) (by omega)
    rw [ex, ey, e1, e2]
    simp only [Bool.false_and, Bool.false_eq_true, if_false]
    exact ⟨by omega, by omega, by omega, by omega, trivial⟩
  · change 0 ≤ x at x0; change x ≤ 255 at x1; change 0 ≤ y at y0; change y ≤ 255 at y1
    show 0 ≤ binI .xor .i64 x y ∧ binI .xor .i64 x y ≤ 255 ∧ 0 ≤ binI .xor .u64 (x % 256) (y % 256) ∧ binI .xor .u64 (x % 256) (y % 256) ≤ 255 ∧ (if (false && decide (binI .xor .u64 (x % 256) (y % 256) > 255)) = true then binI .xor .u64 (x % 256) (y % 256) - 256 else binI .xor .u64 (x % 256) (y % 256)) = binI .xor .i64 x y
    have ex : x % 256 = x := by omega
    have ey : y % 256 = y := by omega
    obtain ⟨Z, z0, z1, e1, e2⟩ := bit_u_xor 8 (by decide) (x := x) (y := y) (by omega) (by omega) (by omega) (by omega)
    rw [ex, ey, e1, e2]
    simp only [Bool.false_and, Bool.false_eq_true, if_false]
    exact ⟨by omega, by omega, by omega, by omega, trivial⟩
  · change 0 ≤ x at x0; change x ≤ 65535 at x1; change 0 ≤ y at y0; change y ≤ 65535 at y1
    show 0 ≤ binI .xor .i64 x y ∧ binI .xor .i64 x y ≤ 65535 ∧ 0 ≤ binI .xor .u64 (x % 65536) (y % 65536) ∧ binI .xor .u64 (x % 65536) (y % 65536) ≤ 65535 ∧ (if (false && decide (binI .xor .u64 (x % 65536) (y % 65536) > 65535)) = true then binI .xor .u64 (x % 65536) (y % 65536) - 65536 else binI .xor .u64 (x % 65536) (y % 65536)) = binI .xor .i64 x y
    have ex : x % 65536 = x := by omega
    have ey : y % 65536 = y := by omega
    obtain ⟨Z, z0, z1, e1, e2⟩ := bit_u_xor 16 (by decide) (x := x) (y := y) (by omega) (by omega) (by omega) (by omega)
    rw [ex, ey, e1, e2]
    simp only [Bool.false_and, Bool.false_eq_true, if_false]
    exact ⟨by omega, by omega, by omega, by omega, trivial⟩
  · change 0 ≤ x at x0; change x ≤ 4294967295 at x1; change 0 ≤ y at y0; change y ≤ 4294967295 at y1
    show 0 ≤ binI .xor .i64 x y ∧ binI .xor .i64 x y ≤ 4294967295 ∧ 0 ≤ binI .xor .u64 (x % 4294967296) (y % 4294967296) ∧ binI .xor .u64 (x % 4294967296) (y % 4294967296) ≤ 4294967295 ∧ (if (false && decide (binI .xor .u64 (x % 4294967296) (y % 4294967296) > 4294967295)) = true then binI .xor .u64 (x % 4294967296) (y % 4294967296) - 4294967296 else binI .xor .u64 (x % 4294967296) (y % 4294967296)) = binI .xor .i64 x y
    have ex : x % 4294967296 = x := by omega
    have ey : y % 4294967296 = y := by omega
    obtain ⟨Z, z0, z1, e1, e2⟩ := bit_u_xor 32 (by decide) (x := x) (y := y) (by omega) (by omega) (by omega) (by omega)
    rw [ex, ey, e1, e2]
    simp only [Bool.false_and, Bool.false_eq_true, if_false]
    exact ⟨by omega, by omega, by omega, by omega, trivial⟩
  · change -128 ≤ x at x0; change x ≤ 127 at x1; change -128 ≤ y at y0; change y ≤ 127 at y1
    show -128 ≤ binI .xor .i64 x y ∧ binI .xor .i64 x y ≤ 127 ∧ 0 ≤ binI .xor .u64 (x % 256) (y % 256) ∧ binI .xor .u64 (x % 256) (y % 256) ≤ 255 ∧ (if (true && decide (binI .xor .u64 (x % 256) (y % 256) > 127)) = true then binI .xor .u64 (x % 256) (y % 256) - 256 else binI .xor .u64 (x % 256) (y % 256)) = binI .xor .i64 x y
    obtain ⟨Z, z0, z1, e1, e2⟩ := bit_s_xor 8 (by decide) (by decide) (x := x) (y := y) (toInt_8 x0 x1) (toInt_8 y0 y1)
    have e1 : binI .xor .u64 (x % 256) (y % 256) = Z := e1
    rw [e1, e2]
    simp only [Bool.true_and, decide_eq_true_eq]
    split <;> split <;> omega
  · change -32768 ≤ x at x0; change x ≤ 32767 at x1; change -32768 ≤ y at y0; change y ≤ 32767 at y1
    show -32768 ≤ binI .xor .i64 x y ∧ binI .xor .i64 x y ≤ 32767 ∧ 0 ≤ binI .xor .u64 (x % 65536) (y % 65536) ∧ binI .xor .u64 (x % 65536) (y % 65536) ≤ 65535 ∧ (if (true && decide (binI .xor .u64 (x % 65536) (y % 65536) > 32767)) = true then binI .xor .u64 (x % 65536) (y % 65536) - 65536 else binI .xor .u64 (x % 65536) (y % 65536)) = binI .xor .i64 x y
    obtain ⟨Z, z0, z1, e1, e2⟩ := bit_s_xor 16 (by decide) (by decide) (x := x) (y := y) (toInt_16 x0 x1) (toInt_16 y0 y1)
    have e1 : binI .xor .u64 (x % 65536) (y % 65536) = Z := e1
    rw [e1, e2]
    simp only [Bool.true_and, decide_eq_true_eq]
    split <;> split <;> omega
  · change -2147483648 ≤ x at x0; change x ≤ 2147483647 at x1; change -2147483648 ≤ y at y0; change y ≤ 2147483647 at y1
    show -2147483648 ≤ binI .xor .i64 x y ∧ binI .xor .i64 x y ≤ 2147483647 ∧ 0 ≤ binI .xor .u64 (x % 4294967296) (y % 4294967296) ∧ binI .xor .u64 (x % 4294967296) (y % 4294967296) ≤ 4294967295 ∧ (if (true && decide (binI .xor .u64 (x % 4294967296) (y % 4294967296) > 2147483647)) = true then binI .xor .u64 (x % 4294967296) (y % 4294967296) - 4294967296 else binI .xor .u64 (x % 4294967296) (y % 4294967296)) = binI .xor .i64 x y
    obtain ⟨Z, z0, z1, e1, e2⟩ := bit_s_xor 32 (by decide) (by decide) (x := x) (y := y) (toInt_32 x0 x1) (toInt_32 y0 y1)
    have e1 : binI .xor .u64 (x % 4294967296) (y % 4294967296) = Z := e1
    rw [e1, e2]
    simp only [Bool.true_and, decide_eq_true_eq]
    split <;> split <;> omega
end
end Go.Proofs.YtgecchiocfkpkaaGreatDoor
