import Derived.Test.YtonkcpmefnddaaaGreatDoorRXK
import Derived.Test.YtonkcpmefnddaaaGreatDoorRXA
namespace Go.RX
noncomputable section
open Ieee

/-! ### Sums, products and quotients of finite floats are no NaN; the least and the greatest of two -/
theorem word_num (s : Bool) {r : Nat} (h : r ≤ 2139095040) : Num (single.word s r) := by
  unfold Num Format.word
  rw [sgl_sign]
  split <;> omega
theorem near_num (neg : Bool) (mag : Nat) (place : Int) : Num (single.nearest neg mag place) := by
  unfold Format.nearest
  split
  · exact word_num _ (by omega)
  · refine word_num _ ?_
    rw [sgl_inf]
    omega

/-- A finite word. -/
def Fin32 (a : Nat) : Prop := a < 4294967296 ∧ a % 2147483648 < 2139095040

theorem ar_num {op : BinOp} {a b : Nat} (ha : Fin32 a) (hb : Fin32 b) (h : op = .add ∨ op = .sub ∨ op = .mul ∨ (op = .quo ∧ b % 2147483648 ≠ 0)) : ∃ c, arF op a b = some c ∧ Num c := by
  rcases h with rfl | rfl | rfl | ⟨rfl, hz⟩
  · unfold arF Format.add
    rw [read_word ha.1 ha.2, read_word hb.1 hb.2]
    exact ⟨_, rfl, near_num _ _ _⟩
  · unfold arF Format.sub
    rw [read_word ha.1 ha.2, read_word hb.1 hb.2]
    exact ⟨_, rfl, near_num _ _ _⟩
  · unfold arF Format.mul
    rw [read_word ha.1 ha.2, read_word hb.1 hb.2]
    exact ⟨_, rfl, near_num _ _ _⟩
  · unfold arF Format.div
    rw [read_word ha.1 ha.2, read_word hb.1 hb.2]
    have hm := (magB_ok hb.2 hz).1
    simp only [Datum.quotient, if_neg hm]
    exact ⟨_, rfl, near_num _ _ _⟩

/-- A key of the calls of the builtin min, max. -/
def kMin : Op → Bool
  | .call c => match c.callee with
    | .builtin .min => true
    | _ => false
  | _ => false
def kMax : Op → Bool
  | .call c => match c.callee with
    | .builtin .max => true
    | _ => false
  | _ => false

theorem decode_neg {a : Nat} (ha : Fin32 a) : (FloatKind.decode .f32 a).neg = decide (2147483648 ≤ a) := by
  show (single.read a).neg = _
  rw [read_word ha.1 ha.2]
  rfl

theorem key_inj {a b : Nat} (ha : Fin32 a) (hb : Fin32 b) (h : keyB a = keyB b) (za : a ≠ 2147483648) (zb : b ≠ 2147483648) : a = b := by
  obtain ⟨a1, a2⟩ := ha
  obtain ⟨b1, b2⟩ := hb
  unfold keyB at h
  split at h <;> split at h <;> omega

section
variable {P : Program} {nmv : Nat → Value} {hnm : ∀ i, Flat (nmv i)} {ρ : Nat → Int}

theorem key_call {op : Op} (h : kMin op = true ∨ kMax op = true) : ∃ c b, op = .call c ∧ c.callee = .builtin b ∧ ((kMin op = true ∧ b = .min) ∨ (kMax op = true ∧ b = .max)) := by
  cases op with
  | call c =>
    refine ⟨c, ?_⟩
    rcases h with h | h
    · have h' := h
      simp only [kMin] at h'
      split at h'
      · rename_i hb
        exact ⟨_, rfl, hb, .inl ⟨h, rfl⟩⟩
      · cases h'
    · have h' := h
      simp only [kMax] at h'
      split at h'
      · rename_i hb
        exact ⟨_, rfl, hb, .inr ⟨h, rfl⟩⟩
      · cases h'
  | _ => rcases h with h | h <;> simp [kMin, kMax] at h

theorem two_args {x y : SVal} {a b : Nat} {c : Call} {bi : Builtin} (hc : c.callee = .builtin bi) (hx : Word nmv x a) (hy : Word nmv y b) {r : Ren} {f : Operand → Value} (hd : @denL (env0 P nmv hnm ρ) r [x, y] = some ((Op.call c).operands.toList.map f)) : c.args.map f = #[.float .f32 a, .float .f32 b] := by
  rw [args_of hc] at hd
  obtain ⟨u, l, e1, e2, e3⟩ := (@denL_cons (env0 P nmv hnm ρ) _ _ _ _).1 hd
  obtain ⟨u', l', e4, e5, e6⟩ := (@denL_cons (env0 P nmv hnm ρ) _ _ _ _).1 e2
  simp only [denL, Option.some.injEq] at e5
  subst e5
  subst e6
  rw [word_den hx] at e1
  rw [word_den hy] at e4
  cases e1
  cases e4
  exact Array.toList_inj.1 e3

theorem xok_min {x y z : SVal} {a b : Nat} (ha : Fin32 a) (hb : Fin32 b) (za : a ≠ 2147483648) (zb : b ≠ 2147483648) (hx : Word nmv x a) (hy : Word nmv y b) (hz : Word nmv z (if keyB b < keyB a then b else a)) : XOk P nmv hnm ρ (kMin, [x, y], z) := by
  intro op hk r f o w ho hd
  obtain ⟨c, bi, rfl, hc, hb'⟩ := key_call (.inl hk)
  have hbi : bi = .min := by
    rcases hb' with ⟨_, h⟩ | ⟨h, rfl⟩
    · exact h
    · obtain ⟨callee, args, tys⟩ := c
      simp only at hc
      subst hc
      simp [kMin] at hk
  subst hbi
  refine ⟨_, run_builtin .min ho hc (fun _ _ _ => ?_), word_den hz r⟩
  rw [two_args hc hx hy hd]
  have ho : FloatKind.f32.format.order a b = some (compare (keyB a) (keyB b)) := order_key ha.1 hb.1 (Nat.le_of_lt ha.2) (Nat.le_of_lt hb.2)
  have key : (Builtin.min2 (.float .f32 a) (.float .f32 b)).run P w = .ok (.float .f32 (if keyB b < keyB a then b else a)) w := by
    unfold Builtin.min2
    simp only [ho, compare, compareOfLessAndEq]
    rcases Int.lt_trichotomy (keyB a) (keyB b) with h | h | h
    · have h2 : ¬ keyB b < keyB a := by omega
      simp only [if_pos h, if_neg h2]
      rfl
    · have e := key_inj ha hb h za zb
      subst e
      simp only [Int.lt_irrefl, if_false, if_true, ite_self]
      rfl
    · have h2 : ¬ keyB a < keyB b := by omega
      have h3 : ¬ keyB a = keyB b := by omega
      simp only [if_pos h, if_neg h2, if_neg h3]
      rfl
  refine run_bind_ok (a := Value.float .f32 (if keyB b < keyB a then b else a)) (w' := w) ?_
  show (List.foldlM Builtin.min2 (.float .f32 a) [.float .f32 b] : Sem Value).run P w = _
  rw [List.foldlM_cons, run_bind_ok key]
  rfl

theorem xok_max {x y z : SVal} {a b : Nat} (ha : Fin32 a) (hb : Fin32 b) (za : a ≠ 2147483648) (zb : b ≠ 2147483648) (hx : Word nmv x a) (hy : Word nmv y b) (hz : Word nmv z (if keyB a < keyB b then b else a)) : XOk P nmv hnm ρ (kMax, [x, y], z) := by
  intro op hk r f o w ho hd
  obtain ⟨c, bi, rfl, hc, hb'⟩ := key_call (.inr hk)
  have hbi : bi = .max := by
    rcases hb' with ⟨h, rfl⟩ | ⟨_, h⟩
    · obtain ⟨callee, args, tys⟩ := c
      simp only at hc
      subst hc
      simp [kMax] at hk
    · exact h
  subst hbi
  refine ⟨_, run_builtin .max ho hc (fun _ _ _ => ?_), word_den hz r⟩
  rw [two_args hc hx hy hd]
  have ho : FloatKind.f32.format.order a b = some (compare (keyB a) (keyB b)) := order_key ha.1 hb.1 (Nat.le_of_lt ha.2) (Nat.le_of_lt hb.2)
  have key : (Builtin.max2 (.float .f32 a) (.float .f32 b)).run P w = .ok (.float .f32 (if keyB a < keyB b then b else a)) w := by
    unfold Builtin.max2
    simp only [ho, compare, compareOfLessAndEq]
    rcases Int.lt_trichotomy (keyB a) (keyB b) with h | h | h
    · simp only [if_pos h]
      rfl
    · have e := key_inj ha hb h za zb
      subst e
      simp only [Int.lt_irrefl, if_false, if_true, ite_self]
      rfl
    · have h2 : ¬ keyB a < keyB b := by omega
      have h3 : ¬ keyB a = keyB b := by omega
      simp only [if_neg h2, if_neg h3]
      rfl
  refine run_bind_ok (a := Value.float .f32 (if keyB a < keyB b then b else a)) (w' := w) ?_
  show (List.foldlM Builtin.max2 (.float .f32 a) [.float .f32 b] : Sem Value).run P w = _
  rw [List.foldlM_cons, run_bind_ok key]
  rfl
end
end
end Go.RX

namespace Go.RX
noncomputable section

/-! ### Products, quotients, and bits of two symbols -/
theorem mulM {M : Int} (hM : M ∣ 18446744073709551616) {x y x' y' : Int} (h1 : x % M = x' % M) (h2 : y % M = y' % M) : (x * y) % 18446744073709551616 % M = (x' * y') % 18446744073709551616 % M := by
  rw [Int.emod_emod_of_dvd _ hM, Int.emod_emod_of_dvd _ hM, Int.mul_emod, h1, h2, ← Int.mul_emod]

/-- The quotient and the remainder of integers by those of their sizes. -/
theorem ediv_pm (a b : Int) : a / b = -(a / (-b)) ∧ a % b = a % (-b) := by
  constructor
  · rw [Int.ediv_neg, Int.neg_neg]
  · rw [Int.emod_neg]
theorem ediv_mp {a b : Int} (hb : 0 < b) : (a / b = if (-a) % b = 0 then -((-a) / b) else -((-a) / b + 1)) ∧ (a % b = if (-a) % b = 0 then 0 else b - (-a) % b) := by
  have h0 := Int.emod_nonneg (-a) (Int.ne_of_gt hb)
  have h1 := Int.emod_lt_of_pos (-a) hb
  have h2 := Int.mul_ediv_add_emod (-a) b
  by_cases hr : (-a) % b = 0
  · rw [if_pos hr, if_pos hr]
    refine (Int.ediv_emod_unique hb).2 ⟨?_, Int.le_refl 0, hb⟩
    rw [hr] at h2
    rw [Int.mul_neg]
    omega
  · rw [if_neg hr, if_neg hr]
    refine (Int.ediv_emod_unique hb).2 ⟨?_, by omega, by omega⟩
    rw [Int.mul_neg, Int.mul_add, Int.mul_one]
    omega

/-- Go's quotient by the same. -/
theorem tdiv_np {a b : Int} (ha : a < 0) : a.tdiv b = -((-a) / b) ∧ a.tmod b = -((-a) % b) := by
  constructor
  · rw [← Int.tdiv_eq_ediv_of_nonneg (by omega), Int.neg_tdiv, Int.neg_neg]
  · rw [← Int.tmod_eq_emod_of_nonneg (by omega), Int.neg_tmod, Int.neg_neg]
theorem tdiv_pp {a b : Int} (ha : 0 ≤ a) : a.tdiv b = a / b ∧ a.tmod b = a % b := ⟨Int.tdiv_eq_ediv_of_nonneg ha, Int.tmod_eq_emod_of_nonneg ha⟩

theorem u64_nat {n : Nat} (h : n < 18446744073709551616) : (BitVec.ofInt IntKind.u64.bits (n : Int)).toNat = n := by
  rw [ofInt_toNat IntKind.u64.bits _ (by omega) (by show (n : Int) < 2 ^ 64; omega)]
  simp
theorem and_nat {x y : Nat} (hx : x < 18446744073709551616) (hy : y < 18446744073709551616) : binI .and .u64 (x : Int) (y : Int) = ((x &&& y : Nat) : Int) := by
  show IntKind.wrap .u64 (((BitVec.ofInt IntKind.u64.bits (x : Int) &&& BitVec.ofInt IntKind.u64.bits (y : Int)).toNat : Nat) : Int) = _
  rw [BitVec.toNat_and, u64_nat hx, u64_nat hy, wrap_u64]
  have h : x &&& y ≤ x := Nat.and_le_left
  omega
theorem or_nat {x y : Nat} (hx : x < 18446744073709551616) (hy : y < 18446744073709551616) : binI .or .u64 (x : Int) (y : Int) = ((x ||| y : Nat) : Int) := by
  show IntKind.wrap .u64 (((BitVec.ofInt IntKind.u64.bits (x : Int) ||| BitVec.ofInt IntKind.u64.bits (y : Int)).toNat : Nat) : Int) = _
  rw [BitVec.toNat_or, u64_nat hx, u64_nat hy, wrap_u64]
  have h : x ||| y < 2 ^ 64 := Nat.or_lt_two_pow hx hy
  omega
theorem xor_nat {x y : Nat} (hx : x < 18446744073709551616) (hy : y < 18446744073709551616) : binI .xor .u64 (x : Int) (y : Int) = ((x ^^^ y : Nat) : Int) := by
  show IntKind.wrap .u64 (((BitVec.ofInt IntKind.u64.bits (x : Int) ^^^ BitVec.ofInt IntKind.u64.bits (y : Int)).toNat : Nat) : Int) = _
  rw [BitVec.toNat_xor, u64_nat hx, u64_nat hy, wrap_u64]
  have h : x ^^^ y < 2 ^ 64 := Nat.xor_lt_two_pow hx hy
  omega

/-- Bits of numbers that are alike below a power of 2. -/
theorem bitsM {op : BinOp} (hop : op = .and ∨ op = .or ∨ op = .xor) (w : Nat) {x y x' y' : Int} (x0 : 0 ≤ x) (x1 : x < 18446744073709551616) (y0 : 0 ≤ y) (y1 : y < 18446744073709551616) (x2 : 0 ≤ x') (x3 : x' < 18446744073709551616) (y2 : 0 ≤ y') (y3 : y' < 18446744073709551616)
    (h1 : x % ((2 ^ w : Nat) : Int) = x' % ((2 ^ w : Nat) : Int)) (h2 : y % ((2 ^ w : Nat) : Int) = y' % ((2 ^ w : Nat) : Int)) : binI op .u64 x y % ((2 ^ w : Nat) : Int) = binI op .u64 x' y' % ((2 ^ w : Nat) : Int) := by
  obtain ⟨a, rfl⟩ := Int.eq_ofNat_of_zero_le x0
  obtain ⟨b, rfl⟩ := Int.eq_ofNat_of_zero_le y0
  obtain ⟨c, rfl⟩ := Int.eq_ofNat_of_zero_le x2
  obtain ⟨d, rfl⟩ := Int.eq_ofNat_of_zero_le y2
  have e1 : a % 2 ^ w = c % 2 ^ w := by exact_mod_cast h1
  have e2 : b % 2 ^ w = d % 2 ^ w := by exact_mod_cast h2
  rcases hop with rfl | rfl | rfl
  · rw [and_nat (by omega) (by omega), and_nat (by omega) (by omega), ← Int.natCast_emod, ← Int.natCast_emod, Nat.and_mod_two_pow, Nat.and_mod_two_pow, e1, e2]
  · rw [or_nat (by omega) (by omega), or_nat (by omega) (by omega), ← Int.natCast_emod, ← Int.natCast_emod, Nat.or_mod_two_pow, Nat.or_mod_two_pow, e1, e2]
  · rw [xor_nat (by omega) (by omega), xor_nat (by omega) (by omega), ← Int.natCast_emod, ← Int.natCast_emod, Nat.xor_mod_two_pow, Nat.xor_mod_two_pow, e1, e2]

/-- A shift to the left by less than 64. -/
theorem shlM {M : Int} (hM : M ∣ 18446744073709551616) {x x' : Int} (h : x % M = x' % M) (n : Nat) : (x * 2 ^ n) % 18446744073709551616 % M = (x' * 2 ^ n) % M := by
  rw [Int.emod_emod_of_dvd _ hM, Int.mul_emod, h, ← Int.mul_emod]
end
end Go.RX

namespace Go.RX
noncomputable section

/-! ### A shift to the right of an integer of 128 bits -/
theorem or_pow {x y s : Nat} (hx : x < 2 ^ s) : x ||| y * 2 ^ s = x + y * 2 ^ s := by
  have h := Nat.shiftLeft_add_eq_or_of_lt hx y
  rw [Nat.shiftLeft_eq] at h
  rw [Nat.or_comm, ← h, Nat.add_comm]

theorem shr_lo (n : Int) (s : Nat) (hs : s ≤ 63) : binI .or .u64 (n % 18446744073709551616 / 2 ^ s) (n / 18446744073709551616 % 18446744073709551616 * 2 ^ (64 - s) % 18446744073709551616) = n / 2 ^ s % 18446744073709551616 := by
  have hp : (0 : Int) < 2 ^ s := Int.pow_pos (by decide)
  have hq : (0 : Int) < 2 ^ (64 - s) := Int.pow_pos (by decide)
  have hpq : (2 : Int) ^ s * 2 ^ (64 - s) = 18446744073709551616 := by
    rw [← Int.pow_add, show s + (64 - s) = 64 by omega]
    rfl
  have hqn : ((2 ^ (64 - s) : Nat) : Int) = 2 ^ (64 - s) := by
    rw [Int.natCast_pow]
    rfl
  generalize hP : (2 : Int) ^ s = p at *
  generalize hQ : (2 : Int) ^ (64 - s) = q at *
  have hn : n = n / 18446744073709551616 * 18446744073709551616 + n % 18446744073709551616 := by omega
  have hL0 : 0 ≤ n % 18446744073709551616 := by omega
  have hL1 : n % 18446744073709551616 < p * q := by rw [hpq]; omega
  generalize n / 18446744073709551616 = A at *
  generalize n % 18446744073709551616 = L at *
  have e1 : n / p = L / p + A * q := by
    rw [hn, ← hpq, show A * (p * q) + L = L + A * q * p by rw [Int.mul_comm p q, ← Int.mul_assoc, Int.add_comm], Int.add_mul_ediv_right _ _ (Int.ne_of_gt hp)]
  have e3 : A % 18446744073709551616 % p = A % p := Int.emod_emod_of_dvd _ ⟨q, hpq.symm⟩
  have e2 : A % 18446744073709551616 * q % 18446744073709551616 = A % p * q := by
    rw [← e3]
    have := Int.mul_emod_mul_of_pos (A % 18446744073709551616) p hq
    rw [Int.mul_comm q p, hpq] at this
    rw [Int.mul_comm _ q, this, Int.mul_comm q]
  have x0 : 0 ≤ L / p := Int.ediv_nonneg hL0 (Int.le_of_lt hp)
  have x1 : L / p < q := Int.ediv_lt_of_lt_mul hp (by rw [Int.mul_comm]; exact hL1)
  have y0 : 0 ≤ A % p := Int.emod_nonneg _ (Int.ne_of_gt hp)
  have y1 : A % p < p := Int.emod_lt_of_pos _ hp
  have hsum : A % p * q + L / p < 18446744073709551616 := by
    have h1 : (A % p + 1) * q ≤ p * q := Int.mul_le_mul_of_nonneg_right (by omega) (Int.le_of_lt hq)
    rw [hpq, Int.add_mul, Int.one_mul] at h1
    omega
  have hyq : 0 ≤ A % p * q := Int.mul_nonneg y0 (Int.le_of_lt hq)
  rw [e2, e1]
  have e6 : (L / p + A * q) % 18446744073709551616 = L / p + A % p * q := by
    have h2 : A * q = A % p * q + A / p * 18446744073709551616 := by
      have := Int.emod_add_mul_ediv A p
      conv => lhs; rw [← this]
      rw [Int.add_mul, ← hpq, Int.mul_comm p (A / p), Int.mul_assoc]
    rw [h2, ← Int.add_assoc, Int.add_mul_emod_self_right]
    exact Int.emod_eq_of_lt (by omega) (by omega)
  rw [e6]
  obtain ⟨x, hx⟩ := Int.eq_ofNat_of_zero_le x0
  obtain ⟨y, hy⟩ := Int.eq_ofNat_of_zero_le y0
  rw [hx] at x1 hsum
  rw [hy] at hsum hyq
  rw [hx, hy, ← hqn] at *
  have hx' : x < 2 ^ (64 - s) := by omega
  have e5 : ((y : Nat) : Int) * ((2 ^ (64 - s) : Nat) : Int) = ((y * 2 ^ (64 - s) : Nat) : Int) := by rw [Int.natCast_mul]
  rw [e5] at hsum ⊢
  rw [or_nat (by omega) (by omega), or_pow hx']
  omega
end
end Go.RX
