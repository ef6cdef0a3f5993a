import Derived.Test.YtgecchiocfkpkaaGreatDoorLJ
namespace Go.Proofs.YtgecchiocfkpkaaGreatDoor
noncomputable section
open Go Go.RX
open Go.RowKit (Below)
set_option maxRecDepth 1000000
set_option maxHeartbeats 4000000
theorem two_le {y : Int} (h0 : 0 ≤ y) (h1 : y < 32) : (1 : Int) ≤ 2 ^ y.toNat ∧ (2 : Int) ^ y.toNat ≤ 2147483648 := by
  have h : (2 : Nat) ^ y.toNat ≤ 2 ^ 31 := Nat.pow_le_pow_right (by decide) (by omega)
  have h2 : (1 : Nat) ≤ 2 ^ y.toNat := Nat.one_le_two_pow
  have e : ((2 ^ y.toNat : Nat) : Int) = (2 : Int) ^ y.toNat := by norm_cast
  omega
theorem ev_shl {x y : Int} (h0 : 0 ≤ y) (h1 : y < 32) (g0 : -4294967296 ≤ x) (g1 : x < 4294967296) : shI .shl .i64 x y = x * 2 ^ y.toNat := by
  have h := two_le h0 h1
  show IntKind.wrap .i64 (x * 2 ^ min y.toNat 64) = _
  rw [show min y.toNat 64 = y.toNat by omega]
  have hm : -9223372036854775808 ≤ x * 2 ^ y.toNat ∧ x * 2 ^ y.toNat < 9223372036854775808 := by
    generalize (2 : Int) ^ y.toNat = p at h
    constructor
    · have h3 := Int.mul_le_mul_of_nonneg_right g0 (show 0 ≤ p by omega)
      have h4 := Int.mul_le_mul_of_nonneg_left h.2 (show (0 : Int) ≤ 4294967296 by decide)
      omega
    · rcases Int.lt_or_le x 0 with hx | hx
      · have h3 := Int.mul_nonpos_of_nonpos_of_nonneg (Int.le_of_lt hx) (show 0 ≤ p by omega)
        omega
      · have h3 := Int.mul_le_mul_of_nonneg_right (show x ≤ 4294967295 by omega) (show 0 ≤ p by omega)
        omega
  exact w64 hm.1 hm.2
theorem ev_shr {x y : Int} (h0 : 0 ≤ y) (h1 : y < 32) : shI .shr .i64 x y = x / 2 ^ y.toNat := by
  show x.fdiv (2 ^ min y.toNat 64) = _
  rw [show min y.toNat 64 = y.toNat by omega, fdiv_pow]
theorem ev_one {y : Int} (h0 : 0 ≤ y) (h1 : y < 32) : shI .shl .i64 1 y = 2 ^ y.toNat := by
  rw [ev_shl h0 h1 (by decide) (by decide), Int.one_mul]
end
end Go.Proofs.YtgecchiocfkpkaaGreatDoor

namespace Go.Proofs.YtgecchiocfkpkaaGreatDoor
noncomputable section
open Go Go.RX
open Go.RowKit (Below)
set_option maxRecDepth 1000000
set_option maxHeartbeats 4000000
def X_8 : List SEntry := [(119, [.sym (.int .i64 (.var 0)), .sym (.int .i64 (.var 2))], sy 11), (119, [.sym (.int .i64 (.var 0)), .sym (.int .i64 (.var 3))], sy 12), (119, [.sym (.int .i64 (.var 1)), .sym (.int .i64 (.var 2))], sy 13), (119, [.sym (.int .i64 (.var 1)), .sym (.int .i64 (.var 3))], sy 14), (60, [.sym (.int .i64 (.var 0)), .sym (.int .i64 (.var 2))], sy 15), (60, [.sym (.int .i64 (.var 0)), .sym (.int .i64 (.var 3))], sy 16), (60, [.sym (.int .i64 (.var 1)), .sym (.int .i64 (.var 2))], sy 17), (60, [.sym (.int .i64 (.var 1)), .sym (.int .i64 (.var 3))], sy 18)]
def L_8 : List CF := []
def p1_8 : IE := .tri 3 (.tri 3 (.tri 3 (.var 11) (.var 12) (.lit 0)) (.var 13) (.lit 0)) (.var 14) (.lit 0)
def p2_8 : IE := .tri 2 (.tri 2 (.tri 2 (.var 11) (.var 12) (.lit 0)) (.var 13) (.lit 0)) (.var 14) (.lit 0)
def t1_8 : IE := .tri 3 (.tri 3 (.tri 3 (.tri 3 (.var 15) (.var 15) (.lit 0)) (.var 16) (.lit 0)) (.var 17) (.lit 0)) (.var 18) (.lit 0)
def t2_8 : IE := .tri 2 (.tri 2 (.tri 2 (.tri 2 (.var 15) (.var 15) (.lit 0)) (.var 16) (.lit 0)) (.var 17) (.lit 0)) (.var 18) (.lit 0)
theorem run_8 (ρ : Nat → Int) (aR aS : Addr) (b1 b2 c1 c2 : Bool) (h : (b1 && b2) = (c1 && c2)) : runE ρ aR aS (L_fit p1_8 p2_8 t1_8 t2_8 b1 b2 c1 c2 ++ L_8) (U_op 8 ++ X_8) [(24, xP 8, r_fit p1_8 p2_8 (b1 && b2)), (8, xP 8, r_fit t1_8 t2_8 (c1 && c2))] := by
  unfold runE
  cases b1 <;> cases b2 <;> cases c1 <;> cases c2 <;> first | (exact absurd h (by decide)) | kernel_rfl
theorem apd_8 (aR aS : Addr) {al ah bl bh lo hi wd k rk rl rh wd2 : Int} (hR : ResV aR aS 8 k rk 0) (hK : KdV aR aS k lo hi wd) (hR2 : KdV aR aS rk rl rh wd2) (b0 : -2147483648 ≤ lo) (b1 : hi ≤ 4294967295) (b2 : lo = 0 ∨ (lo = -hi - 1 ∧ hi ≤ 2147483647)) (_ : wd ≤ 32) (a0 : lo ≤ al) (a1 : al ≤ ah) (a2 : ah ≤ hi) (c0 : lo ≤ bl) (c1 : bl ≤ bh) (c2 : bh ≤ hi) (er : rl = lo) (eh : rh = hi) : ∃ sl sh, ApD aR aS 8 k al ah bl bh sl sh := by
  refine apd_fit (m := mL [(prI al bl), (prI al bh), (prI ah bl), (prI ah bh), (tiI al bl), (tiI al bh), (tiI ah bl), (tiI ah bh)]) (Lx := L_8) (X := X_8) hR hK hR2 (fun f hf => ?_) (fun L u hu => ?_) (run_8 _ aR aS) (by show (triI 3 (triI 3 (triI 3 (prI al bl) (prI al bh) 0) (prI ah bl) 0) (prI ah bh) 0) = (min (min (min (prI al bl) (prI al bh)) (prI ah bl)) (prI ah bh)); simp only [tri_3]) (by show (triI 2 (triI 2 (triI 2 (prI al bl) (prI al bh) 0) (prI ah bl) 0) (prI ah bh) 0) = (max (max (max (prI al bl) (prI al bh)) (prI ah bl)) (prI ah bh)); simp only [tri_2]) (by show (triI 3 (triI 3 (triI 3 (triI 3 (tiI al bl) (tiI al bl) 0) (tiI al bh) 0) (tiI ah bl) 0) (tiI ah bh) 0) = (min (min (min (tiI al bl) (tiI al bh)) (tiI ah bl)) (tiI ah bh)); simp only [tri_3, Int.min_self]) (by show (triI 2 (triI 2 (triI 2 (triI 2 (tiI al bl) (tiI al bl) 0) (tiI al bh) 0) (tiI ah bl) 0) (tiI ah bh) 0) = (max (max (max (tiI al bl) (tiI al bh)) (tiI ah bl)) (tiI ah bh)); simp only [tri_2, Int.max_self]) ?_ ?_
  · exact absurd hf (List.not_mem_nil)
  · simp only [X_8, List.mem_cons, List.not_mem_nil, or_false] at hu
    rcases hu with rfl | rfl | rfl | rfl | rfl | rfl | rfl | rfl
    · exact tell2 (z := (prI al bl)) (po_ok aR aS (x := al) (y := bl) (by omega) (by omega) (by omega) (by omega) (by omega)) rfl rfl 11 rfl
    · exact tell2 (z := (prI al bh)) (po_ok aR aS (x := al) (y := bh) (by omega) (by omega) (by omega) (by omega) (by omega)) rfl rfl 12 rfl
    · exact tell2 (z := (prI ah bl)) (po_ok aR aS (x := ah) (y := bl) (by omega) (by omega) (by omega) (by omega) (by omega)) rfl rfl 13 rfl
    · exact tell2 (z := (prI ah bh)) (po_ok aR aS (x := ah) (y := bh) (by omega) (by omega) (by omega) (by omega) (by omega)) rfl rfl 14 rfl
    · exact tell2 (z := (tiI al bl)) (ti_ok aR aS (x := al) (y := bl) (by omega) (by omega) (by omega) (by omega)) rfl rfl 15 rfl
    · exact tell2 (z := (tiI al bh)) (ti_ok aR aS (x := al) (y := bh) (by omega) (by omega) (by omega) (by omega)) rfl rfl 16 rfl
    · exact tell2 (z := (tiI ah bl)) (ti_ok aR aS (x := ah) (y := bl) (by omega) (by omega) (by omega) (by omega)) rfl rfl 17 rfl
    · exact tell2 (z := (tiI ah bh)) (ti_ok aR aS (x := ah) (y := bh) (by omega) (by omega) (by omega) (by omega)) rfl rfl 18 rfl
  · exact (fit4 (rl := rl) (rh := rh) (fit_mul (by omega) (by omega) al bl rfl) (fit_mul (by omega) (by omega) al bh rfl) (fit_mul (by omega) (by omega) ah bl rfl) (fit_mul (by omega) (by omega) ah bh rfl)).1
  · exact (fit4 (rl := rl) (rh := rh) (fit_mul (by omega) (by omega) al bl rfl) (fit_mul (by omega) (by omega) al bh rfl) (fit_mul (by omega) (by omega) ah bl rfl) (fit_mul (by omega) (by omega) ah bh rfl)).2
end
end Go.Proofs.YtgecchiocfkpkaaGreatDoor
