import Derived.Test.YtgecchiocfkpkaaGreatDoorLL
namespace Go.Proofs.YtgecchiocfkpkaaGreatDoor
noncomputable section
open Go Go.RX
open Go.RowKit (Below)
set_option maxRecDepth 1000000
set_option maxHeartbeats 4000000
def X_16 : List SEntry := [(60, [.sym (.int .i64 (.var 0)), .sym (.int .i64 (.sh .shl .i64 (.lit 1) (.var 2)))], sy 11), (60, [.sym (.int .i64 (.var 0)), .sym (.int .i64 (.sh .shl .i64 (.lit 1) (.var 3)))], sy 12), (60, [.sym (.int .i64 (.var 1)), .sym (.int .i64 (.sh .shl .i64 (.lit 1) (.var 2)))], sy 13), (60, [.sym (.int .i64 (.var 1)), .sym (.int .i64 (.sh .shl .i64 (.lit 1) (.var 3)))], sy 14)]
def L_16 : List CF := [⟨.lss, (.var 2), (.lit 0), false⟩, ⟨.geq, (.var 3), (.var 6), false⟩, ⟨.geq, (.var 2), (.lit 0), true⟩, ⟨.geq, (.var 3), (.lit 0), true⟩]
def p1_16 : IE := .tri 3 (.tri 3 (.tri 3 (.sh .shl .i64 (.var 0) (.var 2)) (.sh .shl .i64 (.var 0) (.var 3)) (.lit 0)) (.sh .shl .i64 (.var 1) (.var 2)) (.lit 0)) (.sh .shl .i64 (.var 1) (.var 3)) (.lit 0)
def p2_16 : IE := .tri 2 (.tri 2 (.tri 2 (.sh .shl .i64 (.var 0) (.var 2)) (.sh .shl .i64 (.var 0) (.var 3)) (.lit 0)) (.sh .shl .i64 (.var 1) (.var 2)) (.lit 0)) (.sh .shl .i64 (.var 1) (.var 3)) (.lit 0)
def t1_16 : IE := .tri 3 (.tri 3 (.tri 3 (.tri 3 (.var 11) (.var 11) (.lit 0)) (.var 12) (.lit 0)) (.var 13) (.lit 0)) (.var 14) (.lit 0)
def t2_16 : IE := .tri 2 (.tri 2 (.tri 2 (.tri 2 (.var 11) (.var 11) (.lit 0)) (.var 12) (.lit 0)) (.var 13) (.lit 0)) (.var 14) (.lit 0)
theorem run_16 (ρ : Nat → Int) (aR aS : Addr) (b1 b2 c1 c2 : Bool) (h : (b1 && b2) = (c1 && c2)) : runE ρ aR aS (L_fit p1_16 p2_16 t1_16 t2_16 b1 b2 c1 c2 ++ L_16) (U_op 16 ++ X_16) [(24, xP 16, r_fit p1_16 p2_16 (b1 && b2)), (8, xP 16, r_fit t1_16 t2_16 (c1 && c2))] := by
  unfold runE
  cases b1 <;> cases b2 <;> cases c1 <;> cases c2 <;> first | (exact absurd h (by decide)) | kernel_rfl
theorem runw_16 (ρ : Nat → Int) (aR aS : Addr) (b : Bool) : runE ρ aR aS (if b then [⟨.lss, .var 2, .lit 0, true⟩] else [⟨.lss, .var 2, .lit 0, false⟩, ⟨.geq, .var 3, .var 6, true⟩]) (U_op 16 ++ []) [(24, xP 16, s9), (8, xP 16, s45)] := by
  unfold runE
  cases b <;> kernel_rfl
theorem apd_16 (aR aS : Addr) {al ah bl bh lo hi wd k rk rl rh wd2 : Int} (hR : ResV aR aS 16 k rk 0) (hK : KdV aR aS k lo hi wd) (hR2 : KdV aR aS rk rl rh wd2) (b0 : -2147483648 ≤ lo) (b1 : hi ≤ 4294967295) (_ : lo = 0 ∨ (lo = -hi - 1 ∧ hi ≤ 2147483647)) (bw : wd ≤ 32) (a0 : lo ≤ al) (a1 : al ≤ ah) (a2 : ah ≤ hi) (_ : lo ≤ bl) (c1 : bl ≤ bh) (_ : bh ≤ hi) (er : rl = lo) (eh : rh = hi) : ∃ sl sh, ApD aR aS 16 k al ah bl bh sl sh := by
  rcases Int.lt_or_le bl 0 with g1 | g1
  · refine apd_x (m := mL []) (X := []) hR hK hR2 (fun f hf => ?_) (fun _ h => by cases h) (runw_16 _ aR aS true) rfl rfl (x := rl) (y := rh) (x' := lo) (y' := hi) rfl rfl er eh
    obtain rfl := List.mem_singleton.1 hf
    exact ⟨rfl, decide_eq_true g1⟩
  rcases Int.lt_or_le bh wd with g2 | g2
  · refine apd_fit (m := mL [(tiI al (2 ^ bl.toNat)), (tiI al (2 ^ bh.toNat)), (tiI ah (2 ^ bl.toNat)), (tiI ah (2 ^ bh.toNat))]) (Lx := L_16) (X := X_16) hR hK hR2 (fun f hf => ?_) (fun L u hu => ?_) (run_16 _ aR aS) (by show (triI 3 (triI 3 (triI 3 (shI .shl .i64 al bl) (shI .shl .i64 al bh) 0) (shI .shl .i64 ah bl) 0) (shI .shl .i64 ah bh) 0) = (min (min (min (al * 2 ^ bl.toNat) (al * 2 ^ bh.toNat)) (ah * 2 ^ bl.toNat)) (ah * 2 ^ bh.toNat)); simp only [tri_3]; rw [ev_shl (by omega) (by omega) (by omega) (by omega), ev_shl (by omega) (by omega) (by omega) (by omega), ev_shl (by omega) (by omega) (by omega) (by omega), ev_shl (by omega) (by omega) (by omega) (by omega)]) (by show (triI 2 (triI 2 (triI 2 (shI .shl .i64 al bl) (shI .shl .i64 al bh) 0) (shI .shl .i64 ah bl) 0) (shI .shl .i64 ah bh) 0) = (max (max (max (al * 2 ^ bl.toNat) (al * 2 ^ bh.toNat)) (ah * 2 ^ bl.toNat)) (ah * 2 ^ bh.toNat)); simp only [tri_2]; rw [ev_shl (by omega) (by omega) (by omega) (by omega), ev_shl (by omega) (by omega) (by omega) (by omega), ev_shl (by omega) (by omega) (by omega) (by omega), ev_shl (by omega) (by omega) (by omega) (by omega)]) (by show (triI 3 (triI 3 (triI 3 (triI 3 (tiI al (2 ^ bl.toNat)) (tiI al (2 ^ bl.toNat)) 0) (tiI al (2 ^ bh.toNat)) 0) (tiI ah (2 ^ bl.toNat)) 0) (tiI ah (2 ^ bh.toNat)) 0) = (min (min (min (tiI al (2 ^ bl.toNat)) (tiI al (2 ^ bh.toNat))) (tiI ah (2 ^ bl.toNat))) (tiI ah (2 ^ bh.toNat))); simp only [tri_3, Int.min_self]) (by show (triI 2 (triI 2 (triI 2 (triI 2 (tiI al (2 ^ bl.toNat)) (tiI al (2 ^ bl.toNat)) 0) (tiI al (2 ^ bh.toNat)) 0) (tiI ah (2 ^ bl.toNat)) 0) (tiI ah (2 ^ bh.toNat)) 0) = (max (max (max (tiI al (2 ^ bl.toNat)) (tiI al (2 ^ bh.toNat))) (tiI ah (2 ^ bl.toNat))) (tiI ah (2 ^ bh.toNat))); simp only [tri_2, Int.max_self]) ?_ ?_
    · simp only [L_16, List.mem_cons, List.not_mem_nil, or_false] at hf
      rcases hf with rfl | rfl | rfl | rfl
      · exact ⟨rfl, by simp (disch := omega) only [IE.ev, rm_2, cmpI_lss, decide_eq_false_iff_not]; omega⟩
      · exact ⟨rfl, by simp (disch := omega) only [IE.ev, rm_3, rm_6, cmpI_geq, decide_eq_false_iff_not, ge_iff_le]; omega⟩
      · exact ⟨rfl, by simp (disch := omega) only [IE.ev, rm_2, cmpI_geq, decide_eq_true_eq, ge_iff_le]; omega⟩
      · exact ⟨rfl, by simp (disch := omega) only [IE.ev, rm_3, cmpI_geq, decide_eq_true_eq, ge_iff_le]; omega⟩
    · simp only [X_16, List.mem_cons, List.not_mem_nil, or_false] at hu
      rcases hu with rfl | rfl | rfl | rfl
      · exact tell2 (z := (tiI al (2 ^ bl.toNat))) (by show Fn2 _ _ _ al (shI .shl .i64 1 bl) _; rw [ev_one (by omega) (by omega)]; exact ti_ok aR aS (x := al) (y := (2 ^ bl.toNat)) (by omega) (by omega) (by have := two_le (y := bl) (by omega) (by omega); omega) (by have := two_le (y := bl) (by omega) (by omega); omega)) rfl rfl 11 rfl
      · exact tell2 (z := (tiI al (2 ^ bh.toNat))) (by show Fn2 _ _ _ al (shI .shl .i64 1 bh) _; rw [ev_one (by omega) (by omega)]; exact ti_ok aR aS (x := al) (y := (2 ^ bh.toNat)) (by omega) (by omega) (by have := two_le (y := bh) (by omega) (by omega); omega) (by have := two_le (y := bh) (by omega) (by omega); omega)) rfl rfl 12 rfl
      · exact tell2 (z := (tiI ah (2 ^ bl.toNat))) (by show Fn2 _ _ _ ah (shI .shl .i64 1 bl) _; rw [ev_one (by omega) (by omega)]; exact ti_ok aR aS (x := ah) (y := (2 ^ bl.toNat)) (by omega) (by omega) (by have := two_le (y := bl) (by omega) (by omega); omega) (by have := two_le (y := bl) (by omega) (by omega); omega)) rfl rfl 13 rfl
      · exact tell2 (z := (tiI ah (2 ^ bh.toNat))) (by show Fn2 _ _ _ ah (shI .shl .i64 1 bh) _; rw [ev_one (by omega) (by omega)]; exact ti_ok aR aS (x := ah) (y := (2 ^ bh.toNat)) (by omega) (by omega) (by have := two_le (y := bh) (by omega) (by omega); omega) (by have := two_le (y := bh) (by omega) (by omega); omega)) rfl rfl 14 rfl
    · exact (fit4 (rl := rl) (rh := rh) (fit_shl (by omega) (by omega) al (2 ^ bl.toNat)) (fit_shl (by omega) (by omega) al (2 ^ bh.toNat)) (fit_shl (by omega) (by omega) ah (2 ^ bl.toNat)) (fit_shl (by omega) (by omega) ah (2 ^ bh.toNat))).1
    · exact (fit4 (rl := rl) (rh := rh) (fit_shl (by omega) (by omega) al (2 ^ bl.toNat)) (fit_shl (by omega) (by omega) al (2 ^ bh.toNat)) (fit_shl (by omega) (by omega) ah (2 ^ bl.toNat)) (fit_shl (by omega) (by omega) ah (2 ^ bh.toNat))).2
  · refine apd_x (m := mL []) (X := []) hR hK hR2 (fun f hf => ?_) (fun _ h => by cases h) (runw_16 _ aR aS false) rfl rfl (x := rl) (y := rh) (x' := lo) (y' := hi) rfl rfl er eh
    simp only [Bool.false_eq_true, if_false, List.mem_cons, List.not_mem_nil, or_false] at hf
    rcases hf with rfl | rfl
    · exact ⟨rfl, decide_eq_false (show ¬ bl < 0 by omega)⟩
    · exact ⟨rfl, decide_eq_true (show bh ≥ wd from g2)⟩
end
end Go.Proofs.YtgecchiocfkpkaaGreatDoor

namespace Go.Proofs.YtgecchiocfkpkaaGreatDoor
noncomputable section
open Go Go.RX
open Go.RowKit (Below)
set_option maxRecDepth 1000000
set_option maxHeartbeats 4000000
def X_17 : List SEntry := [(36, [.sym (.int .i64 (.var 0)), .sym (.int .i64 (.sh .shl .i64 (.lit 1) (.var 2)))], sy 11), (36, [.sym (.int .i64 (.var 0)), .sym (.int .i64 (.sh .shl .i64 (.lit 1) (.var 3)))], sy 12), (36, [.sym (.int .i64 (.var 1)), .sym (.int .i64 (.sh .shl .i64 (.lit 1) (.var 2)))], sy 13), (36, [.sym (.int .i64 (.var 1)), .sym (.int .i64 (.sh .shl .i64 (.lit 1) (.var 3)))], sy 14)]
def L_17 : List CF := [⟨.lss, (.var 2), (.lit 0), false⟩, ⟨.geq, (.var 3), (.var 6), false⟩, ⟨.geq, (.var 2), (.lit 0), true⟩, ⟨.geq, (.var 3), (.lit 0), true⟩]
def p1_17 : IE := .tri 3 (.tri 3 (.tri 3 (.sh .shr .i64 (.var 0) (.var 2)) (.sh .shr .i64 (.var 0) (.var 3)) (.lit 0)) (.sh .shr .i64 (.var 1) (.var 2)) (.lit 0)) (.sh .shr .i64 (.var 1) (.var 3)) (.lit 0)
def p2_17 : IE := .tri 2 (.tri 2 (.tri 2 (.sh .shr .i64 (.var 0) (.var 2)) (.sh .shr .i64 (.var 0) (.var 3)) (.lit 0)) (.sh .shr .i64 (.var 1) (.var 2)) (.lit 0)) (.sh .shr .i64 (.var 1) (.var 3)) (.lit 0)
def t1_17 : IE := .tri 3 (.tri 3 (.tri 3 (.tri 3 (.var 11) (.var 11) (.lit 0)) (.var 12) (.lit 0)) (.var 13) (.lit 0)) (.var 14) (.lit 0)
def t2_17 : IE := .tri 2 (.tri 2 (.tri 2 (.tri 2 (.var 11) (.var 11) (.lit 0)) (.var 12) (.lit 0)) (.var 13) (.lit 0)) (.var 14) (.lit 0)
theorem run_17 (ρ : Nat → Int) (aR aS : Addr) (b1 b2 c1 c2 : Bool) (h : (b1 && b2) = (c1 && c2)) : runE ρ aR aS (L_fit p1_17 p2_17 t1_17 t2_17 b1 b2 c1 c2 ++ L_17) (U_op 17 ++ X_17) [(24, xP 17, r_fit p1_17 p2_17 (b1 && b2)), (8, xP 17, r_fit t1_17 t2_17 (c1 && c2))] := by
  unfold runE
  cases b1 <;> cases b2 <;> cases c1 <;> cases c2 <;> first | (exact absurd h (by decide)) | kernel_rfl
theorem runw_17 (ρ : Nat → Int) (aR aS : Addr) (b : Bool) : runE ρ aR aS (if b then [⟨.lss, .var 2, .lit 0, true⟩] else [⟨.lss, .var 2, .lit 0, false⟩, ⟨.geq, .var 3, .var 6, true⟩]) (U_op 17 ++ []) [(24, xP 17, s9), (8, xP 17, s45)] := by
  unfold runE
  cases b <;> kernel_rfl
theorem apd_17 (aR aS : Addr) {al ah bl bh lo hi wd k rk rl rh wd2 : Int} (hR : ResV aR aS 17 k rk 0) (hK : KdV aR aS k lo hi wd) (hR2 : KdV aR aS rk rl rh wd2) (b0 : -2147483648 ≤ lo) (b1 : hi ≤ 4294967295) (_ : lo = 0 ∨ (lo = -hi - 1 ∧ hi ≤ 2147483647)) (bw : wd ≤ 32) (a0 : lo ≤ al) (a1 : al ≤ ah) (a2 : ah ≤ hi) (_ : lo ≤ bl) (c1 : bl ≤ bh) (_ : bh ≤ hi) (er : rl = lo) (eh : rh = hi) : ∃ sl sh, ApD aR aS 17 k al ah bl bh sl sh := by
  rcases Int.lt_or_le bl 0 with g1 | g1
  · refine apd_x (m := mL []) (X := []) hR hK hR2 (fun f hf => ?_) (fun _ h => by cases h) (runw_17 _ aR aS true) rfl rfl (x := rl) (y := rh) (x' := lo) (y' := hi) rfl rfl er eh
    obtain rfl := List.mem_singleton.1 hf
    exact ⟨rfl, decide_eq_true g1⟩
  rcases Int.lt_or_le bh wd with g2 | g2
  · refine apd_fit (m := mL [(al / (2 ^ bl.toNat)), (al / (2 ^ bh.toNat)), (ah / (2 ^ bl.toNat)), (ah / (2 ^ bh.toNat))]) (Lx := L_17) (X := X_17) hR hK hR2 (fun f hf => ?_) (fun L u hu => ?_) (run_17 _ aR aS) (by show (triI 3 (triI 3 (triI 3 (shI .shr .i64 al bl) (shI .shr .i64 al bh) 0) (shI .shr .i64 ah bl) 0) (shI .shr .i64 ah bh) 0) = (min (min (min (al / 2 ^ bl.toNat) (al / 2 ^ bh.toNat)) (ah / 2 ^ bl.toNat)) (ah / 2 ^ bh.toNat)); simp only [tri_3]; rw [ev_shr (by omega) (by omega), ev_shr (by omega) (by omega), ev_shr (by omega) (by omega), ev_shr (by omega) (by omega)]) (by show (triI 2 (triI 2 (triI 2 (shI .shr .i64 al bl) (shI .shr .i64 al bh) 0) (shI .shr .i64 ah bl) 0) (shI .shr .i64 ah bh) 0) = (max (max (max (al / 2 ^ bl.toNat) (al / 2 ^ bh.toNat)) (ah / 2 ^ bl.toNat)) (ah / 2 ^ bh.toNat)); simp only [tri_2]; rw [ev_shr (by omega) (by omega), ev_shr (by omega) (by omega), ev_shr (by omega) (by omega), ev_shr (by omega) (by omega)]) (by show (triI 3 (triI 3 (triI 3 (triI 3 (al / (2 ^ bl.toNat)) (al / (2 ^ bl.toNat)) 0) (al / (2 ^ bh.toNat)) 0) (ah / (2 ^ bl.toNat)) 0) (ah / (2 ^ bh.toNat)) 0) = (min (min (min (al / (2 ^ bl.toNat)) (al / (2 ^ bh.toNat))) (ah / (2 ^ bl.toNat))) (ah / (2 ^ bh.toNat))); simp only [tri_3, Int.min_self]) (by show (triI 2 (triI 2 (triI 2 (triI 2 (al / (2 ^ bl.toNat)) (al / (2 ^ bl.toNat)) 0) (al / (2 ^ bh.toNat)) 0) (ah / (2 ^ bl.toNat)) 0) (ah / (2 ^ bh.toNat)) 0) = (max (max (max (al / (2 ^ bl.toNat)) (al / (2 ^ bh.toNat))) (ah / (2 ^ bl.toNat))) (ah / (2 ^ bh.toNat))); simp only [tri_2, Int.max_self]) ?_ ?_
    · simp only [L_17, List.mem_cons, List.not_mem_nil, or_false] at hf
      rcases hf with rfl | rfl | rfl | rfl
      · exact ⟨rfl, by simp (disch := omega) only [IE.ev, rm_2, cmpI_lss, decide_eq_false_iff_not]; omega⟩
      · exact ⟨rfl, by simp (disch := omega) only [IE.ev, rm_3, rm_6, cmpI_geq, decide_eq_false_iff_not, ge_iff_le]; omega⟩
      · exact ⟨rfl, by simp (disch := omega) only [IE.ev, rm_2, cmpI_geq, decide_eq_true_eq, ge_iff_le]; omega⟩
      · exact ⟨rfl, by simp (disch := omega) only [IE.ev, rm_3, cmpI_geq, decide_eq_true_eq, ge_iff_le]; omega⟩
    · simp only [X_17, List.mem_cons, List.not_mem_nil, or_false] at hu
      rcases hu with rfl | rfl | rfl | rfl
      · exact tell2 (z := (al / (2 ^ bl.toNat))) (by show Fn2 _ _ _ al (shI .shl .i64 1 bl) _; rw [ev_one (by omega) (by omega)]; exact fl_ok aR aS (x := al) (y := (2 ^ bl.toNat)) (by have := two_le (y := bl) (by omega) (by omega); omega) (by omega) (by omega)) rfl rfl 11 rfl
      · exact tell2 (z := (al / (2 ^ bh.toNat))) (by show Fn2 _ _ _ al (shI .shl .i64 1 bh) _; rw [ev_one (by omega) (by omega)]; exact fl_ok aR aS (x := al) (y := (2 ^ bh.toNat)) (by have := two_le (y := bh) (by omega) (by omega); omega) (by omega) (by omega)) rfl rfl 12 rfl
      · exact tell2 (z := (ah / (2 ^ bl.toNat))) (by show Fn2 _ _ _ ah (shI .shl .i64 1 bl) _; rw [ev_one (by omega) (by omega)]; exact fl_ok aR aS (x := ah) (y := (2 ^ bl.toNat)) (by have := two_le (y := bl) (by omega) (by omega); omega) (by omega) (by omega)) rfl rfl 13 rfl
      · exact tell2 (z := (ah / (2 ^ bh.toNat))) (by show Fn2 _ _ _ ah (shI .shl .i64 1 bh) _; rw [ev_one (by omega) (by omega)]; exact fl_ok aR aS (x := ah) (y := (2 ^ bh.toNat)) (by have := two_le (y := bh) (by omega) (by omega); omega) (by omega) (by omega)) rfl rfl 14 rfl
    · exact (fit_same (rl := rl) (rh := rh) (P1 := (min (min (min (al / 2 ^ bl.toNat) (al / 2 ^ bh.toNat)) (ah / 2 ^ bl.toNat)) (ah / 2 ^ bh.toNat))) (P2 := (max (max (max (al / 2 ^ bl.toNat) (al / 2 ^ bh.toNat)) (ah / 2 ^ bl.toNat)) (ah / 2 ^ bh.toNat))) rfl rfl).1
    · exact (fit_same (rl := rl) (rh := rh) (P1 := (min (min (min (al / 2 ^ bl.toNat) (al / 2 ^ bh.toNat)) (ah / 2 ^ bl.toNat)) (ah / 2 ^ bh.toNat))) (P2 := (max (max (max (al / 2 ^ bl.toNat) (al / 2 ^ bh.toNat)) (ah / 2 ^ bl.toNat)) (ah / 2 ^ bh.toNat))) rfl rfl).2
  · refine apd_x (m := mL []) (X := []) hR hK hR2 (fun f hf => ?_) (fun _ h => by cases h) (runw_17 _ aR aS false) rfl rfl (x := rl) (y := rh) (x' := lo) (y' := hi) rfl rfl er eh
    simp only [Bool.false_eq_true, if_false, List.mem_cons, List.not_mem_nil, or_false] at hf
    rcases hf with rfl | rfl
    · exact ⟨rfl, decide_eq_false (show ¬ bl < 0 by omega)⟩
    · exact ⟨rfl, decide_eq_true (show bh ≥ wd from g2)⟩
end
end Go.Proofs.YtgecchiocfkpkaaGreatDoor
