import Derived.Test.YtgecchiocfkpkaaGreatDoorLL
namespace Go.Proofs.YtgecchiocfkpkaaGreatDoor
noncomputable section
open Go Go.RX
open Go.RowKit (Below)
set_option maxRecDepth 1000000
set_option maxHeartbeats 4000000
def X_9negm : List SEntry := [(74, [.sym (.int .i64 (.var 0)), .sym (.int .i64 (.tri 2 (.var 2) (.lit (-9223372036854775808)) (.lit 0)))], sy 11), (74, [.sym (.int .i64 (.var 0)), .sym (.int .i64 (.tri 3 (.var 3) (.lit (-1)) (.lit 0)))], sy 12), (74, [.sym (.int .i64 (.var 1)), .sym (.int .i64 (.tri 2 (.var 2) (.lit (-9223372036854775808)) (.lit 0)))], sy 13), (74, [.sym (.int .i64 (.var 1)), .sym (.int .i64 (.tri 3 (.var 3) (.lit (-1)) (.lit 0)))], sy 14), (61, [.sym (.int .i64 (.var 0)), .sym (.int .i64 (.var 2))], sy 15), (61, [.sym (.int .i64 (.var 0)), .v (.int .i64 (-1))], sy 16), (61, [.sym (.int .i64 (.var 0)), .sym (.int .i64 (.var 3))], sy 17), (61, [.sym (.int .i64 (.var 1)), .sym (.int .i64 (.var 2))], sy 18), (61, [.sym (.int .i64 (.var 1)), .v (.int .i64 (-1))], sy 19), (61, [.sym (.int .i64 (.var 1)), .sym (.int .i64 (.var 3))], sy 20)]
def L_9negm : List CF := [⟨.leq, (.var 2), (.lit 0), true⟩, ⟨.leq, (.lit 0), (.var 3), false⟩, ⟨.gtr, (.tri 2 (.var 2) (.lit (-9223372036854775808)) (.lit 0)), (.tri 3 (.var 3) (.lit (-1)) (.lit 0)), false⟩, ⟨.gtr, (.tri 2 (.var 2) (.lit 1) (.lit 0)), (.tri 3 (.var 3) (.lit 9223372036854775807) (.lit 0)), true⟩, ⟨.leq, (.var 2), (.var 3), true⟩, ⟨.geq, (.lit (-1)), (.var 2), true⟩, ⟨.leq, (.lit (-1)), (.var 3), true⟩, ⟨.geq, (.lit 0), (.var 2), true⟩, ⟨.geq, (.lit 1), (.var 2), true⟩, ⟨.leq, (.lit 1), (.var 3), false⟩, ⟨.geq, (.var 3), (.var 2), true⟩]
def p1_9negm : IE := .tri 3 (.tri 3 (.tri 3 (.var 11) (.var 12) (.lit 0)) (.var 13) (.lit 0)) (.var 14) (.lit 0)
def p2_9negm : IE := .tri 2 (.tri 2 (.tri 2 (.var 11) (.var 12) (.lit 0)) (.var 13) (.lit 0)) (.var 14) (.lit 0)
def t1_9negm : IE := .tri 3 (.tri 3 (.tri 3 (.tri 3 (.tri 3 (.tri 3 (.var 15) (.var 15) (.lit 0)) (.var 16) (.lit 0)) (.var 17) (.lit 0)) (.var 18) (.lit 0)) (.var 19) (.lit 0)) (.var 20) (.lit 0)
def t2_9negm : IE := .tri 2 (.tri 2 (.tri 2 (.tri 2 (.tri 2 (.tri 2 (.var 15) (.var 15) (.lit 0)) (.var 16) (.lit 0)) (.var 17) (.lit 0)) (.var 18) (.lit 0)) (.var 19) (.lit 0)) (.var 20) (.lit 0)
theorem run_9negm (ρ : Nat → Int) (aR aS : Addr) (b1 b2 c1 c2 : Bool) (h : (b1 && b2) = (c1 && c2)) : runE ρ aR aS (L_fit p1_9negm p2_9negm t1_9negm t2_9negm b1 b2 c1 c2 ++ L_9negm) (U_op 9 ++ X_9negm) [(24, xP 9, r_fit p1_9negm p2_9negm (b1 && b2)), (8, xP 9, r_fit t1_9negm t2_9negm (c1 && c2))] := by
  unfold runE
  cases b1 <;> cases b2 <;> cases c1 <;> cases c2 <;> first | (exact absurd h (by decide)) | kernel_rfl
theorem div_negm (aR aS : Addr) {al ah bl bh lo hi wd k rk rl rh wd2 : Int} (hR : ResV aR aS 9 k rk 0) (hK : KdV aR aS k lo hi wd) (hR2 : KdV aR aS rk rl rh wd2) (b0 : -2147483648 ≤ lo) (b1 : hi ≤ 4294967295) (_ : lo = 0 ∨ (lo = -hi - 1 ∧ hi ≤ 2147483647)) (_ : wd ≤ 32) (a0 : lo ≤ al) (a1 : al ≤ ah) (a2 : ah ≤ hi) (c0 : lo ≤ bl) (c1 : bl ≤ bh) (c2 : bh ≤ hi) (er : rl = lo) (eh : rh = hi) (h : (bl < 0 ∧ bh = -1)) : ∃ sl sh, ApD aR aS 9 k al ah bl bh sl sh := by
  obtain ⟨h1, h2⟩ := h
  subst h2
  refine apd_fit (m := mL [(al / bl), (al / (-1)), (ah / bl), (ah / (-1)), (al / bl), (al / (-1)), (al / (-1)), (ah / bl), (ah / (-1)), (ah / (-1))]) (Lx := L_9negm) (X := X_9negm) hR hK hR2 (fun f hf => ?_) (fun L u hu => ?_) (run_9negm _ aR aS) (by show (triI 3 (triI 3 (triI 3 (al / bl) (al / (-1)) 0) (ah / bl) 0) (ah / (-1)) 0) = (min (min (min (al / bl) (al / (-1))) (ah / bl)) (ah / (-1))); simp only [tri_3]) (by show (triI 2 (triI 2 (triI 2 (al / bl) (al / (-1)) 0) (ah / bl) 0) (ah / (-1)) 0) = (max (max (max (al / bl) (al / (-1))) (ah / bl)) (ah / (-1))); simp only [tri_2]) (by show (triI 3 (triI 3 (triI 3 (triI 3 (triI 3 (triI 3 (al / bl) (al / bl) 0) (al / (-1)) 0) (al / (-1)) 0) (ah / bl) 0) (ah / (-1)) 0) (ah / (-1)) 0) = (min (min (min (min (min (min (al / bl) (al / bl)) (al / (-1))) (al / (-1))) (ah / bl)) (ah / (-1))) (ah / (-1))); simp only [tri_3]) (by show (triI 2 (triI 2 (triI 2 (triI 2 (triI 2 (triI 2 (al / bl) (al / bl) 0) (al / (-1)) 0) (al / (-1)) 0) (ah / bl) 0) (ah / (-1)) 0) (ah / (-1)) 0) = (max (max (max (max (max (max (al / bl) (al / bl)) (al / (-1))) (al / (-1))) (ah / bl)) (ah / (-1))) (ah / (-1))); simp only [tri_2]) ?_ ?_
  · simp only [L_9negm, List.mem_cons, List.not_mem_nil, or_false] at hf
    rcases hf with rfl | rfl | rfl | rfl | rfl | rfl | rfl | rfl | rfl | rfl | rfl
    · exact ⟨rfl, by simp (disch := omega) only [IE.ev, rm_2, cmpI_leq, decide_eq_true_eq]; omega⟩
    · exact ⟨rfl, by simp (disch := omega) only [IE.ev, rm_3, cmpI_leq, decide_eq_false_iff_not]; omega⟩
    · exact ⟨rfl, by simp (disch := omega) only [IE.ev, rm_2, rm_3, tri_2, tri_3, cmpI_gtr, decide_eq_false_iff_not, gt_iff_lt]; omega⟩
    · exact ⟨rfl, by simp (disch := omega) only [IE.ev, rm_2, rm_3, tri_2, tri_3, cmpI_gtr, decide_eq_true_eq, gt_iff_lt]; omega⟩
    · exact ⟨rfl, by simp (disch := omega) only [IE.ev, rm_2, rm_3, cmpI_leq, decide_eq_true_eq]; omega⟩
    · exact ⟨rfl, by simp (disch := omega) only [IE.ev, rm_2, cmpI_geq, decide_eq_true_eq, ge_iff_le]; omega⟩
    · exact ⟨rfl, by simp (disch := omega) only [IE.ev, rm_3, cmpI_leq, decide_eq_true_eq]; omega⟩
    · exact ⟨rfl, by simp (disch := omega) only [IE.ev, rm_2, cmpI_geq, decide_eq_true_eq, ge_iff_le]; omega⟩
    · exact ⟨rfl, by simp (disch := omega) only [IE.ev, rm_2, cmpI_geq, decide_eq_true_eq, ge_iff_le]; omega⟩
    · exact ⟨rfl, by simp (disch := omega) only [IE.ev, rm_3, cmpI_leq, decide_eq_false_iff_not]; omega⟩
    · exact ⟨rfl, by simp (disch := omega) only [IE.ev, rm_2, rm_3, cmpI_geq, decide_eq_true_eq, ge_iff_le]; omega⟩
  · simp only [X_9negm, List.mem_cons, List.not_mem_nil, or_false] at hu
    rcases hu with rfl | rfl | rfl | rfl | rfl | rfl | rfl | rfl | rfl | rfl
    · exact tell2 (z := (al / bl)) (by show Fn2 _ _ _ al (triI 2 bl (-9223372036854775808) 0) _; rw [show (triI 2 bl (-9223372036854775808) 0) = bl by simp only [tri_2]; omega]; exact qu_ok aR aS (x := al) (y := bl) (by omega) (by omega) (by omega)) rfl rfl 11 rfl
    · exact tell2 (z := (al / (-1))) (by show Fn2 _ _ _ al (triI 3 (-1) (-1) 0) _; rw [show (triI 3 (-1) (-1) 0) = (-1) by simp only [tri_3]; omega]; exact qu_ok aR aS (x := al) (y := (-1)) (by omega) (by omega) (by omega)) rfl rfl 12 rfl
    · exact tell2 (z := (ah / bl)) (by show Fn2 _ _ _ ah (triI 2 bl (-9223372036854775808) 0) _; rw [show (triI 2 bl (-9223372036854775808) 0) = bl by simp only [tri_2]; omega]; exact qu_ok aR aS (x := ah) (y := bl) (by omega) (by omega) (by omega)) rfl rfl 13 rfl
    · exact tell2 (z := (ah / (-1))) (by show Fn2 _ _ _ ah (triI 3 (-1) (-1) 0) _; rw [show (triI 3 (-1) (-1) 0) = (-1) by simp only [tri_3]; omega]; exact qu_ok aR aS (x := ah) (y := (-1)) (by omega) (by omega) (by omega)) rfl rfl 14 rfl
    · exact tell2 (z := (al / bl)) (rq_ok aR aS (x := al) (y := bl) (by omega) (by omega) (by omega) (by omega)) rfl rfl 15 rfl
    · exact tell2 (z := (al / (-1))) (rq_ok aR aS (x := al) (y := (-1)) (by omega) (by omega) (by omega) (by omega)) rfl rfl 16 rfl
    · exact tell2 (z := (al / (-1))) (rq_ok aR aS (x := al) (y := (-1)) (by omega) (by omega) (by omega) (by omega)) rfl rfl 17 rfl
    · exact tell2 (z := (ah / bl)) (rq_ok aR aS (x := ah) (y := bl) (by omega) (by omega) (by omega) (by omega)) rfl rfl 18 rfl
    · exact tell2 (z := (ah / (-1))) (rq_ok aR aS (x := ah) (y := (-1)) (by omega) (by omega) (by omega) (by omega)) rfl rfl 19 rfl
    · exact tell2 (z := (ah / (-1))) (rq_ok aR aS (x := ah) (y := (-1)) (by omega) (by omega) (by omega) (by omega)) rfl rfl 20 rfl
  · exact (fit_same (rl := rl) (rh := rh) (P1 := (min (min (min (al / bl) (al / (-1))) (ah / bl)) (ah / (-1)))) (T1 := (min (min (min (min (min (min (al / bl) (al / bl)) (al / (-1))) (al / (-1))) (ah / bl)) (ah / (-1))) (ah / (-1)))) (P2 := (max (max (max (al / bl) (al / (-1))) (ah / bl)) (ah / (-1)))) (T2 := (max (max (max (max (max (max (al / bl) (al / bl)) (al / (-1))) (al / (-1))) (ah / bl)) (ah / (-1))) (ah / (-1)))) (by (try simp only [Int.ediv_zero]); ac_rfl) (by (try simp only [Int.ediv_zero]); ac_rfl)).1
  · exact (fit_same (rl := rl) (rh := rh) (P1 := (min (min (min (al / bl) (al / (-1))) (ah / bl)) (ah / (-1)))) (T1 := (min (min (min (min (min (min (al / bl) (al / bl)) (al / (-1))) (al / (-1))) (ah / bl)) (ah / (-1))) (ah / (-1)))) (P2 := (max (max (max (al / bl) (al / (-1))) (ah / bl)) (ah / (-1)))) (T2 := (max (max (max (max (max (max (al / bl) (al / bl)) (al / (-1))) (al / (-1))) (ah / bl)) (ah / (-1))) (ah / (-1)))) (by (try simp only [Int.ediv_zero]); ac_rfl) (by (try simp only [Int.ediv_zero]); ac_rfl)).2
end
end Go.Proofs.YtgecchiocfkpkaaGreatDoor

namespace Go.Proofs.YtgecchiocfkpkaaGreatDoor
noncomputable section
open Go Go.RX
open Go.RowKit (Below)
set_option maxRecDepth 1000000
set_option maxHeartbeats 4000000
def X_9negz : List SEntry := [(74, [.sym (.int .i64 (.var 0)), .sym (.int .i64 (.tri 2 (.var 2) (.lit (-9223372036854775808)) (.lit 0)))], sy 11), (74, [.sym (.int .i64 (.var 0)), .sym (.int .i64 (.tri 3 (.var 3) (.lit (-1)) (.lit 0)))], sy 12), (74, [.sym (.int .i64 (.var 1)), .sym (.int .i64 (.tri 2 (.var 2) (.lit (-9223372036854775808)) (.lit 0)))], sy 13), (74, [.sym (.int .i64 (.var 1)), .sym (.int .i64 (.tri 3 (.var 3) (.lit (-1)) (.lit 0)))], sy 14), (61, [.sym (.int .i64 (.var 0)), .sym (.int .i64 (.var 2))], sy 15), (61, [.sym (.int .i64 (.var 0)), .v (.int .i64 (-1))], sy 16), (61, [.sym (.int .i64 (.var 0)), .v (.int .i64 0)], sy 17), (61, [.sym (.int .i64 (.var 0)), .sym (.int .i64 (.var 3))], sy 18), (61, [.sym (.int .i64 (.var 1)), .sym (.int .i64 (.var 2))], sy 19), (61, [.sym (.int .i64 (.var 1)), .v (.int .i64 (-1))], sy 20), (61, [.sym (.int .i64 (.var 1)), .v (.int .i64 0)], sy 21), (61, [.sym (.int .i64 (.var 1)), .sym (.int .i64 (.var 3))], sy 22)]
def L_9negz : List CF := [⟨.leq, (.var 2), (.lit 0), true⟩, ⟨.leq, (.lit 0), (.var 3), true⟩, ⟨.gtr, (.tri 2 (.var 2) (.lit (-9223372036854775808)) (.lit 0)), (.tri 3 (.var 3) (.lit (-1)) (.lit 0)), false⟩, ⟨.gtr, (.tri 2 (.var 2) (.lit 1) (.lit 0)), (.tri 3 (.var 3) (.lit 9223372036854775807) (.lit 0)), true⟩, ⟨.leq, (.var 2), (.var 3), true⟩, ⟨.geq, (.lit (-1)), (.var 2), true⟩, ⟨.leq, (.lit (-1)), (.var 3), true⟩, ⟨.geq, (.lit 0), (.var 2), true⟩, ⟨.geq, (.lit 1), (.var 2), true⟩, ⟨.leq, (.lit 1), (.var 3), false⟩, ⟨.geq, (.var 3), (.var 2), true⟩]
def p1_9negz : IE := .tri 3 (.lit 0) (.tri 3 (.tri 3 (.tri 3 (.var 11) (.var 12) (.lit 0)) (.var 13) (.lit 0)) (.var 14) (.lit 0)) (.lit 0)
def p2_9negz : IE := .tri 2 (.lit 0) (.tri 2 (.tri 2 (.tri 2 (.var 11) (.var 12) (.lit 0)) (.var 13) (.lit 0)) (.var 14) (.lit 0)) (.lit 0)
def t1_9negz : IE := .tri 3 (.tri 3 (.tri 3 (.tri 3 (.tri 3 (.tri 3 (.tri 3 (.tri 3 (.var 15) (.var 15) (.lit 0)) (.var 16) (.lit 0)) (.var 17) (.lit 0)) (.var 18) (.lit 0)) (.var 19) (.lit 0)) (.var 20) (.lit 0)) (.var 21) (.lit 0)) (.var 22) (.lit 0)
def t2_9negz : IE := .tri 2 (.tri 2 (.tri 2 (.tri 2 (.tri 2 (.tri 2 (.tri 2 (.tri 2 (.var 15) (.var 15) (.lit 0)) (.var 16) (.lit 0)) (.var 17) (.lit 0)) (.var 18) (.lit 0)) (.var 19) (.lit 0)) (.var 20) (.lit 0)) (.var 21) (.lit 0)) (.var 22) (.lit 0)
theorem run_9negz (ρ : Nat → Int) (aR aS : Addr) (b1 b2 c1 c2 : Bool) (h : (b1 && b2) = (c1 && c2)) : runE ρ aR aS (L_fit p1_9negz p2_9negz t1_9negz t2_9negz b1 b2 c1 c2 ++ L_9negz) (U_op 9 ++ X_9negz) [(24, xP 9, r_fit p1_9negz p2_9negz (b1 && b2)), (8, xP 9, r_fit t1_9negz t2_9negz (c1 && c2))] := by
  unfold runE
  cases b1 <;> cases b2 <;> cases c1 <;> cases c2 <;> first | (exact absurd h (by decide)) | kernel_rfl
theorem div_negz (aR aS : Addr) {al ah bl bh lo hi wd k rk rl rh wd2 : Int} (hR : ResV aR aS 9 k rk 0) (hK : KdV aR aS k lo hi wd) (hR2 : KdV aR aS rk rl rh wd2) (b0 : -2147483648 ≤ lo) (b1 : hi ≤ 4294967295) (_ : lo = 0 ∨ (lo = -hi - 1 ∧ hi ≤ 2147483647)) (_ : wd ≤ 32) (a0 : lo ≤ al) (a1 : al ≤ ah) (a2 : ah ≤ hi) (c0 : lo ≤ bl) (c1 : bl ≤ bh) (c2 : bh ≤ hi) (er : rl = lo) (eh : rh = hi) (h : (bl < 0 ∧ bh = 0)) : ∃ sl sh, ApD aR aS 9 k al ah bl bh sl sh := by
  obtain ⟨h1, h2⟩ := h
  subst h2
  refine apd_fit (m := mL [(al / bl), (al / (-1)), (ah / bl), (ah / (-1)), (al / bl), (al / (-1)), (al / (0)), (al / 0), (ah / bl), (ah / (-1)), (ah / (0)), (ah / 0)]) (Lx := L_9negz) (X := X_9negz) hR hK hR2 (fun f hf => ?_) (fun L u hu => ?_) (run_9negz _ aR aS) (by show (triI 3 (0) (triI 3 (triI 3 (triI 3 (al / bl) (al / (-1)) 0) (ah / bl) 0) (ah / (-1)) 0) 0) = (min (0) (min (min (min (al / bl) (al / (-1))) (ah / bl)) (ah / (-1)))); simp only [tri_3]) (by show (triI 2 (0) (triI 2 (triI 2 (triI 2 (al / bl) (al / (-1)) 0) (ah / bl) 0) (ah / (-1)) 0) 0) = (max (0) (max (max (max (al / bl) (al / (-1))) (ah / bl)) (ah / (-1)))); simp only [tri_2]) (by show (triI 3 (triI 3 (triI 3 (triI 3 (triI 3 (triI 3 (triI 3 (triI 3 (al / bl) (al / bl) 0) (al / (-1)) 0) (al / (0)) 0) (al / 0) 0) (ah / bl) 0) (ah / (-1)) 0) (ah / (0)) 0) (ah / 0) 0) = (min (min (min (min (min (min (min (min (al / bl) (al / bl)) (al / (-1))) (al / (0))) (al / 0)) (ah / bl)) (ah / (-1))) (ah / (0))) (ah / 0)); simp only [tri_3]) (by show (triI 2 (triI 2 (triI 2 (triI 2 (triI 2 (triI 2 (triI 2 (triI 2 (al / bl) (al / bl) 0) (al / (-1)) 0) (al / (0)) 0) (al / 0) 0) (ah / bl) 0) (ah / (-1)) 0) (ah / (0)) 0) (ah / 0) 0) = (max (max (max (max (max (max (max (max (al / bl) (al / bl)) (al / (-1))) (al / (0))) (al / 0)) (ah / bl)) (ah / (-1))) (ah / (0))) (ah / 0)); simp only [tri_2]) ?_ ?_
  · simp only [L_9negz, List.mem_cons, List.not_mem_nil, or_false] at hf
    rcases hf with rfl | rfl | rfl | rfl | rfl | rfl | rfl | rfl | rfl | rfl | rfl
    · exact ⟨rfl, by simp (disch := omega) only [IE.ev, rm_2, cmpI_leq, decide_eq_true_eq]; omega⟩
    · exact ⟨rfl, by simp (disch := omega) only [IE.ev, rm_3, cmpI_leq, decide_eq_true_eq]; omega⟩
    · exact ⟨rfl, by simp (disch := omega) only [IE.ev, rm_2, rm_3, tri_2, tri_3, cmpI_gtr, decide_eq_false_iff_not, gt_iff_lt]; omega⟩
    · exact ⟨rfl, by simp (disch := omega) only [IE.ev, rm_2, rm_3, tri_2, tri_3, cmpI_gtr, decide_eq_true_eq, gt_iff_lt]; omega⟩
    · exact ⟨rfl, by simp (disch := omega) only [IE.ev, rm_2, rm_3, cmpI_leq, decide_eq_true_eq]; omega⟩
    · exact ⟨rfl, by simp (disch := omega) only [IE.ev, rm_2, cmpI_geq, decide_eq_true_eq, ge_iff_le]; omega⟩
    · exact ⟨rfl, by simp (disch := omega) only [IE.ev, rm_3, cmpI_leq, decide_eq_true_eq]; omega⟩
    · exact ⟨rfl, by simp (disch := omega) only [IE.ev, rm_2, cmpI_geq, decide_eq_true_eq, ge_iff_le]; omega⟩
    · exact ⟨rfl, by simp (disch := omega) only [IE.ev, rm_2, cmpI_geq, decide_eq_true_eq, ge_iff_le]; omega⟩
    · exact ⟨rfl, by simp (disch := omega) only [IE.ev, rm_3, cmpI_leq, decide_eq_false_iff_not]; omega⟩
    · exact ⟨rfl, by simp (disch := omega) only [IE.ev, rm_2, rm_3, cmpI_geq, decide_eq_true_eq, ge_iff_le]; omega⟩
  · simp only [X_9negz, List.mem_cons, List.not_mem_nil, or_false] at hu
    rcases hu with rfl | rfl | rfl | rfl | rfl | rfl | rfl | rfl | rfl | rfl | rfl | rfl
    · exact tell2 (z := (al / bl)) (by show Fn2 _ _ _ al (triI 2 bl (-9223372036854775808) 0) _; rw [show (triI 2 bl (-9223372036854775808) 0) = bl by simp only [tri_2]; omega]; exact qu_ok aR aS (x := al) (y := bl) (by omega) (by omega) (by omega)) rfl rfl 11 rfl
    · exact tell2 (z := (al / (-1))) (by show Fn2 _ _ _ al (triI 3 0 (-1) 0) _; rw [show (triI 3 0 (-1) 0) = (-1) by simp only [tri_3]; omega]; exact qu_ok aR aS (x := al) (y := (-1)) (by omega) (by omega) (by omega)) rfl rfl 12 rfl
    · exact tell2 (z := (ah / bl)) (by show Fn2 _ _ _ ah (triI 2 bl (-9223372036854775808) 0) _; rw [show (triI 2 bl (-9223372036854775808) 0) = bl by simp only [tri_2]; omega]; exact qu_ok aR aS (x := ah) (y := bl) (by omega) (by omega) (by omega)) rfl rfl 13 rfl
    · exact tell2 (z := (ah / (-1))) (by show Fn2 _ _ _ ah (triI 3 0 (-1) 0) _; rw [show (triI 3 0 (-1) 0) = (-1) by simp only [tri_3]; omega]; exact qu_ok aR aS (x := ah) (y := (-1)) (by omega) (by omega) (by omega)) rfl rfl 14 rfl
    · exact tell2 (z := (al / bl)) (rq_ok aR aS (x := al) (y := bl) (by omega) (by omega) (by omega) (by omega)) rfl rfl 15 rfl
    · exact tell2 (z := (al / (-1))) (rq_ok aR aS (x := al) (y := (-1)) (by omega) (by omega) (by omega) (by omega)) rfl rfl 16 rfl
    · exact tell2 (z := (al / (0))) (rq_ok aR aS (x := al) (y := (0)) (by omega) (by omega) (by omega) (by omega)) rfl rfl 17 rfl
    · exact tell2 (z := (al / 0)) (rq_ok aR aS (x := al) (y := 0) (by omega) (by omega) (by omega) (by omega)) rfl rfl 18 rfl
    · exact tell2 (z := (ah / bl)) (rq_ok aR aS (x := ah) (y := bl) (by omega) (by omega) (by omega) (by omega)) rfl rfl 19 rfl
    · exact tell2 (z := (ah / (-1))) (rq_ok aR aS (x := ah) (y := (-1)) (by omega) (by omega) (by omega) (by omega)) rfl rfl 20 rfl
    · exact tell2 (z := (ah / (0))) (rq_ok aR aS (x := ah) (y := (0)) (by omega) (by omega) (by omega) (by omega)) rfl rfl 21 rfl
    · exact tell2 (z := (ah / 0)) (rq_ok aR aS (x := ah) (y := 0) (by omega) (by omega) (by omega) (by omega)) rfl rfl 22 rfl
  · exact (fit_same (rl := rl) (rh := rh) (P1 := (min (0) (min (min (min (al / bl) (al / (-1))) (ah / bl)) (ah / (-1))))) (T1 := (min (min (min (min (min (min (min (min (al / bl) (al / bl)) (al / (-1))) (al / (0))) (al / 0)) (ah / bl)) (ah / (-1))) (ah / (0))) (ah / 0))) (P2 := (max (0) (max (max (max (al / bl) (al / (-1))) (ah / bl)) (ah / (-1))))) (T2 := (max (max (max (max (max (max (max (max (al / bl) (al / bl)) (al / (-1))) (al / (0))) (al / 0)) (ah / bl)) (ah / (-1))) (ah / (0))) (ah / 0))) (by (try simp only [Int.ediv_zero]); ac_rfl) (by (try simp only [Int.ediv_zero]); ac_rfl)).1
  · exact (fit_same (rl := rl) (rh := rh) (P1 := (min (0) (min (min (min (al / bl) (al / (-1))) (ah / bl)) (ah / (-1))))) (T1 := (min (min (min (min (min (min (min (min (al / bl) (al / bl)) (al / (-1))) (al / (0))) (al / 0)) (ah / bl)) (ah / (-1))) (ah / (0))) (ah / 0))) (P2 := (max (0) (max (max (max (al / bl) (al / (-1))) (ah / bl)) (ah / (-1))))) (T2 := (max (max (max (max (max (max (max (max (al / bl) (al / bl)) (al / (-1))) (al / (0))) (al / 0)) (ah / bl)) (ah / (-1))) (ah / (0))) (ah / 0))) (by (try simp only [Int.ediv_zero]); ac_rfl) (by (try simp only [Int.ediv_zero]); ac_rfl)).2
end
end Go.Proofs.YtgecchiocfkpkaaGreatDoor

namespace Go.Proofs.YtgecchiocfkpkaaGreatDoor
noncomputable section
open Go Go.RX
open Go.RowKit (Below)
set_option maxRecDepth 1000000
set_option maxHeartbeats 4000000
def X_9both : List SEntry := [(74, [.sym (.int .i64 (.var 0)), .sym (.int .i64 (.tri 2 (.var 2) (.lit (-9223372036854775808)) (.lit 0)))], sy 11), (74, [.sym (.int .i64 (.var 0)), .sym (.int .i64 (.tri 3 (.var 3) (.lit (-1)) (.lit 0)))], sy 12), (74, [.sym (.int .i64 (.var 1)), .sym (.int .i64 (.tri 2 (.var 2) (.lit (-9223372036854775808)) (.lit 0)))], sy 13), (74, [.sym (.int .i64 (.var 1)), .sym (.int .i64 (.tri 3 (.var 3) (.lit (-1)) (.lit 0)))], sy 14), (74, [.sym (.int .i64 (.var 0)), .sym (.int .i64 (.tri 2 (.var 2) (.lit 1) (.lit 0)))], sy 15), (74, [.sym (.int .i64 (.var 0)), .sym (.int .i64 (.tri 3 (.var 3) (.lit 9223372036854775807) (.lit 0)))], sy 16), (74, [.sym (.int .i64 (.var 1)), .sym (.int .i64 (.tri 2 (.var 2) (.lit 1) (.lit 0)))], sy 17), (74, [.sym (.int .i64 (.var 1)), .sym (.int .i64 (.tri 3 (.var 3) (.lit 9223372036854775807) (.lit 0)))], sy 18), (61, [.sym (.int .i64 (.var 0)), .sym (.int .i64 (.var 2))], sy 19), (61, [.sym (.int .i64 (.var 0)), .v (.int .i64 (-1))], sy 20), (61, [.sym (.int .i64 (.var 0)), .v (.int .i64 0)], sy 21), (61, [.sym (.int .i64 (.var 0)), .v (.int .i64 1)], sy 22), (61, [.sym (.int .i64 (.var 0)), .sym (.int .i64 (.var 3))], sy 23), (61, [.sym (.int .i64 (.var 1)), .sym (.int .i64 (.var 2))], sy 24), (61, [.sym (.int .i64 (.var 1)), .v (.int .i64 (-1))], sy 25), (61, [.sym (.int .i64 (.var 1)), .v (.int .i64 0)], sy 26), (61, [.sym (.int .i64 (.var 1)), .v (.int .i64 1)], sy 27), (61, [.sym (.int .i64 (.var 1)), .sym (.int .i64 (.var 3))], sy 28)]
def L_9both : List CF := [⟨.leq, (.var 2), (.lit 0), true⟩, ⟨.leq, (.lit 0), (.var 3), true⟩, ⟨.gtr, (.tri 2 (.var 2) (.lit (-9223372036854775808)) (.lit 0)), (.tri 3 (.var 3) (.lit (-1)) (.lit 0)), false⟩, ⟨.gtr, (.tri 2 (.var 2) (.lit 1) (.lit 0)), (.tri 3 (.var 3) (.lit 9223372036854775807) (.lit 0)), false⟩, ⟨.leq, (.var 2), (.var 3), true⟩, ⟨.geq, (.lit (-1)), (.var 2), true⟩, ⟨.leq, (.lit (-1)), (.var 3), true⟩, ⟨.geq, (.lit 0), (.var 2), true⟩, ⟨.geq, (.lit 1), (.var 2), true⟩, ⟨.leq, (.lit 1), (.var 3), true⟩, ⟨.geq, (.var 3), (.var 2), true⟩]
def p1_9both : IE := .tri 3 (.tri 3 (.lit 0) (.tri 3 (.tri 3 (.tri 3 (.var 11) (.var 12) (.lit 0)) (.var 13) (.lit 0)) (.var 14) (.lit 0)) (.lit 0)) (.tri 3 (.tri 3 (.tri 3 (.var 15) (.var 16) (.lit 0)) (.var 17) (.lit 0)) (.var 18) (.lit 0)) (.lit 0)
def p2_9both : IE := .tri 2 (.tri 2 (.lit 0) (.tri 2 (.tri 2 (.tri 2 (.var 11) (.var 12) (.lit 0)) (.var 13) (.lit 0)) (.var 14) (.lit 0)) (.lit 0)) (.tri 2 (.tri 2 (.tri 2 (.var 15) (.var 16) (.lit 0)) (.var 17) (.lit 0)) (.var 18) (.lit 0)) (.lit 0)
def t1_9both : IE := .tri 3 (.tri 3 (.tri 3 (.tri 3 (.tri 3 (.tri 3 (.tri 3 (.tri 3 (.tri 3 (.tri 3 (.var 19) (.var 19) (.lit 0)) (.var 20) (.lit 0)) (.var 21) (.lit 0)) (.var 22) (.lit 0)) (.var 23) (.lit 0)) (.var 24) (.lit 0)) (.var 25) (.lit 0)) (.var 26) (.lit 0)) (.var 27) (.lit 0)) (.var 28) (.lit 0)
def t2_9both : IE := .tri 2 (.tri 2 (.tri 2 (.tri 2 (.tri 2 (.tri 2 (.tri 2 (.tri 2 (.tri 2 (.tri 2 (.var 19) (.var 19) (.lit 0)) (.var 20) (.lit 0)) (.var 21) (.lit 0)) (.var 22) (.lit 0)) (.var 23) (.lit 0)) (.var 24) (.lit 0)) (.var 25) (.lit 0)) (.var 26) (.lit 0)) (.var 27) (.lit 0)) (.var 28) (.lit 0)
theorem run_9both (ρ : Nat → Int) (aR aS : Addr) (b1 b2 c1 c2 : Bool) (h : (b1 && b2) = (c1 && c2)) : runE ρ aR aS (L_fit p1_9both p2_9both t1_9both t2_9both b1 b2 c1 c2 ++ L_9both) (U_op 9 ++ X_9both) [(24, xP 9, r_fit p1_9both p2_9both (b1 && b2)), (8, xP 9, r_fit t1_9both t2_9both (c1 && c2))] := by
  unfold runE
  cases b1 <;> cases b2 <;> cases c1 <;> cases c2 <;> first | (exact absurd h (by decide)) | kernel_rfl
theorem div_both (aR aS : Addr) {al ah bl bh lo hi wd k rk rl rh wd2 : Int} (hR : ResV aR aS 9 k rk 0) (hK : KdV aR aS k lo hi wd) (hR2 : KdV aR aS rk rl rh wd2) (b0 : -2147483648 ≤ lo) (b1 : hi ≤ 4294967295) (_ : lo = 0 ∨ (lo = -hi - 1 ∧ hi ≤ 2147483647)) (_ : wd ≤ 32) (a0 : lo ≤ al) (a1 : al ≤ ah) (a2 : ah ≤ hi) (c0 : lo ≤ bl) (c1 : bl ≤ bh) (c2 : bh ≤ hi) (er : rl = lo) (eh : rh = hi) (h : (bl < 0 ∧ 1 ≤ bh)) : ∃ sl sh, ApD aR aS 9 k al ah bl bh sl sh := by
  obtain ⟨h1, h2⟩ := h
  refine apd_fit (m := mL [(al / bl), (al / (-1)), (ah / bl), (ah / (-1)), (al / (1)), (al / bh), (ah / (1)), (ah / bh), (al / bl), (al / (-1)), (al / (0)), (al / (1)), (al / bh), (ah / bl), (ah / (-1)), (ah / (0)), (ah / (1)), (ah / bh)]) (Lx := L_9both) (X := X_9both) hR hK hR2 (fun f hf => ?_) (fun L u hu => ?_) (run_9both _ aR aS) (by show (triI 3 (triI 3 (0) (triI 3 (triI 3 (triI 3 (al / bl) (al / (-1)) 0) (ah / bl) 0) (ah / (-1)) 0) 0) (triI 3 (triI 3 (triI 3 (al / (1)) (al / bh) 0) (ah / (1)) 0) (ah / bh) 0) 0) = (min (min (0) (min (min (min (al / bl) (al / (-1))) (ah / bl)) (ah / (-1)))) (min (min (min (al / (1)) (al / bh)) (ah / (1))) (ah / bh))); simp only [tri_3]) (by show (triI 2 (triI 2 (0) (triI 2 (triI 2 (triI 2 (al / bl) (al / (-1)) 0) (ah / bl) 0) (ah / (-1)) 0) 0) (triI 2 (triI 2 (triI 2 (al / (1)) (al / bh) 0) (ah / (1)) 0) (ah / bh) 0) 0) = (max (max (0) (max (max (max (al / bl) (al / (-1))) (ah / bl)) (ah / (-1)))) (max (max (max (al / (1)) (al / bh)) (ah / (1))) (ah / bh))); simp only [tri_2]) (by show (triI 3 (triI 3 (triI 3 (triI 3 (triI 3 (triI 3 (triI 3 (triI 3 (triI 3 (triI 3 (al / bl) (al / bl) 0) (al / (-1)) 0) (al / (0)) 0) (al / (1)) 0) (al / bh) 0) (ah / bl) 0) (ah / (-1)) 0) (ah / (0)) 0) (ah / (1)) 0) (ah / bh) 0) = (min (min (min (min (min (min (min (min (min (min (al / bl) (al / bl)) (al / (-1))) (al / (0))) (al / (1))) (al / bh)) (ah / bl)) (ah / (-1))) (ah / (0))) (ah / (1))) (ah / bh)); simp only [tri_3]) (by show (triI 2 (triI 2 (triI 2 (triI 2 (triI 2 (triI 2 (triI 2 (triI 2 (triI 2 (triI 2 (al / bl) (al / bl) 0) (al / (-1)) 0) (al / (0)) 0) (al / (1)) 0) (al / bh) 0) (ah / bl) 0) (ah / (-1)) 0) (ah / (0)) 0) (ah / (1)) 0) (ah / bh) 0) = (max (max (max (max (max (max (max (max (max (max (al / bl) (al / bl)) (al / (-1))) (al / (0))) (al / (1))) (al / bh)) (ah / bl)) (ah / (-1))) (ah / (0))) (ah / (1))) (ah / bh)); simp only [tri_2]) ?_ ?_
  · simp only [L_9both, List.mem_cons, List.not_mem_nil, or_false] at hf
    rcases hf with rfl | rfl | rfl | rfl | rfl | rfl | rfl | rfl | rfl | rfl | rfl
    · exact ⟨rfl, by simp (disch := omega) only [IE.ev, rm_2, cmpI_leq, decide_eq_true_eq]; omega⟩
    · exact ⟨rfl, by simp (disch := omega) only [IE.ev, rm_3, cmpI_leq, decide_eq_true_eq]; omega⟩
    · exact ⟨rfl, by simp (disch := omega) only [IE.ev, rm_2, rm_3, tri_2, tri_3, cmpI_gtr, decide_eq_false_iff_not, gt_iff_lt]; omega⟩
    · exact ⟨rfl, by simp (disch := omega) only [IE.ev, rm_2, rm_3, tri_2, tri_3, cmpI_gtr, decide_eq_false_iff_not, gt_iff_lt]; omega⟩
    · exact ⟨rfl, by simp (disch := omega) only [IE.ev, rm_2, rm_3, cmpI_leq, decide_eq_true_eq]; omega⟩
    · exact ⟨rfl, by simp (disch := omega) only [IE.ev, rm_2, cmpI_geq, decide_eq_true_eq, ge_iff_le]; omega⟩
    · exact ⟨rfl, by simp (disch := omega) only [IE.ev, rm_3, cmpI_leq, decide_eq_true_eq]; omega⟩
    · exact ⟨rfl, by simp (disch := omega) only [IE.ev, rm_2, cmpI_geq, decide_eq_true_eq, ge_iff_le]; omega⟩
    · exact ⟨rfl, by simp (disch := omega) only [IE.ev, rm_2, cmpI_geq, decide_eq_true_eq, ge_iff_le]; omega⟩
    · exact ⟨rfl, by simp (disch := omega) only [IE.ev, rm_3, cmpI_leq, decide_eq_true_eq]; omega⟩
    · exact ⟨rfl, by simp (disch := omega) only [IE.ev, rm_2, rm_3, cmpI_geq, decide_eq_true_eq, ge_iff_le]; omega⟩
  · simp only [X_9both, List.mem_cons, List.not_mem_nil, or_false] at hu
    rcases hu with rfl | rfl | rfl | rfl | rfl | rfl | rfl | rfl | rfl | rfl | rfl | rfl | rfl | rfl | rfl | rfl | rfl | rfl
    · exact tell2 (z := (al / bl)) (by show Fn2 _ _ _ al (triI 2 bl (-9223372036854775808) 0) _; rw [show (triI 2 bl (-9223372036854775808) 0) = bl by simp only [tri_2]; omega]; exact qu_ok aR aS (x := al) (y := bl) (by omega) (by omega) (by omega)) rfl rfl 11 rfl
    · exact tell2 (z := (al / (-1))) (by show Fn2 _ _ _ al (triI 3 bh (-1) 0) _; rw [show (triI 3 bh (-1) 0) = (-1) by simp only [tri_3]; omega]; exact qu_ok aR aS (x := al) (y := (-1)) (by omega) (by omega) (by omega)) rfl rfl 12 rfl
    · exact tell2 (z := (ah / bl)) (by show Fn2 _ _ _ ah (triI 2 bl (-9223372036854775808) 0) _; rw [show (triI 2 bl (-9223372036854775808) 0) = bl by simp only [tri_2]; omega]; exact qu_ok aR aS (x := ah) (y := bl) (by omega) (by omega) (by omega)) rfl rfl 13 rfl
    · exact tell2 (z := (ah / (-1))) (by show Fn2 _ _ _ ah (triI 3 bh (-1) 0) _; rw [show (triI 3 bh (-1) 0) = (-1) by simp only [tri_3]; omega]; exact qu_ok aR aS (x := ah) (y := (-1)) (by omega) (by omega) (by omega)) rfl rfl 14 rfl
    · exact tell2 (z := (al / (1))) (by show Fn2 _ _ _ al (triI 2 bl (1) 0) _; rw [show (triI 2 bl (1) 0) = (1) by simp only [tri_2]; omega]; exact qu_ok aR aS (x := al) (y := (1)) (by omega) (by omega) (by omega)) rfl rfl 15 rfl
    · exact tell2 (z := (al / bh)) (by show Fn2 _ _ _ al (triI 3 bh (9223372036854775807) 0) _; rw [show (triI 3 bh (9223372036854775807) 0) = bh by simp only [tri_3]; omega]; exact qu_ok aR aS (x := al) (y := bh) (by omega) (by omega) (by omega)) rfl rfl 16 rfl
    · exact tell2 (z := (ah / (1))) (by show Fn2 _ _ _ ah (triI 2 bl (1) 0) _; rw [show (triI 2 bl (1) 0) = (1) by simp only [tri_2]; omega]; exact qu_ok aR aS (x := ah) (y := (1)) (by omega) (by omega) (by omega)) rfl rfl 17 rfl
    · exact tell2 (z := (ah / bh)) (by show Fn2 _ _ _ ah (triI 3 bh (9223372036854775807) 0) _; rw [show (triI 3 bh (9223372036854775807) 0) = bh by simp only [tri_3]; omega]; exact qu_ok aR aS (x := ah) (y := bh) (by omega) (by omega) (by omega)) rfl rfl 18 rfl
    · exact tell2 (z := (al / bl)) (rq_ok aR aS (x := al) (y := bl) (by omega) (by omega) (by omega) (by omega)) rfl rfl 19 rfl
    · exact tell2 (z := (al / (-1))) (rq_ok aR aS (x := al) (y := (-1)) (by omega) (by omega) (by omega) (by omega)) rfl rfl 20 rfl
    · exact tell2 (z := (al / (0))) (rq_ok aR aS (x := al) (y := (0)) (by omega) (by omega) (by omega) (by omega)) rfl rfl 21 rfl
    · exact tell2 (z := (al / (1))) (rq_ok aR aS (x := al) (y := (1)) (by omega) (by omega) (by omega) (by omega)) rfl rfl 22 rfl
    · exact tell2 (z := (al / bh)) (rq_ok aR aS (x := al) (y := bh) (by omega) (by omega) (by omega) (by omega)) rfl rfl 23 rfl
    · exact tell2 (z := (ah / bl)) (rq_ok aR aS (x := ah) (y := bl) (by omega) (by omega) (by omega) (by omega)) rfl rfl 24 rfl
    · exact tell2 (z := (ah / (-1))) (rq_ok aR aS (x := ah) (y := (-1)) (by omega) (by omega) (by omega) (by omega)) rfl rfl 25 rfl
    · exact tell2 (z := (ah / (0))) (rq_ok aR aS (x := ah) (y := (0)) (by omega) (by omega) (by omega) (by omega)) rfl rfl 26 rfl
    · exact tell2 (z := (ah / (1))) (rq_ok aR aS (x := ah) (y := (1)) (by omega) (by omega) (by omega) (by omega)) rfl rfl 27 rfl
    · exact tell2 (z := (ah / bh)) (rq_ok aR aS (x := ah) (y := bh) (by omega) (by omega) (by omega) (by omega)) rfl rfl 28 rfl
  · exact (fit_same (rl := rl) (rh := rh) (P1 := (min (min (0) (min (min (min (al / bl) (al / (-1))) (ah / bl)) (ah / (-1)))) (min (min (min (al / (1)) (al / bh)) (ah / (1))) (ah / bh)))) (T1 := (min (min (min (min (min (min (min (min (min (min (al / bl) (al / bl)) (al / (-1))) (al / (0))) (al / (1))) (al / bh)) (ah / bl)) (ah / (-1))) (ah / (0))) (ah / (1))) (ah / bh))) (P2 := (max (max (0) (max (max (max (al / bl) (al / (-1))) (ah / bl)) (ah / (-1)))) (max (max (max (al / (1)) (al / bh)) (ah / (1))) (ah / bh)))) (T2 := (max (max (max (max (max (max (max (max (max (max (al / bl) (al / bl)) (al / (-1))) (al / (0))) (al / (1))) (al / bh)) (ah / bl)) (ah / (-1))) (ah / (0))) (ah / (1))) (ah / bh))) (by (try simp only [Int.ediv_zero]); ac_rfl) (by (try simp only [Int.ediv_zero]); ac_rfl)).1
  · exact (fit_same (rl := rl) (rh := rh) (P1 := (min (min (0) (min (min (min (al / bl) (al / (-1))) (ah / bl)) (ah / (-1)))) (min (min (min (al / (1)) (al / bh)) (ah / (1))) (ah / bh)))) (T1 := (min (min (min (min (min (min (min (min (min (min (al / bl) (al / bl)) (al / (-1))) (al / (0))) (al / (1))) (al / bh)) (ah / bl)) (ah / (-1))) (ah / (0))) (ah / (1))) (ah / bh))) (P2 := (max (max (0) (max (max (max (al / bl) (al / (-1))) (ah / bl)) (ah / (-1)))) (max (max (max (al / (1)) (al / bh)) (ah / (1))) (ah / bh)))) (T2 := (max (max (max (max (max (max (max (max (max (max (al / bl) (al / bl)) (al / (-1))) (al / (0))) (al / (1))) (al / bh)) (ah / bl)) (ah / (-1))) (ah / (0))) (ah / (1))) (ah / bh))) (by (try simp only [Int.ediv_zero]); ac_rfl) (by (try simp only [Int.ediv_zero]); ac_rfl)).2
end
end Go.Proofs.YtgecchiocfkpkaaGreatDoor

namespace Go.Proofs.YtgecchiocfkpkaaGreatDoor
noncomputable section
open Go Go.RX
open Go.RowKit (Below)
set_option maxRecDepth 1000000
set_option maxHeartbeats 4000000
def X_9zz : List SEntry := [(61, [.sym (.int .i64 (.var 0)), .sym (.int .i64 (.var 2))], sy 11), (61, [.sym (.int .i64 (.var 0)), .v (.int .i64 0)], sy 12), (61, [.sym (.int .i64 (.var 0)), .sym (.int .i64 (.var 3))], sy 13), (61, [.sym (.int .i64 (.var 1)), .sym (.int .i64 (.var 2))], sy 14), (61, [.sym (.int .i64 (.var 1)), .v (.int .i64 0)], sy 15), (61, [.sym (.int .i64 (.var 1)), .sym (.int .i64 (.var 3))], sy 16)]
def L_9zz : List CF := [⟨.leq, (.var 2), (.lit 0), true⟩, ⟨.leq, (.lit 0), (.var 3), true⟩, ⟨.gtr, (.tri 2 (.var 2) (.lit (-9223372036854775808)) (.lit 0)), (.tri 3 (.var 3) (.lit (-1)) (.lit 0)), true⟩, ⟨.gtr, (.tri 2 (.var 2) (.lit 1) (.lit 0)), (.tri 3 (.var 3) (.lit 9223372036854775807) (.lit 0)), true⟩, ⟨.leq, (.var 2), (.var 3), true⟩, ⟨.geq, (.lit (-1)), (.var 2), false⟩, ⟨.geq, (.lit 0), (.var 2), true⟩, ⟨.geq, (.lit 1), (.var 2), true⟩, ⟨.leq, (.lit 1), (.var 3), false⟩, ⟨.geq, (.var 3), (.var 2), true⟩, ⟨.leq, (.var 9), (.lit 0), true⟩, ⟨.leq, (.lit 0), (.var 10), true⟩, ⟨.geq, (.tri 3 (.tri 3 (.tri 3 (.tri 3 (.tri 3 (.tri 3 (.var 11) (.var 11) (.lit 0)) (.var 12) (.lit 0)) (.var 13) (.lit 0)) (.var 14) (.lit 0)) (.var 15) (.lit 0)) (.var 16) (.lit 0)), (.var 9), true⟩, ⟨.leq, (.tri 2 (.tri 2 (.tri 2 (.tri 2 (.tri 2 (.tri 2 (.var 11) (.var 11) (.lit 0)) (.var 12) (.lit 0)) (.var 13) (.lit 0)) (.var 14) (.lit 0)) (.var 15) (.lit 0)) (.var 16) (.lit 0)), (.var 10), true⟩]
theorem run_9zz (ρ : Nat → Int) (aR aS : Addr) : runE ρ aR aS L_9zz (U_op 9 ++ X_9zz) [(24, xP 9, .v (spV 0 0)), (8, xP 9, .agg [.sym (.int .i64 (.tri 3 (.tri 3 (.tri 3 (.tri 3 (.tri 3 (.tri 3 (.var 11) (.var 11) (.lit 0)) (.var 12) (.lit 0)) (.var 13) (.lit 0)) (.var 14) (.lit 0)) (.var 15) (.lit 0)) (.var 16) (.lit 0))), .sym (.int .i64 (.tri 2 (.tri 2 (.tri 2 (.tri 2 (.tri 2 (.tri 2 (.var 11) (.var 11) (.lit 0)) (.var 12) (.lit 0)) (.var 13) (.lit 0)) (.var 14) (.lit 0)) (.var 15) (.lit 0)) (.var 16) (.lit 0)))])] := by
  unfold runE
  kernel_rfl
theorem div_zz (aR aS : Addr) {al ah bl bh lo hi wd k rk rl rh wd2 : Int} (hR : ResV aR aS 9 k rk 0) (hK : KdV aR aS k lo hi wd) (hR2 : KdV aR aS rk rl rh wd2) (b0 : -2147483648 ≤ lo) (b1 : hi ≤ 4294967295) (_ : lo = 0 ∨ (lo = -hi - 1 ∧ hi ≤ 2147483647)) (_ : wd ≤ 32) (a0 : lo ≤ al) (a1 : al ≤ ah) (a2 : ah ≤ hi) (c0 : lo ≤ bl) (c1 : bl ≤ bh) (c2 : bh ≤ hi) (er : rl = lo) (eh : rh = hi) (h : (bl = 0 ∧ bh = 0)) : ∃ sl sh, ApD aR aS 9 k al ah bl bh sl sh := by
  obtain ⟨rfl, rfl⟩ := h
  have e1 : (triI 3 (triI 3 (triI 3 (triI 3 (triI 3 (triI 3 (al / 0) (al / 0) 0) (al / (0)) 0) (al / 0) 0) (ah / 0) 0) (ah / (0)) 0) (ah / 0) 0) = 0 := by simp only [tri_3, Int.ediv_zero, Int.min_self]
  have e2 : (triI 2 (triI 2 (triI 2 (triI 2 (triI 2 (triI 2 (al / 0) (al / 0) 0) (al / (0)) 0) (al / 0) 0) (ah / 0) 0) (ah / (0)) 0) (ah / 0) 0) = 0 := by simp only [tri_2, Int.ediv_zero, Int.max_self]
  refine apd_x (m := mL [(al / 0), (al / (0)), (al / 0), (ah / 0), (ah / (0)), (ah / 0)]) (X := X_9zz) (L := L_9zz) hR hK hR2 (fun f hf => ?_) (fun u hu => ?_) (run_9zz _ aR aS) rfl rfl (x := 0) (y := 0) (x' := (triI 3 (triI 3 (triI 3 (triI 3 (triI 3 (triI 3 (al / 0) (al / 0) 0) (al / (0)) 0) (al / 0) 0) (ah / 0) 0) (ah / (0)) 0) (ah / 0) 0)) (y' := (triI 2 (triI 2 (triI 2 (triI 2 (triI 2 (triI 2 (al / 0) (al / 0) 0) (al / (0)) 0) (al / 0) 0) (ah / 0) 0) (ah / (0)) 0) (ah / 0) 0)) rfl rfl e1.symm e2.symm
  · simp only [L_9zz, List.mem_cons, List.not_mem_nil, or_false] at hf
    rcases hf with rfl | rfl | rfl | rfl | rfl | rfl | rfl | rfl | rfl | rfl | rfl | rfl | rfl | rfl
    · exact ⟨rfl, by simp (disch := omega) only [IE.ev, rm_2, cmpI_leq, decide_eq_true_eq]; omega⟩
    · exact ⟨rfl, by simp (disch := omega) only [IE.ev, rm_3, cmpI_leq, decide_eq_true_eq]; omega⟩
    · exact ⟨rfl, by simp (disch := omega) only [IE.ev, rm_2, rm_3, tri_2, tri_3, cmpI_gtr, decide_eq_true_eq, gt_iff_lt]; omega⟩
    · exact ⟨rfl, by simp (disch := omega) only [IE.ev, rm_2, rm_3, tri_2, tri_3, cmpI_gtr, decide_eq_true_eq, gt_iff_lt]; omega⟩
    · exact ⟨rfl, by simp (disch := omega) only [IE.ev, rm_2, rm_3, cmpI_leq, decide_eq_true_eq]; omega⟩
    · exact ⟨rfl, by simp (disch := omega) only [IE.ev, rm_2, cmpI_geq, decide_eq_false_iff_not, ge_iff_le]; omega⟩
    · exact ⟨rfl, by simp (disch := omega) only [IE.ev, rm_2, cmpI_geq, decide_eq_true_eq, ge_iff_le]; omega⟩
    · exact ⟨rfl, by simp (disch := omega) only [IE.ev, rm_2, cmpI_geq, decide_eq_true_eq, ge_iff_le]; omega⟩
    · exact ⟨rfl, by simp (disch := omega) only [IE.ev, rm_3, cmpI_leq, decide_eq_false_iff_not]; omega⟩
    · exact ⟨rfl, by simp (disch := omega) only [IE.ev, rm_2, rm_3, cmpI_geq, decide_eq_true_eq, ge_iff_le]; omega⟩
    · exact ⟨rfl, decide_eq_true (show rl ≤ 0 by omega)⟩
    · exact ⟨rfl, decide_eq_true (show 0 ≤ rh by omega)⟩
    · exact ⟨rfl, decide_eq_true (show (triI 3 (triI 3 (triI 3 (triI 3 (triI 3 (triI 3 (al / 0) (al / 0) 0) (al / (0)) 0) (al / 0) 0) (ah / 0) 0) (ah / (0)) 0) (ah / 0) 0) ≥ rl by rw [e1]; omega)⟩
    · exact ⟨rfl, decide_eq_true (show (triI 2 (triI 2 (triI 2 (triI 2 (triI 2 (triI 2 (al / 0) (al / 0) 0) (al / (0)) 0) (al / 0) 0) (ah / 0) 0) (ah / (0)) 0) (ah / 0) 0) ≤ rh by rw [e2]; omega)⟩
  · simp only [X_9zz, List.mem_cons, List.not_mem_nil, or_false] at hu
    rcases hu with rfl | rfl | rfl | rfl | rfl | rfl
    · exact tell2 (z := (al / 0)) (rq_ok aR aS (x := al) (y := 0) (by omega) (by omega) (by omega) (by omega)) rfl rfl 11 rfl
    · exact tell2 (z := (al / (0))) (rq_ok aR aS (x := al) (y := (0)) (by omega) (by omega) (by omega) (by omega)) rfl rfl 12 rfl
    · exact tell2 (z := (al / 0)) (rq_ok aR aS (x := al) (y := 0) (by omega) (by omega) (by omega) (by omega)) rfl rfl 13 rfl
    · exact tell2 (z := (ah / 0)) (rq_ok aR aS (x := ah) (y := 0) (by omega) (by omega) (by omega) (by omega)) rfl rfl 14 rfl
    · exact tell2 (z := (ah / (0))) (rq_ok aR aS (x := ah) (y := (0)) (by omega) (by omega) (by omega) (by omega)) rfl rfl 15 rfl
    · exact tell2 (z := (ah / 0)) (rq_ok aR aS (x := ah) (y := 0) (by omega) (by omega) (by omega) (by omega)) rfl rfl 16 rfl
end
end Go.Proofs.YtgecchiocfkpkaaGreatDoor
