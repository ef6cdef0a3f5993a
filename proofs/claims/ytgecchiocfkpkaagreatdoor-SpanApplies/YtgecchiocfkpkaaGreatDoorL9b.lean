import Derived.Test.YtgecchiocfkpkaaGreatDoorLL
import Derived.Test.YtgecchiocfkpkaaGreatDoorL9a
namespace Go.Proofs.YtgecchiocfkpkaaGreatDoor
noncomputable section
open Go Go.RX
open Go.RowKit (Below)
set_option maxRecDepth 1000000
set_option maxHeartbeats 4000000
def X_9zp : List SEntry := [(74, [.sym (.int .i64 (.var 0)), .sym (.int .i64 (.tri 2 (.var 2) (.lit 1) (.lit 0)))], sy 11), (74, [.sym (.int .i64 (.var 0)), .sym (.int .i64 (.tri 3 (.var 3) (.lit 9223372036854775807) (.lit 0)))], sy 12), (74, [.sym (.int .i64 (.var 1)), .sym (.int .i64 (.tri 2 (.var 2) (.lit 1) (.lit 0)))], sy 13), (74, [.sym (.int .i64 (.var 1)), .sym (.int .i64 (.tri 3 (.var 3) (.lit 9223372036854775807) (.lit 0)))], sy 14), (61, [.sym (.int .i64 (.var 0)), .sym (.int .i64 (.var 2))], sy 15), (61, [.sym (.int .i64 (.var 0)), .v (.int .i64 0)], sy 16), (61, [.sym (.int .i64 (.var 0)), .v (.int .i64 1)], sy 17), (61, [.sym (.int .i64 (.var 0)), .sym (.int .i64 (.var 3))], sy 18), (61, [.sym (.int .i64 (.var 1)), .sym (.int .i64 (.var 2))], sy 19), (61, [.sym (.int .i64 (.var 1)), .v (.int .i64 0)], sy 20), (61, [.sym (.int .i64 (.var 1)), .v (.int .i64 1)], sy 21), (61, [.sym (.int .i64 (.var 1)), .sym (.int .i64 (.var 3))], sy 22)]
def L_9zp : List CF := [⟨.leq, (.var 2), (.lit 0), true⟩, ⟨.leq, (.lit 0), (.var 3), true⟩, ⟨.gtr, (.tri 2 (.var 2) (.lit (-9223372036854775808)) (.lit 0)), (.tri 3 (.var 3) (.lit (-1)) (.lit 0)), true⟩, ⟨.gtr, (.tri 2 (.var 2) (.lit 1) (.lit 0)), (.tri 3 (.var 3) (.lit 9223372036854775807) (.lit 0)), false⟩, ⟨.leq, (.var 2), (.var 3), true⟩, ⟨.geq, (.lit (-1)), (.var 2), false⟩, ⟨.geq, (.lit 0), (.var 2), true⟩, ⟨.geq, (.lit 1), (.var 2), true⟩, ⟨.leq, (.lit 1), (.var 3), true⟩, ⟨.geq, (.var 3), (.var 2), true⟩]
def p1_9zp : IE := .tri 3 (.lit 0) (.tri 3 (.tri 3 (.tri 3 (.var 11) (.var 12) (.lit 0)) (.var 13) (.lit 0)) (.var 14) (.lit 0)) (.lit 0)
def p2_9zp : IE := .tri 2 (.lit 0) (.tri 2 (.tri 2 (.tri 2 (.var 11) (.var 12) (.lit 0)) (.var 13) (.lit 0)) (.var 14) (.lit 0)) (.lit 0)
def t1_9zp : IE := .tri 3 (.tri 3 (.tri 3 (.tri 3 (.tri 3 (.tri 3 (.tri 3 (.tri 3 (.var 15) (.var 15) (.lit 0)) (.var 16) (.lit 0)) (.var 17) (.lit 0)) (.var 18) (.lit 0)) (.var 19) (.lit 0)) (.var 20) (.lit 0)) (.var 21) (.lit 0)) (.var 22) (.lit 0)
def t2_9zp : IE := .tri 2 (.tri 2 (.tri 2 (.tri 2 (.tri 2 (.tri 2 (.tri 2 (.tri 2 (.var 15) (.var 15) (.lit 0)) (.var 16) (.lit 0)) (.var 17) (.lit 0)) (.var 18) (.lit 0)) (.var 19) (.lit 0)) (.var 20) (.lit 0)) (.var 21) (.lit 0)) (.var 22) (.lit 0)
theorem run_9zp (ρ : Nat → Int) (aR aS : Addr) (b1 b2 c1 c2 : Bool) (h : (b1 && b2) = (c1 && c2)) : runE ρ aR aS (L_fit p1_9zp p2_9zp t1_9zp t2_9zp b1 b2 c1 c2 ++ L_9zp) (U_op 9 ++ X_9zp) [(24, xP 9, r_fit p1_9zp p2_9zp (b1 && b2)), (8, xP 9, r_fit t1_9zp t2_9zp (c1 && c2))] := by
  unfold runE
  cases b1 <;> cases b2 <;> cases c1 <;> cases c2 <;> first | (exact absurd h (by decide)) | kernel_rfl
theorem div_zp (aR aS : Addr) {al ah bl bh lo hi wd k rk rl rh wd2 : Int} (hR : ResV aR aS 9 k rk 0) (hK : KdV aR aS k lo hi wd) (hR2 : KdV aR aS rk rl rh wd2) (b0 : -2147483648 ≤ lo) (b1 : hi ≤ 4294967295) (_ : lo = 0 ∨ (lo = -hi - 1 ∧ hi ≤ 2147483647)) (_ : wd ≤ 32) (a0 : lo ≤ al) (a1 : al ≤ ah) (a2 : ah ≤ hi) (c0 : lo ≤ bl) (c1 : bl ≤ bh) (c2 : bh ≤ hi) (er : rl = lo) (eh : rh = hi) (h : (bl = 0 ∧ 1 ≤ bh)) : ∃ sl sh, ApD aR aS 9 k al ah bl bh sl sh := by
  obtain ⟨h1, h2⟩ := h
  subst h1
  refine apd_fit (m := mL [(al / (1)), (al / bh), (ah / (1)), (ah / bh), (al / 0), (al / (0)), (al / (1)), (al / bh), (ah / 0), (ah / (0)), (ah / (1)), (ah / bh)]) (Lx := L_9zp) (X := X_9zp) hR hK hR2 (fun f hf => ?_) (fun L u hu => ?_) (run_9zp _ aR aS) (by show (triI 3 (0) (triI 3 (triI 3 (triI 3 (al / (1)) (al / bh) 0) (ah / (1)) 0) (ah / bh) 0) 0) = (min (0) (min (min (min (al / (1)) (al / bh)) (ah / (1))) (ah / bh))); simp only [tri_3]) (by show (triI 2 (0) (triI 2 (triI 2 (triI 2 (al / (1)) (al / bh) 0) (ah / (1)) 0) (ah / bh) 0) 0) = (max (0) (max (max (max (al / (1)) (al / bh)) (ah / (1))) (ah / bh))); simp only [tri_2]) (by show (triI 3 (triI 3 (triI 3 (triI 3 (triI 3 (triI 3 (triI 3 (triI 3 (al / 0) (al / 0) 0) (al / (0)) 0) (al / (1)) 0) (al / bh) 0) (ah / 0) 0) (ah / (0)) 0) (ah / (1)) 0) (ah / bh) 0) = (min (min (min (min (min (min (min (min (al / 0) (al / 0)) (al / (0))) (al / (1))) (al / bh)) (ah / 0)) (ah / (0))) (ah / (1))) (ah / bh)); simp only [tri_3]) (by show (triI 2 (triI 2 (triI 2 (triI 2 (triI 2 (triI 2 (triI 2 (triI 2 (al / 0) (al / 0) 0) (al / (0)) 0) (al / (1)) 0) (al / bh) 0) (ah / 0) 0) (ah / (0)) 0) (ah / (1)) 0) (ah / bh) 0) = (max (max (max (max (max (max (max (max (al / 0) (al / 0)) (al / (0))) (al / (1))) (al / bh)) (ah / 0)) (ah / (0))) (ah / (1))) (ah / bh)); simp only [tri_2]) ?_ ?_
  · simp only [L_9zp, List.mem_cons, List.not_mem_nil, or_false] at hf
    rcases hf with rfl | rfl | rfl | rfl | rfl | rfl | rfl | rfl | rfl | rfl
    · exact ⟨rfl, by simp (disch := omega) only [IE.ev, rm_2, cmpI_leq, decide_eq_true_eq]; omega⟩
    · exact ⟨rfl, by simp (disch := omega) only [IE.ev, rm_3, cmpI_leq, decide_eq_true_eq]; omega⟩
    · exact ⟨rfl, by simp (disch := omega) only [IE.ev, rm_2, rm_3, tri_2, tri_3, cmpI_gtr, decide_eq_true_eq, gt_iff_lt]; omega⟩
    · exact ⟨rfl, by simp (disch := omega) only [IE.ev, rm_2, rm_3, tri_2, tri_3, cmpI_gtr, decide_eq_false_iff_not, gt_iff_lt]; omega⟩
    · exact ⟨rfl, by simp (disch := omega) only [IE.ev, rm_2, rm_3, cmpI_leq, decide_eq_true_eq]; omega⟩
    · exact ⟨rfl, by simp (disch := omega) only [IE.ev, rm_2, cmpI_geq, decide_eq_false_iff_not, ge_iff_le]; omega⟩
    · exact ⟨rfl, by simp (disch := omega) only [IE.ev, rm_2, cmpI_geq, decide_eq_true_eq, ge_iff_le]; omega⟩
    · exact ⟨rfl, by simp (disch := omega) only [IE.ev, rm_2, cmpI_geq, decide_eq_true_eq, ge_iff_le]; omega⟩
    · exact ⟨rfl, by simp (disch := omega) only [IE.ev, rm_3, cmpI_leq, decide_eq_true_eq]; omega⟩
    · exact ⟨rfl, by simp (disch := omega) only [IE.ev, rm_2, rm_3, cmpI_geq, decide_eq_true_eq, ge_iff_le]; omega⟩
  · simp only [X_9zp, List.mem_cons, List.not_mem_nil, or_false] at hu
    rcases hu with rfl | rfl | rfl | rfl | rfl | rfl | rfl | rfl | rfl | rfl | rfl | rfl
    · exact tell2 (z := (al / (1))) (by show Fn2 _ _ _ al (triI 2 0 (1) 0) _; rw [show (triI 2 0 (1) 0) = (1) by simp only [tri_2]; omega]; exact qu_ok aR aS (x := al) (y := (1)) (by omega) (by omega) (by omega)) rfl rfl 11 rfl
    · exact tell2 (z := (al / bh)) (by show Fn2 _ _ _ al (triI 3 bh (9223372036854775807) 0) _; rw [show (triI 3 bh (9223372036854775807) 0) = bh by simp only [tri_3]; omega]; exact qu_ok aR aS (x := al) (y := bh) (by omega) (by omega) (by omega)) rfl rfl 12 rfl
    · exact tell2 (z := (ah / (1))) (by show Fn2 _ _ _ ah (triI 2 0 (1) 0) _; rw [show (triI 2 0 (1) 0) = (1) by simp only [tri_2]; omega]; exact qu_ok aR aS (x := ah) (y := (1)) (by omega) (by omega) (by omega)) rfl rfl 13 rfl
    · exact tell2 (z := (ah / bh)) (by show Fn2 _ _ _ ah (triI 3 bh (9223372036854775807) 0) _; rw [show (triI 3 bh (9223372036854775807) 0) = bh by simp only [tri_3]; omega]; exact qu_ok aR aS (x := ah) (y := bh) (by omega) (by omega) (by omega)) rfl rfl 14 rfl
    · exact tell2 (z := (al / 0)) (rq_ok aR aS (x := al) (y := 0) (by omega) (by omega) (by omega) (by omega)) rfl rfl 15 rfl
    · exact tell2 (z := (al / (0))) (rq_ok aR aS (x := al) (y := (0)) (by omega) (by omega) (by omega) (by omega)) rfl rfl 16 rfl
    · exact tell2 (z := (al / (1))) (rq_ok aR aS (x := al) (y := (1)) (by omega) (by omega) (by omega) (by omega)) rfl rfl 17 rfl
    · exact tell2 (z := (al / bh)) (rq_ok aR aS (x := al) (y := bh) (by omega) (by omega) (by omega) (by omega)) rfl rfl 18 rfl
    · exact tell2 (z := (ah / 0)) (rq_ok aR aS (x := ah) (y := 0) (by omega) (by omega) (by omega) (by omega)) rfl rfl 19 rfl
    · exact tell2 (z := (ah / (0))) (rq_ok aR aS (x := ah) (y := (0)) (by omega) (by omega) (by omega) (by omega)) rfl rfl 20 rfl
    · exact tell2 (z := (ah / (1))) (rq_ok aR aS (x := ah) (y := (1)) (by omega) (by omega) (by omega) (by omega)) rfl rfl 21 rfl
    · exact tell2 (z := (ah / bh)) (rq_ok aR aS (x := ah) (y := bh) (by omega) (by omega) (by omega) (by omega)) rfl rfl 22 rfl
  · exact (fit_same (rl := rl) (rh := rh) (P1 := (min (0) (min (min (min (al / (1)) (al / bh)) (ah / (1))) (ah / bh)))) (T1 := (min (min (min (min (min (min (min (min (al / 0) (al / 0)) (al / (0))) (al / (1))) (al / bh)) (ah / 0)) (ah / (0))) (ah / (1))) (ah / bh))) (P2 := (max (0) (max (max (max (al / (1)) (al / bh)) (ah / (1))) (ah / bh)))) (T2 := (max (max (max (max (max (max (max (max (al / 0) (al / 0)) (al / (0))) (al / (1))) (al / bh)) (ah / 0)) (ah / (0))) (ah / (1))) (ah / bh))) (by (try simp only [Int.ediv_zero]); ac_rfl) (by (try simp only [Int.ediv_zero]); ac_rfl)).1
  · exact (fit_same (rl := rl) (rh := rh) (P1 := (min (0) (min (min (min (al / (1)) (al / bh)) (ah / (1))) (ah / bh)))) (T1 := (min (min (min (min (min (min (min (min (al / 0) (al / 0)) (al / (0))) (al / (1))) (al / bh)) (ah / 0)) (ah / (0))) (ah / (1))) (ah / bh))) (P2 := (max (0) (max (max (max (al / (1)) (al / bh)) (ah / (1))) (ah / bh)))) (T2 := (max (max (max (max (max (max (max (max (al / 0) (al / 0)) (al / (0))) (al / (1))) (al / bh)) (ah / 0)) (ah / (0))) (ah / (1))) (ah / bh))) (by (try simp only [Int.ediv_zero]); ac_rfl) (by (try simp only [Int.ediv_zero]); ac_rfl)).2
end
end Go.Proofs.YtgecchiocfkpkaaGreatDoor

namespace Go.Proofs.YtgecchiocfkpkaaGreatDoor
noncomputable section
open Go Go.RX
open Go.RowKit (Below)
set_option maxRecDepth 1000000
set_option maxHeartbeats 4000000
def X_9one : List SEntry := [(74, [.sym (.int .i64 (.var 0)), .sym (.int .i64 (.tri 2 (.var 2) (.lit 1) (.lit 0)))], sy 11), (74, [.sym (.int .i64 (.var 0)), .sym (.int .i64 (.tri 3 (.var 3) (.lit 9223372036854775807) (.lit 0)))], sy 12), (74, [.sym (.int .i64 (.var 1)), .sym (.int .i64 (.tri 2 (.var 2) (.lit 1) (.lit 0)))], sy 13), (74, [.sym (.int .i64 (.var 1)), .sym (.int .i64 (.tri 3 (.var 3) (.lit 9223372036854775807) (.lit 0)))], sy 14), (61, [.sym (.int .i64 (.var 0)), .sym (.int .i64 (.var 2))], sy 15), (61, [.sym (.int .i64 (.var 0)), .v (.int .i64 1)], sy 16), (61, [.sym (.int .i64 (.var 0)), .sym (.int .i64 (.var 3))], sy 17), (61, [.sym (.int .i64 (.var 1)), .sym (.int .i64 (.var 2))], sy 18), (61, [.sym (.int .i64 (.var 1)), .v (.int .i64 1)], sy 19), (61, [.sym (.int .i64 (.var 1)), .sym (.int .i64 (.var 3))], sy 20)]
def L_9one : List CF := [⟨.leq, (.var 2), (.lit 0), false⟩, ⟨.gtr, (.tri 2 (.var 2) (.lit (-9223372036854775808)) (.lit 0)), (.tri 3 (.var 3) (.lit (-1)) (.lit 0)), true⟩, ⟨.gtr, (.tri 2 (.var 2) (.lit 1) (.lit 0)), (.tri 3 (.var 3) (.lit 9223372036854775807) (.lit 0)), false⟩, ⟨.leq, (.var 2), (.var 3), true⟩, ⟨.geq, (.lit (-1)), (.var 2), false⟩, ⟨.geq, (.lit 0), (.var 2), false⟩, ⟨.geq, (.lit 1), (.var 2), true⟩, ⟨.leq, (.lit 1), (.var 3), true⟩, ⟨.geq, (.var 3), (.var 2), true⟩]
def p1_9one : IE := .tri 3 (.tri 3 (.tri 3 (.var 11) (.var 12) (.lit 0)) (.var 13) (.lit 0)) (.var 14) (.lit 0)
def p2_9one : IE := .tri 2 (.tri 2 (.tri 2 (.var 11) (.var 12) (.lit 0)) (.var 13) (.lit 0)) (.var 14) (.lit 0)
def t1_9one : IE := .tri 3 (.tri 3 (.tri 3 (.tri 3 (.tri 3 (.tri 3 (.var 15) (.var 15) (.lit 0)) (.var 16) (.lit 0)) (.var 17) (.lit 0)) (.var 18) (.lit 0)) (.var 19) (.lit 0)) (.var 20) (.lit 0)
def t2_9one : IE := .tri 2 (.tri 2 (.tri 2 (.tri 2 (.tri 2 (.tri 2 (.var 15) (.var 15) (.lit 0)) (.var 16) (.lit 0)) (.var 17) (.lit 0)) (.var 18) (.lit 0)) (.var 19) (.lit 0)) (.var 20) (.lit 0)
theorem run_9one (ρ : Nat → Int) (aR aS : Addr) (b1 b2 c1 c2 : Bool) (h : (b1 && b2) = (c1 && c2)) : runE ρ aR aS (L_fit p1_9one p2_9one t1_9one t2_9one b1 b2 c1 c2 ++ L_9one) (U_op 9 ++ X_9one) [(24, xP 9, r_fit p1_9one p2_9one (b1 && b2)), (8, xP 9, r_fit t1_9one t2_9one (c1 && c2))] := by
  unfold runE
  cases b1 <;> cases b2 <;> cases c1 <;> cases c2 <;> first | (exact absurd h (by decide)) | kernel_rfl
theorem div_one (aR aS : Addr) {al ah bl bh lo hi wd k rk rl rh wd2 : Int} (hR : ResV aR aS 9 k rk 0) (hK : KdV aR aS k lo hi wd) (hR2 : KdV aR aS rk rl rh wd2) (b0 : -2147483648 ≤ lo) (b1 : hi ≤ 4294967295) (_ : lo = 0 ∨ (lo = -hi - 1 ∧ hi ≤ 2147483647)) (_ : wd ≤ 32) (a0 : lo ≤ al) (a1 : al ≤ ah) (a2 : ah ≤ hi) (c0 : lo ≤ bl) (c1 : bl ≤ bh) (c2 : bh ≤ hi) (er : rl = lo) (eh : rh = hi) (h : (bl = 1 ∧ 1 ≤ bh)) : ∃ sl sh, ApD aR aS 9 k al ah bl bh sl sh := by
  obtain ⟨h1, h2⟩ := h
  subst h1
  refine apd_fit (m := mL [(al / 1), (al / bh), (ah / 1), (ah / bh), (al / 1), (al / (1)), (al / bh), (ah / 1), (ah / (1)), (ah / bh)]) (Lx := L_9one) (X := X_9one) hR hK hR2 (fun f hf => ?_) (fun L u hu => ?_) (run_9one _ aR aS) (by show (triI 3 (triI 3 (triI 3 (al / 1) (al / bh) 0) (ah / 1) 0) (ah / bh) 0) = (min (min (min (al / 1) (al / bh)) (ah / 1)) (ah / bh)); simp only [tri_3]) (by show (triI 2 (triI 2 (triI 2 (al / 1) (al / bh) 0) (ah / 1) 0) (ah / bh) 0) = (max (max (max (al / 1) (al / bh)) (ah / 1)) (ah / bh)); simp only [tri_2]) (by show (triI 3 (triI 3 (triI 3 (triI 3 (triI 3 (triI 3 (al / 1) (al / 1) 0) (al / (1)) 0) (al / bh) 0) (ah / 1) 0) (ah / (1)) 0) (ah / bh) 0) = (min (min (min (min (min (min (al / 1) (al / 1)) (al / (1))) (al / bh)) (ah / 1)) (ah / (1))) (ah / bh)); simp only [tri_3]) (by show (triI 2 (triI 2 (triI 2 (triI 2 (triI 2 (triI 2 (al / 1) (al / 1) 0) (al / (1)) 0) (al / bh) 0) (ah / 1) 0) (ah / (1)) 0) (ah / bh) 0) = (max (max (max (max (max (max (al / 1) (al / 1)) (al / (1))) (al / bh)) (ah / 1)) (ah / (1))) (ah / bh)); simp only [tri_2]) ?_ ?_
  · simp only [L_9one, List.mem_cons, List.not_mem_nil, or_false] at hf
    rcases hf with rfl | rfl | rfl | rfl | rfl | rfl | rfl | rfl | rfl
    · exact ⟨rfl, by simp (disch := omega) only [IE.ev, rm_2, cmpI_leq, decide_eq_false_iff_not]; omega⟩
    · exact ⟨rfl, by simp (disch := omega) only [IE.ev, rm_2, rm_3, tri_2, tri_3, cmpI_gtr, decide_eq_true_eq, gt_iff_lt]; omega⟩
    · exact ⟨rfl, by simp (disch := omega) only [IE.ev, rm_2, rm_3, tri_2, tri_3, cmpI_gtr, decide_eq_false_iff_not, gt_iff_lt]; omega⟩
    · exact ⟨rfl, by simp (disch := omega) only [IE.ev, rm_2, rm_3, cmpI_leq, decide_eq_true_eq]; omega⟩
    · exact ⟨rfl, by simp (disch := omega) only [IE.ev, rm_2, cmpI_geq, decide_eq_false_iff_not, ge_iff_le]; omega⟩
    · exact ⟨rfl, by simp (disch := omega) only [IE.ev, rm_2, cmpI_geq, decide_eq_false_iff_not, ge_iff_le]; omega⟩
    · exact ⟨rfl, by simp (disch := omega) only [IE.ev, rm_2, cmpI_geq, decide_eq_true_eq, ge_iff_le]; omega⟩
    · exact ⟨rfl, by simp (disch := omega) only [IE.ev, rm_3, cmpI_leq, decide_eq_true_eq]; omega⟩
    · exact ⟨rfl, by simp (disch := omega) only [IE.ev, rm_2, rm_3, cmpI_geq, decide_eq_true_eq, ge_iff_le]; omega⟩
  · simp only [X_9one, List.mem_cons, List.not_mem_nil, or_false] at hu
    rcases hu with rfl | rfl | rfl | rfl | rfl | rfl | rfl | rfl | rfl | rfl
    · exact tell2 (z := (al / 1)) (by show Fn2 _ _ _ al (triI 2 1 (1) 0) _; rw [show (triI 2 1 (1) 0) = 1 by simp only [tri_2]; omega]; exact qu_ok aR aS (x := al) (y := 1) (by omega) (by omega) (by omega)) rfl rfl 11 rfl
    · exact tell2 (z := (al / bh)) (by show Fn2 _ _ _ al (triI 3 bh (9223372036854775807) 0) _; rw [show (triI 3 bh (9223372036854775807) 0) = bh by simp only [tri_3]; omega]; exact qu_ok aR aS (x := al) (y := bh) (by omega) (by omega) (by omega)) rfl rfl 12 rfl
    · exact tell2 (z := (ah / 1)) (by show Fn2 _ _ _ ah (triI 2 1 (1) 0) _; rw [show (triI 2 1 (1) 0) = 1 by simp only [tri_2]; omega]; exact qu_ok aR aS (x := ah) (y := 1) (by omega) (by omega) (by omega)) rfl rfl 13 rfl
    · exact tell2 (z := (ah / bh)) (by show Fn2 _ _ _ ah (triI 3 bh (9223372036854775807) 0) _; rw [show (triI 3 bh (9223372036854775807) 0) = bh by simp only [tri_3]; omega]; exact qu_ok aR aS (x := ah) (y := bh) (by omega) (by omega) (by omega)) rfl rfl 14 rfl
    · exact tell2 (z := (al / 1)) (rq_ok aR aS (x := al) (y := 1) (by omega) (by omega) (by omega) (by omega)) rfl rfl 15 rfl
    · exact tell2 (z := (al / (1))) (rq_ok aR aS (x := al) (y := (1)) (by omega) (by omega) (by omega) (by omega)) rfl rfl 16 rfl
    · exact tell2 (z := (al / bh)) (rq_ok aR aS (x := al) (y := bh) (by omega) (by omega) (by omega) (by omega)) rfl rfl 17 rfl
    · exact tell2 (z := (ah / 1)) (rq_ok aR aS (x := ah) (y := 1) (by omega) (by omega) (by omega) (by omega)) rfl rfl 18 rfl
    · exact tell2 (z := (ah / (1))) (rq_ok aR aS (x := ah) (y := (1)) (by omega) (by omega) (by omega) (by omega)) rfl rfl 19 rfl
    · exact tell2 (z := (ah / bh)) (rq_ok aR aS (x := ah) (y := bh) (by omega) (by omega) (by omega) (by omega)) rfl rfl 20 rfl
  · exact (fit_same (rl := rl) (rh := rh) (P1 := (min (min (min (al / 1) (al / bh)) (ah / 1)) (ah / bh))) (T1 := (min (min (min (min (min (min (al / 1) (al / 1)) (al / (1))) (al / bh)) (ah / 1)) (ah / (1))) (ah / bh))) (P2 := (max (max (max (al / 1) (al / bh)) (ah / 1)) (ah / bh))) (T2 := (max (max (max (max (max (max (al / 1) (al / 1)) (al / (1))) (al / bh)) (ah / 1)) (ah / (1))) (ah / bh))) (by (try simp only [Int.ediv_zero]); ac_rfl) (by (try simp only [Int.ediv_zero]); ac_rfl)).1
  · exact (fit_same (rl := rl) (rh := rh) (P1 := (min (min (min (al / 1) (al / bh)) (ah / 1)) (ah / bh))) (T1 := (min (min (min (min (min (min (al / 1) (al / 1)) (al / (1))) (al / bh)) (ah / 1)) (ah / (1))) (ah / bh))) (P2 := (max (max (max (al / 1) (al / bh)) (ah / 1)) (ah / bh))) (T2 := (max (max (max (max (max (max (al / 1) (al / 1)) (al / (1))) (al / bh)) (ah / 1)) (ah / (1))) (ah / bh))) (by (try simp only [Int.ediv_zero]); ac_rfl) (by (try simp only [Int.ediv_zero]); ac_rfl)).2
end
end Go.Proofs.YtgecchiocfkpkaaGreatDoor

namespace Go.Proofs.YtgecchiocfkpkaaGreatDoor
noncomputable section
open Go Go.RX
open Go.RowKit (Below)
set_option maxRecDepth 1000000
set_option maxHeartbeats 4000000
def X_9pos : List SEntry := [(74, [.sym (.int .i64 (.var 0)), .sym (.int .i64 (.tri 2 (.var 2) (.lit 1) (.lit 0)))], sy 11), (74, [.sym (.int .i64 (.var 0)), .sym (.int .i64 (.tri 3 (.var 3) (.lit 9223372036854775807) (.lit 0)))], sy 12), (74, [.sym (.int .i64 (.var 1)), .sym (.int .i64 (.tri 2 (.var 2) (.lit 1) (.lit 0)))], sy 13), (74, [.sym (.int .i64 (.var 1)), .sym (.int .i64 (.tri 3 (.var 3) (.lit 9223372036854775807) (.lit 0)))], sy 14), (61, [.sym (.int .i64 (.var 0)), .sym (.int .i64 (.var 2))], sy 15), (61, [.sym (.int .i64 (.var 0)), .sym (.int .i64 (.var 3))], sy 16), (61, [.sym (.int .i64 (.var 1)), .sym (.int .i64 (.var 2))], sy 17), (61, [.sym (.int .i64 (.var 1)), .sym (.int .i64 (.var 3))], sy 18)]
def L_9pos : List CF := [⟨.leq, (.var 2), (.lit 0), false⟩, ⟨.gtr, (.tri 2 (.var 2) (.lit (-9223372036854775808)) (.lit 0)), (.tri 3 (.var 3) (.lit (-1)) (.lit 0)), true⟩, ⟨.gtr, (.tri 2 (.var 2) (.lit 1) (.lit 0)), (.tri 3 (.var 3) (.lit 9223372036854775807) (.lit 0)), false⟩, ⟨.leq, (.var 2), (.var 3), true⟩, ⟨.geq, (.lit (-1)), (.var 2), false⟩, ⟨.geq, (.lit 0), (.var 2), false⟩, ⟨.geq, (.lit 1), (.var 2), false⟩, ⟨.geq, (.var 3), (.var 2), true⟩]
def p1_9pos : IE := .tri 3 (.tri 3 (.tri 3 (.var 11) (.var 12) (.lit 0)) (.var 13) (.lit 0)) (.var 14) (.lit 0)
def p2_9pos : IE := .tri 2 (.tri 2 (.tri 2 (.var 11) (.var 12) (.lit 0)) (.var 13) (.lit 0)) (.var 14) (.lit 0)
def t1_9pos : IE := .tri 3 (.tri 3 (.tri 3 (.tri 3 (.var 15) (.var 15) (.lit 0)) (.var 16) (.lit 0)) (.var 17) (.lit 0)) (.var 18) (.lit 0)
def t2_9pos : IE := .tri 2 (.tri 2 (.tri 2 (.tri 2 (.var 15) (.var 15) (.lit 0)) (.var 16) (.lit 0)) (.var 17) (.lit 0)) (.var 18) (.lit 0)
theorem run_9pos (ρ : Nat → Int) (aR aS : Addr) (b1 b2 c1 c2 : Bool) (h : (b1 && b2) = (c1 && c2)) : runE ρ aR aS (L_fit p1_9pos p2_9pos t1_9pos t2_9pos b1 b2 c1 c2 ++ L_9pos) (U_op 9 ++ X_9pos) [(24, xP 9, r_fit p1_9pos p2_9pos (b1 && b2)), (8, xP 9, r_fit t1_9pos t2_9pos (c1 && c2))] := by
  unfold runE
  cases b1 <;> cases b2 <;> cases c1 <;> cases c2 <;> first | (exact absurd h (by decide)) | kernel_rfl
theorem div_pos (aR aS : Addr) {al ah bl bh lo hi wd k rk rl rh wd2 : Int} (hR : ResV aR aS 9 k rk 0) (hK : KdV aR aS k lo hi wd) (hR2 : KdV aR aS rk rl rh wd2) (b0 : -2147483648 ≤ lo) (b1 : hi ≤ 4294967295) (_ : lo = 0 ∨ (lo = -hi - 1 ∧ hi ≤ 2147483647)) (_ : wd ≤ 32) (a0 : lo ≤ al) (a1 : al ≤ ah) (a2 : ah ≤ hi) (_ : lo ≤ bl) (c1 : bl ≤ bh) (c2 : bh ≤ hi) (er : rl = lo) (eh : rh = hi) (h : (1 < bl ∧ 1 ≤ bh)) : ∃ sl sh, ApD aR aS 9 k al ah bl bh sl sh := by
  obtain ⟨h1, h2⟩ := h
  refine apd_fit (m := mL [(al / bl), (al / bh), (ah / bl), (ah / bh), (al / bl), (al / bh), (ah / bl), (ah / bh)]) (Lx := L_9pos) (X := X_9pos) hR hK hR2 (fun f hf => ?_) (fun L u hu => ?_) (run_9pos _ aR aS) (by show (triI 3 (triI 3 (triI 3 (al / bl) (al / bh) 0) (ah / bl) 0) (ah / bh) 0) = (min (min (min (al / bl) (al / bh)) (ah / bl)) (ah / bh)); simp only [tri_3]) (by show (triI 2 (triI 2 (triI 2 (al / bl) (al / bh) 0) (ah / bl) 0) (ah / bh) 0) = (max (max (max (al / bl) (al / bh)) (ah / bl)) (ah / bh)); simp only [tri_2]) (by show (triI 3 (triI 3 (triI 3 (triI 3 (al / bl) (al / bl) 0) (al / bh) 0) (ah / bl) 0) (ah / bh) 0) = (min (min (min (min (al / bl) (al / bl)) (al / bh)) (ah / bl)) (ah / bh)); simp only [tri_3]) (by show (triI 2 (triI 2 (triI 2 (triI 2 (al / bl) (al / bl) 0) (al / bh) 0) (ah / bl) 0) (ah / bh) 0) = (max (max (max (max (al / bl) (al / bl)) (al / bh)) (ah / bl)) (ah / bh)); simp only [tri_2]) ?_ ?_
  · simp only [L_9pos, List.mem_cons, List.not_mem_nil, or_false] at hf
    rcases hf with rfl | rfl | rfl | rfl | rfl | rfl | rfl | rfl
    · exact ⟨rfl, by simp (disch := omega) only [IE.ev, rm_2, cmpI_leq, decide_eq_false_iff_not]; omega⟩
    · exact ⟨rfl, by simp (disch := omega) only [IE.ev, rm_2, rm_3, tri_2, tri_3, cmpI_gtr, decide_eq_true_eq, gt_iff_lt]; omega⟩
    · exact ⟨rfl, by simp (disch := omega) only [IE.ev, rm_2, rm_3, tri_2, tri_3, cmpI_gtr, decide_eq_false_iff_not, gt_iff_lt]; omega⟩
    · exact ⟨rfl, by simp (disch := omega) only [IE.ev, rm_2, rm_3, cmpI_leq, decide_eq_true_eq]; omega⟩
    · exact ⟨rfl, by simp (disch := omega) only [IE.ev, rm_2, cmpI_geq, decide_eq_false_iff_not, ge_iff_le]; omega⟩
    · exact ⟨rfl, by simp (disch := omega) only [IE.ev, rm_2, cmpI_geq, decide_eq_false_iff_not, ge_iff_le]; omega⟩
    · exact ⟨rfl, by simp (disch := omega) only [IE.ev, rm_2, cmpI_geq, decide_eq_false_iff_not, ge_iff_le]; omega⟩
    · exact ⟨rfl, by simp (disch := omega) only [IE.ev, rm_2, rm_3, cmpI_geq, decide_eq_true_eq, ge_iff_le]; omega⟩
  · simp only [X_9pos, List.mem_cons, List.not_mem_nil, or_false] at hu
    rcases hu with rfl | rfl | rfl | rfl | rfl | rfl | rfl | rfl
    · exact tell2 (z := (al / bl)) (by show Fn2 _ _ _ al (triI 2 bl (1) 0) _; rw [show (triI 2 bl (1) 0) = bl by simp only [tri_2]; omega]; exact qu_ok aR aS (x := al) (y := bl) (by omega) (by omega) (by omega)) rfl rfl 11 rfl
    · exact tell2 (z := (al / bh)) (by show Fn2 _ _ _ al (triI 3 bh (9223372036854775807) 0) _; rw [show (triI 3 bh (9223372036854775807) 0) = bh by simp only [tri_3]; omega]; exact qu_ok aR aS (x := al) (y := bh) (by omega) (by omega) (by omega)) rfl rfl 12 rfl
    · exact tell2 (z := (ah / bl)) (by show Fn2 _ _ _ ah (triI 2 bl (1) 0) _; rw [show (triI 2 bl (1) 0) = bl by simp only [tri_2]; omega]; exact qu_ok aR aS (x := ah) (y := bl) (by omega) (by omega) (by omega)) rfl rfl 13 rfl
    · exact tell2 (z := (ah / bh)) (by show Fn2 _ _ _ ah (triI 3 bh (9223372036854775807) 0) _; rw [show (triI 3 bh (9223372036854775807) 0) = bh by simp only [tri_3]; omega]; exact qu_ok aR aS (x := ah) (y := bh) (by omega) (by omega) (by omega)) rfl rfl 14 rfl
    · exact tell2 (z := (al / bl)) (rq_ok aR aS (x := al) (y := bl) (by omega) (by omega) (by omega) (by omega)) rfl rfl 15 rfl
    · exact tell2 (z := (al / bh)) (rq_ok aR aS (x := al) (y := bh) (by omega) (by omega) (by omega) (by omega)) rfl rfl 16 rfl
    · exact tell2 (z := (ah / bl)) (rq_ok aR aS (x := ah) (y := bl) (by omega) (by omega) (by omega) (by omega)) rfl rfl 17 rfl
    · exact tell2 (z := (ah / bh)) (rq_ok aR aS (x := ah) (y := bh) (by omega) (by omega) (by omega) (by omega)) rfl rfl 18 rfl
  · exact (fit_same (rl := rl) (rh := rh) (P1 := (min (min (min (al / bl) (al / bh)) (ah / bl)) (ah / bh))) (T1 := (min (min (min (min (al / bl) (al / bl)) (al / bh)) (ah / bl)) (ah / bh))) (P2 := (max (max (max (al / bl) (al / bh)) (ah / bl)) (ah / bh))) (T2 := (max (max (max (max (al / bl) (al / bl)) (al / bh)) (ah / bl)) (ah / bh))) (by (try simp only [Int.ediv_zero]); ac_rfl) (by (try simp only [Int.ediv_zero]); ac_rfl)).1
  · exact (fit_same (rl := rl) (rh := rh) (P1 := (min (min (min (al / bl) (al / bh)) (ah / bl)) (ah / bh))) (T1 := (min (min (min (min (al / bl) (al / bl)) (al / bh)) (ah / bl)) (ah / bh))) (P2 := (max (max (max (al / bl) (al / bh)) (ah / bl)) (ah / bh))) (T2 := (max (max (max (max (al / bl) (al / bl)) (al / bh)) (ah / bl)) (ah / bh))) (by (try simp only [Int.ediv_zero]); ac_rfl) (by (try simp only [Int.ediv_zero]); ac_rfl)).2
end
end Go.Proofs.YtgecchiocfkpkaaGreatDoor

namespace Go.Proofs.YtgecchiocfkpkaaGreatDoor
noncomputable section
open Go Go.RX
open Go.RowKit (Below)
set_option maxRecDepth 1000000
set_option maxHeartbeats 4000000
def X_9neg : List SEntry := [(74, [.sym (.int .i64 (.var 0)), .sym (.int .i64 (.tri 2 (.var 2) (.lit (-9223372036854775808)) (.lit 0)))], sy 11), (74, [.sym (.int .i64 (.var 0)), .sym (.int .i64 (.tri 3 (.var 3) (.lit (-1)) (.lit 0)))], sy 12), (74, [.sym (.int .i64 (.var 1)), .sym (.int .i64 (.tri 2 (.var 2) (.lit (-9223372036854775808)) (.lit 0)))], sy 13), (74, [.sym (.int .i64 (.var 1)), .sym (.int .i64 (.tri 3 (.var 3) (.lit (-1)) (.lit 0)))], sy 14), (61, [.sym (.int .i64 (.var 0)), .sym (.int .i64 (.var 2))], sy 15), (61, [.sym (.int .i64 (.var 0)), .sym (.int .i64 (.var 3))], sy 16), (61, [.sym (.int .i64 (.var 1)), .sym (.int .i64 (.var 2))], sy 17), (61, [.sym (.int .i64 (.var 1)), .sym (.int .i64 (.var 3))], sy 18)]
def L_9neg : List CF := [⟨.leq, (.var 2), (.lit 0), true⟩, ⟨.leq, (.lit 0), (.var 3), false⟩, ⟨.gtr, (.tri 2 (.var 2) (.lit (-9223372036854775808)) (.lit 0)), (.tri 3 (.var 3) (.lit (-1)) (.lit 0)), false⟩, ⟨.gtr, (.tri 2 (.var 2) (.lit 1) (.lit 0)), (.tri 3 (.var 3) (.lit 9223372036854775807) (.lit 0)), true⟩, ⟨.leq, (.var 2), (.var 3), true⟩, ⟨.geq, (.lit (-1)), (.var 2), true⟩, ⟨.leq, (.lit (-1)), (.var 3), false⟩, ⟨.geq, (.lit 0), (.var 2), true⟩, ⟨.geq, (.lit 1), (.var 2), true⟩, ⟨.leq, (.lit 1), (.var 3), false⟩, ⟨.geq, (.var 3), (.var 2), true⟩]
def p1_9neg : IE := .tri 3 (.tri 3 (.tri 3 (.var 11) (.var 12) (.lit 0)) (.var 13) (.lit 0)) (.var 14) (.lit 0)
def p2_9neg : IE := .tri 2 (.tri 2 (.tri 2 (.var 11) (.var 12) (.lit 0)) (.var 13) (.lit 0)) (.var 14) (.lit 0)
def t1_9neg : IE := .tri 3 (.tri 3 (.tri 3 (.tri 3 (.var 15) (.var 15) (.lit 0)) (.var 16) (.lit 0)) (.var 17) (.lit 0)) (.var 18) (.lit 0)
def t2_9neg : IE := .tri 2 (.tri 2 (.tri 2 (.tri 2 (.var 15) (.var 15) (.lit 0)) (.var 16) (.lit 0)) (.var 17) (.lit 0)) (.var 18) (.lit 0)
theorem run_9neg (ρ : Nat → Int) (aR aS : Addr) (b1 b2 c1 c2 : Bool) (h : (b1 && b2) = (c1 && c2)) : runE ρ aR aS (L_fit p1_9neg p2_9neg t1_9neg t2_9neg b1 b2 c1 c2 ++ L_9neg) (U_op 9 ++ X_9neg) [(24, xP 9, r_fit p1_9neg p2_9neg (b1 && b2)), (8, xP 9, r_fit t1_9neg t2_9neg (c1 && c2))] := by
  unfold runE
  cases b1 <;> cases b2 <;> cases c1 <;> cases c2 <;> first | (exact absurd h (by decide)) | kernel_rfl
theorem div_neg (aR aS : Addr) {al ah bl bh lo hi wd k rk rl rh wd2 : Int} (hR : ResV aR aS 9 k rk 0) (hK : KdV aR aS k lo hi wd) (hR2 : KdV aR aS rk rl rh wd2) (b0 : -2147483648 ≤ lo) (b1 : hi ≤ 4294967295) (_ : lo = 0 ∨ (lo = -hi - 1 ∧ hi ≤ 2147483647)) (_ : wd ≤ 32) (a0 : lo ≤ al) (a1 : al ≤ ah) (a2 : ah ≤ hi) (c0 : lo ≤ bl) (c1 : bl ≤ bh) (_ : bh ≤ hi) (er : rl = lo) (eh : rh = hi) (h : (bl < 0 ∧ bh < -1)) : ∃ sl sh, ApD aR aS 9 k al ah bl bh sl sh := by
  obtain ⟨h1, h2⟩ := h
  refine apd_fit (m := mL [(al / bl), (al / bh), (ah / bl), (ah / bh), (al / bl), (al / bh), (ah / bl), (ah / bh)]) (Lx := L_9neg) (X := X_9neg) hR hK hR2 (fun f hf => ?_) (fun L u hu => ?_) (run_9neg _ aR aS) (by show (triI 3 (triI 3 (triI 3 (al / bl) (al / bh) 0) (ah / bl) 0) (ah / bh) 0) = (min (min (min (al / bl) (al / bh)) (ah / bl)) (ah / bh)); simp only [tri_3]) (by show (triI 2 (triI 2 (triI 2 (al / bl) (al / bh) 0) (ah / bl) 0) (ah / bh) 0) = (max (max (max (al / bl) (al / bh)) (ah / bl)) (ah / bh)); simp only [tri_2]) (by show (triI 3 (triI 3 (triI 3 (triI 3 (al / bl) (al / bl) 0) (al / bh) 0) (ah / bl) 0) (ah / bh) 0) = (min (min (min (min (al / bl) (al / bl)) (al / bh)) (ah / bl)) (ah / bh)); simp only [tri_3]) (by show (triI 2 (triI 2 (triI 2 (triI 2 (al / bl) (al / bl) 0) (al / bh) 0) (ah / bl) 0) (ah / bh) 0) = (max (max (max (max (al / bl) (al / bl)) (al / bh)) (ah / bl)) (ah / bh)); simp only [tri_2]) ?_ ?_
  · simp only [L_9neg, List.mem_cons, List.not_mem_nil, or_false] at hf
    rcases hf with rfl | rfl | rfl | rfl | rfl | rfl | rfl | rfl | rfl | rfl | rfl
    · exact ⟨rfl, by simp (disch := omega) only [IE.ev, rm_2, cmpI_leq, decide_eq_true_eq]; omega⟩
    · exact ⟨rfl, by simp (disch := omega) only [IE.ev, rm_3, cmpI_leq, decide_eq_false_iff_not]; omega⟩
    · exact ⟨rfl, by simp (disch := omega) only [IE.ev, rm_2, rm_3, tri_2, tri_3, cmpI_gtr, decide_eq_false_iff_not, gt_iff_lt]; omega⟩
    · exact ⟨rfl, by simp (disch := omega) only [IE.ev, rm_2, rm_3, tri_2, tri_3, cmpI_gtr, decide_eq_true_eq, gt_iff_lt]; omega⟩
    · exact ⟨rfl, by simp (disch := omega) only [IE.ev, rm_2, rm_3, cmpI_leq, decide_eq_true_eq]; omega⟩
    · exact ⟨rfl, by simp (disch := omega) only [IE.ev, rm_2, cmpI_geq, decide_eq_true_eq, ge_iff_le]; omega⟩
    · exact ⟨rfl, by simp (disch := omega) only [IE.ev, rm_3, cmpI_leq, decide_eq_false_iff_not]; omega⟩
    · exact ⟨rfl, by simp (disch := omega) only [IE.ev, rm_2, cmpI_geq, decide_eq_true_eq, ge_iff_le]; omega⟩
    · exact ⟨rfl, by simp (disch := omega) only [IE.ev, rm_2, cmpI_geq, decide_eq_true_eq, ge_iff_le]; omega⟩
    · exact ⟨rfl, by simp (disch := omega) only [IE.ev, rm_3, cmpI_leq, decide_eq_false_iff_not]; omega⟩
    · exact ⟨rfl, by simp (disch := omega) only [IE.ev, rm_2, rm_3, cmpI_geq, decide_eq_true_eq, ge_iff_le]; omega⟩
  · simp only [X_9neg, List.mem_cons, List.not_mem_nil, or_false] at hu
    rcases hu with rfl | rfl | rfl | rfl | rfl | rfl | rfl | rfl
    · exact tell2 (z := (al / bl)) (by show Fn2 _ _ _ al (triI 2 bl (-9223372036854775808) 0) _; rw [show (triI 2 bl (-9223372036854775808) 0) = bl by simp only [tri_2]; omega]; exact qu_ok aR aS (x := al) (y := bl) (by omega) (by omega) (by omega)) rfl rfl 11 rfl
    · exact tell2 (z := (al / bh)) (by show Fn2 _ _ _ al (triI 3 bh (-1) 0) _; rw [show (triI 3 bh (-1) 0) = bh by simp only [tri_3]; omega]; exact qu_ok aR aS (x := al) (y := bh) (by omega) (by omega) (by omega)) rfl rfl 12 rfl
    · exact tell2 (z := (ah / bl)) (by show Fn2 _ _ _ ah (triI 2 bl (-9223372036854775808) 0) _; rw [show (triI 2 bl (-9223372036854775808) 0) = bl by simp only [tri_2]; omega]; exact qu_ok aR aS (x := ah) (y := bl) (by omega) (by omega) (by omega)) rfl rfl 13 rfl
    · exact tell2 (z := (ah / bh)) (by show Fn2 _ _ _ ah (triI 3 bh (-1) 0) _; rw [show (triI 3 bh (-1) 0) = bh by simp only [tri_3]; omega]; exact qu_ok aR aS (x := ah) (y := bh) (by omega) (by omega) (by omega)) rfl rfl 14 rfl
    · exact tell2 (z := (al / bl)) (rq_ok aR aS (x := al) (y := bl) (by omega) (by omega) (by omega) (by omega)) rfl rfl 15 rfl
    · exact tell2 (z := (al / bh)) (rq_ok aR aS (x := al) (y := bh) (by omega) (by omega) (by omega) (by omega)) rfl rfl 16 rfl
    · exact tell2 (z := (ah / bl)) (rq_ok aR aS (x := ah) (y := bl) (by omega) (by omega) (by omega) (by omega)) rfl rfl 17 rfl
    · exact tell2 (z := (ah / bh)) (rq_ok aR aS (x := ah) (y := bh) (by omega) (by omega) (by omega) (by omega)) rfl rfl 18 rfl
  · exact (fit_same (rl := rl) (rh := rh) (P1 := (min (min (min (al / bl) (al / bh)) (ah / bl)) (ah / bh))) (T1 := (min (min (min (min (al / bl) (al / bl)) (al / bh)) (ah / bl)) (ah / bh))) (P2 := (max (max (max (al / bl) (al / bh)) (ah / bl)) (ah / bh))) (T2 := (max (max (max (max (al / bl) (al / bl)) (al / bh)) (ah / bl)) (ah / bh))) (by (try simp only [Int.ediv_zero]); ac_rfl) (by (try simp only [Int.ediv_zero]); ac_rfl)).1
  · exact (fit_same (rl := rl) (rh := rh) (P1 := (min (min (min (al / bl) (al / bh)) (ah / bl)) (ah / bh))) (T1 := (min (min (min (min (al / bl) (al / bl)) (al / bh)) (ah / bl)) (ah / bh))) (P2 := (max (max (max (al / bl) (al / bh)) (ah / bl)) (ah / bh))) (T2 := (max (max (max (max (al / bl) (al / bl)) (al / bh)) (ah / bl)) (ah / bh))) (by (try simp only [Int.ediv_zero]); ac_rfl) (by (try simp only [Int.ediv_zero]); ac_rfl)).2
end
end Go.Proofs.YtgecchiocfkpkaaGreatDoor

namespace Go.Proofs.YtgecchiocfkpkaaGreatDoor
noncomputable section
open Go Go.RX
open Go.RowKit (Below)
set_option maxRecDepth 1000000
set_option maxHeartbeats 4000000
theorem apd_9 (aR aS : Addr) {al ah bl bh lo hi wd k rk rl rh wd2 : Int} (hR : ResV aR aS 9 k rk 0) (hK : KdV aR aS k lo hi wd) (hR2 : KdV aR aS rk rl rh wd2) (b0 : -2147483648 ≤ lo) (b1 : hi ≤ 4294967295) (b2 : lo = 0 ∨ (lo = -hi - 1 ∧ hi ≤ 2147483647)) (bw : wd ≤ 32) (a0 : lo ≤ al) (a1 : al ≤ ah) (a2 : ah ≤ hi) (c0 : lo ≤ bl) (c1 : bl ≤ bh) (c2 : bh ≤ hi) (er : rl = lo) (eh : rh = hi) : ∃ sl sh, ApD aR aS 9 k al ah bl bh sl sh := by
  have hc : (bl < 0 ∧ bh < -1) ∨ (bl < 0 ∧ bh = -1) ∨ (bl < 0 ∧ bh = 0) ∨ (bl < 0 ∧ 1 ≤ bh) ∨ (bl = 0 ∧ bh = 0) ∨ (bl = 0 ∧ 1 ≤ bh) ∨ (bl = 1 ∧ 1 ≤ bh) ∨ (1 < bl ∧ 1 ≤ bh) := by omega
  rcases hc with h | h | h | h | h | h | h | h
  · exact div_neg aR aS hR hK hR2 b0 b1 b2 bw a0 a1 a2 c0 c1 c2 er eh h
  · exact div_negm aR aS hR hK hR2 b0 b1 b2 bw a0 a1 a2 c0 c1 c2 er eh h
  · exact div_negz aR aS hR hK hR2 b0 b1 b2 bw a0 a1 a2 c0 c1 c2 er eh h
  · exact div_both aR aS hR hK hR2 b0 b1 b2 bw a0 a1 a2 c0 c1 c2 er eh h
  · exact div_zz aR aS hR hK hR2 b0 b1 b2 bw a0 a1 a2 c0 c1 c2 er eh h
  · exact div_zp aR aS hR hK hR2 b0 b1 b2 bw a0 a1 a2 c0 c1 c2 er eh h
  · exact div_one aR aS hR hK hR2 b0 b1 b2 bw a0 a1 a2 c0 c1 c2 er eh h
  · exact div_pos aR aS hR hK hR2 b0 b1 b2 bw a0 a1 a2 c0 c1 c2 er eh h
end
end Go.Proofs.YtgecchiocfkpkaaGreatDoor
