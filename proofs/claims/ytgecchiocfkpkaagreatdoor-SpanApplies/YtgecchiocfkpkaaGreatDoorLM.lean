import Derived.Test.YtgecchiocfkpkaaGreatDoorLJ
namespace Go.Proofs.YtgecchiocfkpkaaGreatDoor
noncomputable section
open Go Go.RX
open Go.RowKit (Below)
set_option maxRecDepth 1000000
set_option maxHeartbeats 4000000
section
variable (al ah bl bh lo hi wd k rk rl rh a b c d : Int)
theorem m4_11 : rho al ah bl bh lo hi wd k rk rl rh (mL [a, b, c, d]) 11 = a := rfl
theorem m4_12 : rho al ah bl bh lo hi wd k rk rl rh (mL [a, b, c, d]) 12 = b := rfl
theorem m4_13 : rho al ah bl bh lo hi wd k rk rl rh (mL [a, b, c, d]) 13 = c := rfl
theorem m4_14 : rho al ah bl bh lo hi wd k rk rl rh (mL [a, b, c, d]) 14 = d := rfl
end
def L_10_0 : List CF := [⟨.neq, (.var 2), (.lit 0), false⟩, ⟨.geq, (.var 0), (.lit 0), false⟩, ⟨.leq, (.var 9), (.lit 0), true⟩, ⟨.leq, (.tri 2 (.tri 2 (.lit 0) (.bin .sub .i64 (.var 3) (.lit 1)) (.lit 0)) (.bin .sub .i64 (.bin .sub .i64 (.lit 0) (.var 2)) (.lit 1)) (.lit 0)), (.var 10), true⟩, ⟨.eql, (.var 2), (.var 3), false⟩]
def X_10_0 : List SEntry := []
theorem run_10_0 (ρ : Nat → Int) (aR aS : Addr) : runE ρ aR aS L_10_0 (U_op 10 ++ X_10_0) [(24, xP 10, .agg [.v (.int .i64 0), .sym (.int .i64 (.tri 2 (.tri 2 (.lit 0) (.bin .sub .i64 (.var 3) (.lit 1)) (.lit 0)) (.bin .sub .i64 (.bin .sub .i64 (.lit 0) (.var 2)) (.lit 1)) (.lit 0)))]), (8, xP 10, .agg [.v (.int .i64 0), .sym (.int .i64 (.tri 2 (.bin .sub .i64 (.tri 2 (.tri 2 (.var 2) (.bin .sub .i64 (.lit 0) (.var 2)) (.lit 0)) (.tri 2 (.var 3) (.bin .sub .i64 (.lit 0) (.var 3)) (.lit 0)) (.lit 0)) (.lit 1)) (.lit 0) (.lit 0)))])] := by
  unfold runE
  kernel_rfl
def L_10_1 : List CF := [⟨.neq, (.var 2), (.lit 0), false⟩, ⟨.geq, (.var 0), (.lit 0), false⟩, ⟨.leq, (.var 9), (.lit 0), true⟩, ⟨.leq, (.tri 2 (.tri 2 (.lit 0) (.bin .sub .i64 (.var 3) (.lit 1)) (.lit 0)) (.bin .sub .i64 (.bin .sub .i64 (.lit 0) (.var 2)) (.lit 1)) (.lit 0)), (.var 10), true⟩, ⟨.eql, (.var 2), (.var 3), true⟩]
def X_10_1 : List SEntry := []
theorem run_10_1 (ρ : Nat → Int) (aR aS : Addr) : runE ρ aR aS L_10_1 (U_op 10 ++ X_10_1) [(24, xP 10, .agg [.v (.int .i64 0), .sym (.int .i64 (.tri 2 (.tri 2 (.lit 0) (.bin .sub .i64 (.var 3) (.lit 1)) (.lit 0)) (.bin .sub .i64 (.bin .sub .i64 (.lit 0) (.var 2)) (.lit 1)) (.lit 0)))]), (8, xP 10, .agg [.v (.int .i64 0), .sym (.int .i64 (.tri 2 (.bin .sub .i64 (.tri 2 (.tri 2 (.var 2) (.bin .sub .i64 (.lit 0) (.var 2)) (.lit 0)) (.tri 2 (.var 3) (.bin .sub .i64 (.lit 0) (.var 3)) (.lit 0)) (.lit 0)) (.lit 1)) (.lit 0) (.lit 0)))])] := by
  unfold runE
  kernel_rfl
def L_10_2 : List CF := [⟨.neq, (.var 2), (.lit 0), false⟩, ⟨.geq, (.var 0), (.lit 0), true⟩, ⟨.leq, (.var 9), (.lit 0), true⟩, ⟨.leq, (.tri 3 (.tri 2 (.tri 2 (.lit 0) (.bin .sub .i64 (.var 3) (.lit 1)) (.lit 0)) (.bin .sub .i64 (.bin .sub .i64 (.lit 0) (.var 2)) (.lit 1)) (.lit 0)) (.var 1) (.lit 0)), (.var 10), true⟩, ⟨.eql, (.var 2), (.var 3), false⟩]
def X_10_2 : List SEntry := []
theorem run_10_2 (ρ : Nat → Int) (aR aS : Addr) : runE ρ aR aS L_10_2 (U_op 10 ++ X_10_2) [(24, xP 10, .agg [.v (.int .i64 0), .sym (.int .i64 (.tri 3 (.tri 2 (.tri 2 (.lit 0) (.bin .sub .i64 (.var 3) (.lit 1)) (.lit 0)) (.bin .sub .i64 (.bin .sub .i64 (.lit 0) (.var 2)) (.lit 1)) (.lit 0)) (.var 1) (.lit 0)))]), (8, xP 10, .agg [.v (.int .i64 0), .sym (.int .i64 (.tri 3 (.tri 2 (.bin .sub .i64 (.tri 2 (.tri 2 (.var 2) (.bin .sub .i64 (.lit 0) (.var 2)) (.lit 0)) (.tri 2 (.var 3) (.bin .sub .i64 (.lit 0) (.var 3)) (.lit 0)) (.lit 0)) (.lit 1)) (.lit 0) (.lit 0)) (.var 1) (.lit 0)))])] := by
  unfold runE
  kernel_rfl
def L_10_3 : List CF := [⟨.neq, (.var 2), (.lit 0), false⟩, ⟨.geq, (.var 0), (.lit 0), true⟩, ⟨.leq, (.var 9), (.lit 0), true⟩, ⟨.leq, (.tri 3 (.tri 2 (.tri 2 (.lit 0) (.bin .sub .i64 (.var 3) (.lit 1)) (.lit 0)) (.bin .sub .i64 (.bin .sub .i64 (.lit 0) (.var 2)) (.lit 1)) (.lit 0)) (.var 1) (.lit 0)), (.var 10), true⟩, ⟨.eql, (.var 2), (.var 3), true⟩]
def X_10_3 : List SEntry := []
theorem run_10_3 (ρ : Nat → Int) (aR aS : Addr) : runE ρ aR aS L_10_3 (U_op 10 ++ X_10_3) [(24, xP 10, .agg [.v (.int .i64 0), .sym (.int .i64 (.tri 3 (.tri 2 (.tri 2 (.lit 0) (.bin .sub .i64 (.var 3) (.lit 1)) (.lit 0)) (.bin .sub .i64 (.bin .sub .i64 (.lit 0) (.var 2)) (.lit 1)) (.lit 0)) (.var 1) (.lit 0)))]), (8, xP 10, .agg [.v (.int .i64 0), .sym (.int .i64 (.tri 3 (.tri 2 (.bin .sub .i64 (.tri 2 (.tri 2 (.var 2) (.bin .sub .i64 (.lit 0) (.var 2)) (.lit 0)) (.tri 2 (.var 3) (.bin .sub .i64 (.lit 0) (.var 3)) (.lit 0)) (.lit 0)) (.lit 1)) (.lit 0) (.lit 0)) (.var 1) (.lit 0)))])] := by
  unfold runE
  kernel_rfl
def L_10_4 : List CF := [⟨.neq, (.var 2), (.lit 0), true⟩, ⟨.eql, (.var 3), (.var 2), false⟩, ⟨.geq, (.var 0), (.lit 0), false⟩, ⟨.leq, (.var 9), (.lit 0), true⟩, ⟨.leq, (.tri 2 (.tri 2 (.lit 0) (.bin .sub .i64 (.var 3) (.lit 1)) (.lit 0)) (.bin .sub .i64 (.bin .sub .i64 (.lit 0) (.var 2)) (.lit 1)) (.lit 0)), (.var 10), true⟩, ⟨.eql, (.var 2), (.var 3), false⟩]
def X_10_4 : List SEntry := []
theorem run_10_4 (ρ : Nat → Int) (aR aS : Addr) : runE ρ aR aS L_10_4 (U_op 10 ++ X_10_4) [(24, xP 10, .agg [.v (.int .i64 0), .sym (.int .i64 (.tri 2 (.tri 2 (.lit 0) (.bin .sub .i64 (.var 3) (.lit 1)) (.lit 0)) (.bin .sub .i64 (.bin .sub .i64 (.lit 0) (.var 2)) (.lit 1)) (.lit 0)))]), (8, xP 10, .agg [.v (.int .i64 0), .sym (.int .i64 (.tri 2 (.bin .sub .i64 (.tri 2 (.tri 2 (.var 2) (.bin .sub .i64 (.lit 0) (.var 2)) (.lit 0)) (.tri 2 (.var 3) (.bin .sub .i64 (.lit 0) (.var 3)) (.lit 0)) (.lit 0)) (.lit 1)) (.lit 0) (.lit 0)))])] := by
  unfold runE
  kernel_rfl
def L_10_5 : List CF := [⟨.neq, (.var 2), (.lit 0), true⟩, ⟨.eql, (.var 3), (.var 2), false⟩, ⟨.geq, (.var 0), (.lit 0), true⟩, ⟨.leq, (.var 9), (.lit 0), true⟩, ⟨.leq, (.tri 3 (.tri 2 (.tri 2 (.lit 0) (.bin .sub .i64 (.var 3) (.lit 1)) (.lit 0)) (.bin .sub .i64 (.bin .sub .i64 (.lit 0) (.var 2)) (.lit 1)) (.lit 0)) (.var 1) (.lit 0)), (.var 10), true⟩, ⟨.eql, (.var 2), (.var 3), false⟩]
def X_10_5 : List SEntry := []
theorem run_10_5 (ρ : Nat → Int) (aR aS : Addr) : runE ρ aR aS L_10_5 (U_op 10 ++ X_10_5) [(24, xP 10, .agg [.v (.int .i64 0), .sym (.int .i64 (.tri 3 (.tri 2 (.tri 2 (.lit 0) (.bin .sub .i64 (.var 3) (.lit 1)) (.lit 0)) (.bin .sub .i64 (.bin .sub .i64 (.lit 0) (.var 2)) (.lit 1)) (.lit 0)) (.var 1) (.lit 0)))]), (8, xP 10, .agg [.v (.int .i64 0), .sym (.int .i64 (.tri 3 (.tri 2 (.bin .sub .i64 (.tri 2 (.tri 2 (.var 2) (.bin .sub .i64 (.lit 0) (.var 2)) (.lit 0)) (.tri 2 (.var 3) (.bin .sub .i64 (.lit 0) (.var 3)) (.lit 0)) (.lit 0)) (.lit 1)) (.lit 0) (.lit 0)) (.var 1) (.lit 0)))])] := by
  unfold runE
  kernel_rfl
def L_10_6 : List CF := [⟨.neq, (.var 2), (.lit 0), true⟩, ⟨.eql, (.var 3), (.var 2), true⟩, ⟨.eql, (.var 11), (.var 12), false⟩, ⟨.geq, (.var 0), (.lit 0), false⟩, ⟨.leq, (.var 9), (.lit 0), true⟩, ⟨.leq, (.tri 2 (.tri 2 (.lit 0) (.bin .sub .i64 (.var 3) (.lit 1)) (.lit 0)) (.bin .sub .i64 (.bin .sub .i64 (.lit 0) (.var 2)) (.lit 1)) (.lit 0)), (.var 10), true⟩, ⟨.eql, (.var 2), (.var 3), true⟩]
def X_10_6 : List SEntry := [(74, [.sym (.int .i64 (.var 0)), .sym (.int .i64 (.var 2))], sy 11), (74, [.sym (.int .i64 (.var 1)), .sym (.int .i64 (.var 2))], sy 12), (61, [.sym (.int .i64 (.var 0)), .sym (.int .i64 (.var 2))], sy 11), (61, [.sym (.int .i64 (.var 1)), .sym (.int .i64 (.var 2))], sy 12)]
theorem run_10_6 (ρ : Nat → Int) (aR aS : Addr) : runE ρ aR aS L_10_6 (U_op 10 ++ X_10_6) [(24, xP 10, .agg [.v (.int .i64 0), .sym (.int .i64 (.tri 2 (.tri 2 (.lit 0) (.bin .sub .i64 (.var 3) (.lit 1)) (.lit 0)) (.bin .sub .i64 (.bin .sub .i64 (.lit 0) (.var 2)) (.lit 1)) (.lit 0)))]), (8, xP 10, .agg [.v (.int .i64 0), .sym (.int .i64 (.tri 2 (.bin .sub .i64 (.tri 2 (.tri 2 (.var 2) (.bin .sub .i64 (.lit 0) (.var 2)) (.lit 0)) (.tri 2 (.var 3) (.bin .sub .i64 (.lit 0) (.var 3)) (.lit 0)) (.lit 0)) (.lit 1)) (.lit 0) (.lit 0)))])] := by
  unfold runE
  kernel_rfl
def L_10_7 : List CF := [⟨.neq, (.var 2), (.lit 0), true⟩, ⟨.eql, (.var 3), (.var 2), true⟩, ⟨.eql, (.var 11), (.var 12), false⟩, ⟨.geq, (.var 0), (.lit 0), true⟩, ⟨.leq, (.var 9), (.lit 0), true⟩, ⟨.leq, (.tri 3 (.tri 2 (.tri 2 (.lit 0) (.bin .sub .i64 (.var 3) (.lit 1)) (.lit 0)) (.bin .sub .i64 (.bin .sub .i64 (.lit 0) (.var 2)) (.lit 1)) (.lit 0)) (.var 1) (.lit 0)), (.var 10), true⟩, ⟨.eql, (.var 2), (.var 3), true⟩]
def X_10_7 : List SEntry := [(74, [.sym (.int .i64 (.var 0)), .sym (.int .i64 (.var 2))], sy 11), (74, [.sym (.int .i64 (.var 1)), .sym (.int .i64 (.var 2))], sy 12), (61, [.sym (.int .i64 (.var 0)), .sym (.int .i64 (.var 2))], sy 11), (61, [.sym (.int .i64 (.var 1)), .sym (.int .i64 (.var 2))], sy 12)]
theorem run_10_7 (ρ : Nat → Int) (aR aS : Addr) : runE ρ aR aS L_10_7 (U_op 10 ++ X_10_7) [(24, xP 10, .agg [.v (.int .i64 0), .sym (.int .i64 (.tri 3 (.tri 2 (.tri 2 (.lit 0) (.bin .sub .i64 (.var 3) (.lit 1)) (.lit 0)) (.bin .sub .i64 (.bin .sub .i64 (.lit 0) (.var 2)) (.lit 1)) (.lit 0)) (.var 1) (.lit 0)))]), (8, xP 10, .agg [.v (.int .i64 0), .sym (.int .i64 (.tri 3 (.tri 2 (.bin .sub .i64 (.tri 2 (.tri 2 (.var 2) (.bin .sub .i64 (.lit 0) (.var 2)) (.lit 0)) (.tri 2 (.var 3) (.bin .sub .i64 (.lit 0) (.var 3)) (.lit 0)) (.lit 0)) (.lit 1)) (.lit 0) (.lit 0)) (.var 1) (.lit 0)))])] := by
  unfold runE
  kernel_rfl
def L_10_8 : List CF := [⟨.neq, (.var 2), (.lit 0), true⟩, ⟨.eql, (.var 3), (.var 2), true⟩, ⟨.eql, (.var 11), (.var 12), true⟩, ⟨.leq, (.var 9), (.var 13), true⟩, ⟨.leq, (.var 14), (.var 10), true⟩, ⟨.eql, (.var 2), (.var 3), true⟩]
def X_10_8 : List SEntry := [(74, [.sym (.int .i64 (.var 0)), .sym (.int .i64 (.var 2))], sy 11), (74, [.sym (.int .i64 (.var 1)), .sym (.int .i64 (.var 2))], sy 12), (122, [.sym (.int .i64 (.var 0)), .sym (.int .i64 (.var 2))], sy 13), (122, [.sym (.int .i64 (.var 1)), .sym (.int .i64 (.var 2))], sy 14), (61, [.sym (.int .i64 (.var 0)), .sym (.int .i64 (.var 2))], sy 11), (61, [.sym (.int .i64 (.var 1)), .sym (.int .i64 (.var 2))], sy 12), (63, [.sym (.int .i64 (.var 0)), .sym (.int .i64 (.var 2))], sy 13), (63, [.sym (.int .i64 (.var 1)), .sym (.int .i64 (.var 2))], sy 14)]
theorem run_10_8 (ρ : Nat → Int) (aR aS : Addr) : runE ρ aR aS L_10_8 (U_op 10 ++ X_10_8) [(24, xP 10, .agg [.sym (.int .i64 (.var 13)), .sym (.int .i64 (.var 14))]), (8, xP 10, .agg [.sym (.int .i64 (.var 13)), .sym (.int .i64 (.var 14))])] := by
  unfold runE
  kernel_rfl
theorem apd_10 (aR aS : Addr) {al ah bl bh lo hi wd k rk rl rh wd2 : Int} (hR : ResV aR aS 10 k rk 0) (hK : KdV aR aS k lo hi wd) (hR2 : KdV aR aS rk rl rh wd2) (b0 : -2147483648 ≤ lo) (b1 : hi ≤ 4294967295) (b2 : lo = 0 ∨ (lo = -hi - 1 ∧ hi ≤ 2147483647)) (a0 : lo ≤ al) (a1 : al ≤ ah) (a2 : ah ≤ hi) (c0 : lo ≤ bl) (c1 : bl ≤ bh) (c2 : bh ≤ hi) (er : rl = lo) (eh : rh = hi) : ∃ sl sh, ApD aR aS 10 k al ah bl bh sl sh := by
  have p1 : bl ≠ 0 → 0 ≤ al % bl ∧ al % bl < max bl (-bl) := fun h => emod_bd h
  have p2 : bl ≠ 0 → 0 ≤ ah % bl ∧ ah % bl < max bl (-bl) := fun h => emod_bd h
  generalize e11 : al / bl = q1
  generalize e12 : ah / bl = q2
  generalize e13 : al % bl = s1 at *
  generalize e14 : ah % bl = s2 at *
  cases h0 : cmpI .neq (IE.ev (rho al ah bl bh lo hi wd k rk rl rh (mL [q1, q2, s1, s2])) (.var 2)) (IE.ev (rho al ah bl bh lo hi wd k rk rl rh (mL [q1, q2, s1, s2])) (.lit 0))
  · -- False
    cases h1 : cmpI .geq (IE.ev (rho al ah bl bh lo hi wd k rk rl rh (mL [q1, q2, s1, s2])) (.var 0)) (IE.ev (rho al ah bl bh lo hi wd k rk rl rh (mL [q1, q2, s1, s2])) (.lit 0))
    · -- False
      cases h2 : cmpI .leq (IE.ev (rho al ah bl bh lo hi wd k rk rl rh (mL [q1, q2, s1, s2])) (.var 9)) (IE.ev (rho al ah bl bh lo hi wd k rk rl rh (mL [q1, q2, s1, s2])) (.lit 0))
      · -- False
        exfalso; simp (disch := omega) only [IE.ev, rm_0, rm_2, rm_9, cmpI_leq, cmpI_geq, cmpI_neq, decide_eq_false_iff_not, bne_eq_false_iff_eq, ne_eq] at *; omega
      · -- True
        cases h3 : cmpI .leq (IE.ev (rho al ah bl bh lo hi wd k rk rl rh (mL [q1, q2, s1, s2])) (.tri 2 (.tri 2 (.lit 0) (.bin .sub .i64 (.var 3) (.lit 1)) (.lit 0)) (.bin .sub .i64 (.bin .sub .i64 (.lit 0) (.var 2)) (.lit 1)) (.lit 0))) (IE.ev (rho al ah bl bh lo hi wd k rk rl rh (mL [q1, q2, s1, s2])) (.var 10))
        · -- False
          exfalso; simp (disch := omega) only [IE.ev, rm_0, rm_2, rm_3, rm_9, rm_10, ev_subw, tri_2, cmpI_leq, cmpI_geq, cmpI_neq, decide_eq_true_eq, decide_eq_false_iff_not, bne_eq_false_iff_eq, ne_eq] at *; omega
        · -- True
          cases h4 : cmpI .eql (IE.ev (rho al ah bl bh lo hi wd k rk rl rh (mL [q1, q2, s1, s2])) (.var 2)) (IE.ev (rho al ah bl bh lo hi wd k rk rl rh (mL [q1, q2, s1, s2])) (.var 3))
          · -- False
            refine apd_x (r1 := .agg [.v (.int .i64 0), .sym (.int .i64 (.tri 2 (.tri 2 (.lit 0) (.bin .sub .i64 (.var 3) (.lit 1)) (.lit 0)) (.bin .sub .i64 (.bin .sub .i64 (.lit 0) (.var 2)) (.lit 1)) (.lit 0)))]) (r2 := .agg [.v (.int .i64 0), .sym (.int .i64 (.tri 2 (.bin .sub .i64 (.tri 2 (.tri 2 (.var 2) (.bin .sub .i64 (.lit 0) (.var 2)) (.lit 0)) (.tri 2 (.var 3) (.bin .sub .i64 (.lit 0) (.var 3)) (.lit 0)) (.lit 0)) (.lit 1)) (.lit 0) (.lit 0)))]) (L := L_10_0) (X := X_10_0) (m := mL [q1, q2, s1, s2]) hR hK hR2 (fun f hf => ?_) (fun u hu => ?_) (run_10_0 _ aR aS) (by rfl) (by rfl) (x := 0) (y := (IE.ev (rho al ah bl bh lo hi wd k rk rl rh (mL [q1, q2, s1, s2])) (.tri 2 (.tri 2 (.lit 0) (.bin .sub .i64 (.var 3) (.lit 1)) (.lit 0)) (.bin .sub .i64 (.bin .sub .i64 (.lit 0) (.var 2)) (.lit 1)) (.lit 0)))) (x' := 0) (y' := (IE.ev (rho al ah bl bh lo hi wd k rk rl rh (mL [q1, q2, s1, s2])) (.tri 2 (.bin .sub .i64 (.tri 2 (.tri 2 (.var 2) (.bin .sub .i64 (.lit 0) (.var 2)) (.lit 0)) (.tri 2 (.var 3) (.bin .sub .i64 (.lit 0) (.var 3)) (.lit 0)) (.lit 0)) (.lit 1)) (.lit 0) (.lit 0)))) rfl rfl (by first | rfl | (simp (disch := omega) only [IE.ev, rm_0, rm_1, rm_2, rm_3, rm_4, rm_5, rm_6, rm_7, rm_8, rm_9, rm_10, m4_11, m4_12, m4_13, m4_14, ev_addw, ev_subw, tri_2, tri_3, cmpI_leq, cmpI_geq, cmpI_lss, cmpI_gtr, cmpI_eql, cmpI_neq, decide_eq_true_eq, decide_eq_false_iff_not, beq_iff_eq, beq_eq_false_iff_ne, bne_iff_ne, bne_eq_false_iff_eq, ne_eq] at *; omega)) (by first | rfl | (simp (disch := omega) only [IE.ev, rm_0, rm_2, rm_3, rm_9, rm_10, ev_subw, tri_2, cmpI_leq, cmpI_geq, cmpI_eql, cmpI_neq, decide_eq_true_eq, decide_eq_false_iff_not, beq_eq_false_iff_ne, bne_eq_false_iff_eq, ne_eq] at *; omega))
            · simp only [L_10_0, List.mem_cons, List.not_mem_nil, or_false] at hf
              rcases hf with rfl | rfl | rfl | rfl | rfl
              · exact ⟨rfl, h0⟩
              · exact ⟨rfl, h1⟩
              · exact ⟨rfl, h2⟩
              · exact ⟨rfl, h3⟩
              · exact ⟨rfl, h4⟩
            · cases hu
          · -- True
            refine apd_x (r1 := .agg [.v (.int .i64 0), .sym (.int .i64 (.tri 2 (.tri 2 (.lit 0) (.bin .sub .i64 (.var 3) (.lit 1)) (.lit 0)) (.bin .sub .i64 (.bin .sub .i64 (.lit 0) (.var 2)) (.lit 1)) (.lit 0)))]) (r2 := .agg [.v (.int .i64 0), .sym (.int .i64 (.tri 2 (.bin .sub .i64 (.tri 2 (.tri 2 (.var 2) (.bin .sub .i64 (.lit 0) (.var 2)) (.lit 0)) (.tri 2 (.var 3) (.bin .sub .i64 (.lit 0) (.var 3)) (.lit 0)) (.lit 0)) (.lit 1)) (.lit 0) (.lit 0)))]) (L := L_10_1) (X := X_10_1) (m := mL [q1, q2, s1, s2]) hR hK hR2 (fun f hf => ?_) (fun u hu => ?_) (run_10_1 _ aR aS) (by rfl) (by rfl) (x := 0) (y := (IE.ev (rho al ah bl bh lo hi wd k rk rl rh (mL [q1, q2, s1, s2])) (.tri 2 (.tri 2 (.lit 0) (.bin .sub .i64 (.var 3) (.lit 1)) (.lit 0)) (.bin .sub .i64 (.bin .sub .i64 (.lit 0) (.var 2)) (.lit 1)) (.lit 0)))) (x' := 0) (y' := (IE.ev (rho al ah bl bh lo hi wd k rk rl rh (mL [q1, q2, s1, s2])) (.tri 2 (.bin .sub .i64 (.tri 2 (.tri 2 (.var 2) (.bin .sub .i64 (.lit 0) (.var 2)) (.lit 0)) (.tri 2 (.var 3) (.bin .sub .i64 (.lit 0) (.var 3)) (.lit 0)) (.lit 0)) (.lit 1)) (.lit 0) (.lit 0)))) rfl rfl (by first | rfl | (simp (disch := omega) only [IE.ev, rm_0, rm_1, rm_2, rm_3, rm_4, rm_5, rm_6, rm_7, rm_8, rm_9, rm_10, m4_11, m4_12, m4_13, m4_14, ev_addw, ev_subw, tri_2, tri_3, cmpI_leq, cmpI_geq, cmpI_lss, cmpI_gtr, cmpI_eql, cmpI_neq, decide_eq_true_eq, decide_eq_false_iff_not, beq_iff_eq, beq_eq_false_iff_ne, bne_iff_ne, bne_eq_false_iff_eq, ne_eq] at *; omega)) (by first | rfl | (simp (disch := omega) only [IE.ev, rm_0, rm_2, rm_3, rm_9, rm_10, ev_subw, tri_2, cmpI_leq, cmpI_geq, cmpI_eql, cmpI_neq, decide_eq_true_eq, decide_eq_false_iff_not, beq_iff_eq, bne_eq_false_iff_eq, ne_eq] at *; omega))
            · simp only [L_10_1, List.mem_cons, List.not_mem_nil, or_false] at hf
              rcases hf with rfl | rfl | rfl | rfl | rfl
              · exact ⟨rfl, h0⟩
              · exact ⟨rfl, h1⟩
              · exact ⟨rfl, h2⟩
              · exact ⟨rfl, h3⟩
              · exact ⟨rfl, h4⟩
            · cases hu
    · -- True
      cases h2 : cmpI .leq (IE.ev (rho al ah bl bh lo hi wd k rk rl rh (mL [q1, q2, s1, s2])) (.var 9)) (IE.ev (rho al ah bl bh lo hi wd k rk rl rh (mL [q1, q2, s1, s2])) (.lit 0))
      · -- False
        exfalso; simp (disch := omega) only [IE.ev, rm_0, rm_2, rm_9, cmpI_leq, cmpI_geq, cmpI_neq, decide_eq_true_eq, decide_eq_false_iff_not, bne_eq_false_iff_eq, ne_eq] at *; omega
      · -- True
        cases h3 : cmpI .leq (IE.ev (rho al ah bl bh lo hi wd k rk rl rh (mL [q1, q2, s1, s2])) (.tri 3 (.tri 2 (.tri 2 (.lit 0) (.bin .sub .i64 (.var 3) (.lit 1)) (.lit 0)) (.bin .sub .i64 (.bin .sub .i64 (.lit 0) (.var 2)) (.lit 1)) (.lit 0)) (.var 1) (.lit 0))) (IE.ev (rho al ah bl bh lo hi wd k rk rl rh (mL [q1, q2, s1, s2])) (.var 10))
        · -- False
          exfalso; simp (disch := omega) only [IE.ev, rm_0, rm_1, rm_2, rm_3, rm_9, rm_10, ev_subw, tri_2, tri_3, cmpI_leq, cmpI_geq, cmpI_neq, decide_eq_true_eq, decide_eq_false_iff_not, bne_eq_false_iff_eq, ne_eq] at *; omega
        · -- True
          cases h4 : cmpI .eql (IE.ev (rho al ah bl bh lo hi wd k rk rl rh (mL [q1, q2, s1, s2])) (.var 2)) (IE.ev (rho al ah bl bh lo hi wd k rk rl rh (mL [q1, q2, s1, s2])) (.var 3))
          · -- False
            refine apd_x (r1 := .agg [.v (.int .i64 0), .sym (.int .i64 (.tri 3 (.tri 2 (.tri 2 (.lit 0) (.bin .sub .i64 (.var 3) (.lit 1)) (.lit 0)) (.bin .sub .i64 (.bin .sub .i64 (.lit 0) (.var 2)) (.lit 1)) (.lit 0)) (.var 1) (.lit 0)))]) (r2 := .agg [.v (.int .i64 0), .sym (.int .i64 (.tri 3 (.tri 2 (.bin .sub .i64 (.tri 2 (.tri 2 (.var 2) (.bin .sub .i64 (.lit 0) (.var 2)) (.lit 0)) (.tri 2 (.var 3) (.bin .sub .i64 (.lit 0) (.var 3)) (.lit 0)) (.lit 0)) (.lit 1)) (.lit 0) (.lit 0)) (.var 1) (.lit 0)))]) (L := L_10_2) (X := X_10_2) (m := mL [q1, q2, s1, s2]) hR hK hR2 (fun f hf => ?_) (fun u hu => ?_) (run_10_2 _ aR aS) (by rfl) (by rfl) (x := 0) (y := (IE.ev (rho al ah bl bh lo hi wd k rk rl rh (mL [q1, q2, s1, s2])) (.tri 3 (.tri 2 (.tri 2 (.lit 0) (.bin .sub .i64 (.var 3) (.lit 1)) (.lit 0)) (.bin .sub .i64 (.bin .sub .i64 (.lit 0) (.var 2)) (.lit 1)) (.lit 0)) (.var 1) (.lit 0)))) (x' := 0) (y' := (IE.ev (rho al ah bl bh lo hi wd k rk rl rh (mL [q1, q2, s1, s2])) (.tri 3 (.tri 2 (.bin .sub .i64 (.tri 2 (.tri 2 (.var 2) (.bin .sub .i64 (.lit 0) (.var 2)) (.lit 0)) (.tri 2 (.var 3) (.bin .sub .i64 (.lit 0) (.var 3)) (.lit 0)) (.lit 0)) (.lit 1)) (.lit 0) (.lit 0)) (.var 1) (.lit 0)))) rfl rfl (by first | rfl | (simp (disch := omega) only [IE.ev, rm_0, rm_1, rm_2, rm_3, rm_4, rm_5, rm_6, rm_7, rm_8, rm_9, rm_10, m4_11, m4_12, m4_13, m4_14, ev_addw, ev_subw, tri_2, tri_3, cmpI_leq, cmpI_geq, cmpI_lss, cmpI_gtr, cmpI_eql, cmpI_neq, decide_eq_true_eq, decide_eq_false_iff_not, beq_iff_eq, beq_eq_false_iff_ne, bne_iff_ne, bne_eq_false_iff_eq, ne_eq] at *; omega)) (by first | rfl | (simp (disch := omega) only [IE.ev, rm_0, rm_1, rm_2, rm_3, rm_9, rm_10, ev_subw, tri_2, tri_3, cmpI_leq, cmpI_geq, cmpI_eql, cmpI_neq, decide_eq_true_eq, beq_eq_false_iff_ne, bne_eq_false_iff_eq, ne_eq] at *; omega))
            · simp only [L_10_2, List.mem_cons, List.not_mem_nil, or_false] at hf
              rcases hf with rfl | rfl | rfl | rfl | rfl
              · exact ⟨rfl, h0⟩
              · exact ⟨rfl, h1⟩
              · exact ⟨rfl, h2⟩
              · exact ⟨rfl, h3⟩
              · exact ⟨rfl, h4⟩
            · cases hu
          · -- True
            refine apd_x (r1 := .agg [.v (.int .i64 0), .sym (.int .i64 (.tri 3 (.tri 2 (.tri 2 (.lit 0) (.bin .sub .i64 (.var 3) (.lit 1)) (.lit 0)) (.bin .sub .i64 (.bin .sub .i64 (.lit 0) (.var 2)) (.lit 1)) (.lit 0)) (.var 1) (.lit 0)))]) (r2 := .agg [.v (.int .i64 0), .sym (.int .i64 (.tri 3 (.tri 2 (.bin .sub .i64 (.tri 2 (.tri 2 (.var 2) (.bin .sub .i64 (.lit 0) (.var 2)) (.lit 0)) (.tri 2 (.var 3) (.bin .sub .i64 (.lit 0) (.var 3)) (.lit 0)) (.lit 0)) (.lit 1)) (.lit 0) (.lit 0)) (.var 1) (.lit 0)))]) (L := L_10_3) (X := X_10_3) (m := mL [q1, q2, s1, s2]) hR hK hR2 (fun f hf => ?_) (fun u hu => ?_) (run_10_3 _ aR aS) (by rfl) (by rfl) (x := 0) (y := (IE.ev (rho al ah bl bh lo hi wd k rk rl rh (mL [q1, q2, s1, s2])) (.tri 3 (.tri 2 (.tri 2 (.lit 0) (.bin .sub .i64 (.var 3) (.lit 1)) (.lit 0)) (.bin .sub .i64 (.bin .sub .i64 (.lit 0) (.var 2)) (.lit 1)) (.lit 0)) (.var 1) (.lit 0)))) (x' := 0) (y' := (IE.ev (rho al ah bl bh lo hi wd k rk rl rh (mL [q1, q2, s1, s2])) (.tri 3 (.tri 2 (.bin .sub .i64 (.tri 2 (.tri 2 (.var 2) (.bin .sub .i64 (.lit 0) (.var 2)) (.lit 0)) (.tri 2 (.var 3) (.bin .sub .i64 (.lit 0) (.var 3)) (.lit 0)) (.lit 0)) (.lit 1)) (.lit 0) (.lit 0)) (.var 1) (.lit 0)))) rfl rfl (by first | rfl | (simp (disch := omega) only [IE.ev, rm_0, rm_1, rm_2, rm_3, rm_4, rm_5, rm_6, rm_7, rm_8, rm_9, rm_10, m4_11, m4_12, m4_13, m4_14, ev_addw, ev_subw, tri_2, tri_3, cmpI_leq, cmpI_geq, cmpI_lss, cmpI_gtr, cmpI_eql, cmpI_neq, decide_eq_true_eq, decide_eq_false_iff_not, beq_iff_eq, beq_eq_false_iff_ne, bne_iff_ne, bne_eq_false_iff_eq, ne_eq] at *; omega)) (by first | rfl | (simp (disch := omega) only [IE.ev, rm_0, rm_1, rm_2, rm_3, rm_9, rm_10, ev_subw, tri_2, tri_3, cmpI_leq, cmpI_geq, cmpI_eql, cmpI_neq, decide_eq_true_eq, beq_iff_eq, bne_eq_false_iff_eq, ne_eq] at *; omega))
            · simp only [L_10_3, List.mem_cons, List.not_mem_nil, or_false] at hf
              rcases hf with rfl | rfl | rfl | rfl | rfl
              · exact ⟨rfl, h0⟩
              · exact ⟨rfl, h1⟩
              · exact ⟨rfl, h2⟩
              · exact ⟨rfl, h3⟩
              · exact ⟨rfl, h4⟩
            · cases hu
  · -- True
    cases h1 : cmpI .eql (IE.ev (rho al ah bl bh lo hi wd k rk rl rh (mL [q1, q2, s1, s2])) (.var 3)) (IE.ev (rho al ah bl bh lo hi wd k rk rl rh (mL [q1, q2, s1, s2])) (.var 2))
    · -- False
      cases h2 : cmpI .geq (IE.ev (rho al ah bl bh lo hi wd k rk rl rh (mL [q1, q2, s1, s2])) (.var 0)) (IE.ev (rho al ah bl bh lo hi wd k rk rl rh (mL [q1, q2, s1, s2])) (.lit 0))
      · -- False
        cases h3 : cmpI .leq (IE.ev (rho al ah bl bh lo hi wd k rk rl rh (mL [q1, q2, s1, s2])) (.var 9)) (IE.ev (rho al ah bl bh lo hi wd k rk rl rh (mL [q1, q2, s1, s2])) (.lit 0))
        · -- False
          exfalso; simp (disch := omega) only [IE.ev, rm_0, rm_2, rm_3, rm_9, cmpI_leq, cmpI_geq, cmpI_eql, cmpI_neq, decide_eq_false_iff_not, beq_eq_false_iff_ne, bne_iff_ne, ne_eq] at *; omega
        · -- True
          cases h4 : cmpI .leq (IE.ev (rho al ah bl bh lo hi wd k rk rl rh (mL [q1, q2, s1, s2])) (.tri 2 (.tri 2 (.lit 0) (.bin .sub .i64 (.var 3) (.lit 1)) (.lit 0)) (.bin .sub .i64 (.bin .sub .i64 (.lit 0) (.var 2)) (.lit 1)) (.lit 0))) (IE.ev (rho al ah bl bh lo hi wd k rk rl rh (mL [q1, q2, s1, s2])) (.var 10))
          · -- False
            exfalso; simp (disch := omega) only [IE.ev, rm_0, rm_2, rm_3, rm_9, rm_10, ev_subw, tri_2, cmpI_leq, cmpI_geq, cmpI_eql, cmpI_neq, decide_eq_true_eq, decide_eq_false_iff_not, beq_eq_false_iff_ne, bne_iff_ne, ne_eq] at *; omega
          · -- True
            cases h5 : cmpI .eql (IE.ev (rho al ah bl bh lo hi wd k rk rl rh (mL [q1, q2, s1, s2])) (.var 2)) (IE.ev (rho al ah bl bh lo hi wd k rk rl rh (mL [q1, q2, s1, s2])) (.var 3))
            · -- False
              refine apd_x (r1 := .agg [.v (.int .i64 0), .sym (.int .i64 (.tri 2 (.tri 2 (.lit 0) (.bin .sub .i64 (.var 3) (.lit 1)) (.lit 0)) (.bin .sub .i64 (.bin .sub .i64 (.lit 0) (.var 2)) (.lit 1)) (.lit 0)))]) (r2 := .agg [.v (.int .i64 0), .sym (.int .i64 (.tri 2 (.bin .sub .i64 (.tri 2 (.tri 2 (.var 2) (.bin .sub .i64 (.lit 0) (.var 2)) (.lit 0)) (.tri 2 (.var 3) (.bin .sub .i64 (.lit 0) (.var 3)) (.lit 0)) (.lit 0)) (.lit 1)) (.lit 0) (.lit 0)))]) (L := L_10_4) (X := X_10_4) (m := mL [q1, q2, s1, s2]) hR hK hR2 (fun f hf => ?_) (fun u hu => ?_) (run_10_4 _ aR aS) (by rfl) (by rfl) (x := 0) (y := (IE.ev (rho al ah bl bh lo hi wd k rk rl rh (mL [q1, q2, s1, s2])) (.tri 2 (.tri 2 (.lit 0) (.bin .sub .i64 (.var 3) (.lit 1)) (.lit 0)) (.bin .sub .i64 (.bin .sub .i64 (.lit 0) (.var 2)) (.lit 1)) (.lit 0)))) (x' := 0) (y' := (IE.ev (rho al ah bl bh lo hi wd k rk rl rh (mL [q1, q2, s1, s2])) (.tri 2 (.bin .sub .i64 (.tri 2 (.tri 2 (.var 2) (.bin .sub .i64 (.lit 0) (.var 2)) (.lit 0)) (.tri 2 (.var 3) (.bin .sub .i64 (.lit 0) (.var 3)) (.lit 0)) (.lit 0)) (.lit 1)) (.lit 0) (.lit 0)))) rfl rfl (by first | rfl | (simp (disch := omega) only [IE.ev, rm_0, rm_1, rm_2, rm_3, rm_4, rm_5, rm_6, rm_7, rm_8, rm_9, rm_10, m4_11, m4_12, m4_13, m4_14, ev_addw, ev_subw, tri_2, tri_3, cmpI_leq, cmpI_geq, cmpI_lss, cmpI_gtr, cmpI_eql, cmpI_neq, decide_eq_true_eq, decide_eq_false_iff_not, beq_iff_eq, beq_eq_false_iff_ne, bne_iff_ne, bne_eq_false_iff_eq, ne_eq] at *; omega)) (by first | rfl | (simp (disch := omega) only [IE.ev, rm_0, rm_2, rm_3, rm_9, rm_10, ev_subw, tri_2, cmpI_leq, cmpI_geq, cmpI_eql, cmpI_neq, decide_eq_true_eq, decide_eq_false_iff_not, beq_eq_false_iff_ne, bne_iff_ne, ne_eq] at *; omega))
              · simp only [L_10_4, List.mem_cons, List.not_mem_nil, or_false] at hf
                rcases hf with rfl | rfl | rfl | rfl | rfl | rfl
                · exact ⟨rfl, h0⟩
                · exact ⟨rfl, h1⟩
                · exact ⟨rfl, h2⟩
                · exact ⟨rfl, h3⟩
                · exact ⟨rfl, h4⟩
                · exact ⟨rfl, h5⟩
              · cases hu
            · -- True
              exfalso; simp (disch := omega) only [IE.ev, rm_0, rm_2, rm_3, rm_9, rm_10, ev_subw, tri_2, cmpI_leq, cmpI_geq, cmpI_eql, cmpI_neq, decide_eq_true_eq, decide_eq_false_iff_not, beq_iff_eq, beq_eq_false_iff_ne, bne_iff_ne, ne_eq] at *; omega
      · -- True
        cases h3 : cmpI .leq (IE.ev (rho al ah bl bh lo hi wd k rk rl rh (mL [q1, q2, s1, s2])) (.var 9)) (IE.ev (rho al ah bl bh lo hi wd k rk rl rh (mL [q1, q2, s1, s2])) (.lit 0))
        · -- False
          exfalso; simp (disch := omega) only [IE.ev, rm_0, rm_2, rm_3, rm_9, cmpI_leq, cmpI_geq, cmpI_eql, cmpI_neq, decide_eq_true_eq, decide_eq_false_iff_not, beq_eq_false_iff_ne, bne_iff_ne, ne_eq] at *; omega
        · -- True
          cases h4 : cmpI .leq (IE.ev (rho al ah bl bh lo hi wd k rk rl rh (mL [q1, q2, s1, s2])) (.tri 3 (.tri 2 (.tri 2 (.lit 0) (.bin .sub .i64 (.var 3) (.lit 1)) (.lit 0)) (.bin .sub .i64 (.bin .sub .i64 (.lit 0) (.var 2)) (.lit 1)) (.lit 0)) (.var 1) (.lit 0))) (IE.ev (rho al ah bl bh lo hi wd k rk rl rh (mL [q1, q2, s1, s2])) (.var 10))
          · -- False
            exfalso; simp (disch := omega) only [IE.ev, rm_0, rm_1, rm_2, rm_3, rm_9, rm_10, ev_subw, tri_2, tri_3, cmpI_leq, cmpI_geq, cmpI_eql, cmpI_neq, decide_eq_true_eq, decide_eq_false_iff_not, beq_eq_false_iff_ne, bne_iff_ne, ne_eq] at *; omega
          · -- True
            cases h5 : cmpI .eql (IE.ev (rho al ah bl bh lo hi wd k rk rl rh (mL [q1, q2, s1, s2])) (.var 2)) (IE.ev (rho al ah bl bh lo hi wd k rk rl rh (mL [q1, q2, s1, s2])) (.var 3))
            · -- False
              refine apd_x (r1 := .agg [.v (.int .i64 0), .sym (.int .i64 (.tri 3 (.tri 2 (.tri 2 (.lit 0) (.bin .sub .i64 (.var 3) (.lit 1)) (.lit 0)) (.bin .sub .i64 (.bin .sub .i64 (.lit 0) (.var 2)) (.lit 1)) (.lit 0)) (.var 1) (.lit 0)))]) (r2 := .agg [.v (.int .i64 0), .sym (.int .i64 (.tri 3 (.tri 2 (.bin .sub .i64 (.tri 2 (.tri 2 (.var 2) (.bin .sub .i64 (.lit 0) (.var 2)) (.lit 0)) (.tri 2 (.var 3) (.bin .sub .i64 (.lit 0) (.var 3)) (.lit 0)) (.lit 0)) (.lit 1)) (.lit 0) (.lit 0)) (.var 1) (.lit 0)))]) (L := L_10_5) (X := X_10_5) (m := mL [q1, q2, s1, s2]) hR hK hR2 (fun f hf => ?_) (fun u hu => ?_) (run_10_5 _ aR aS) (by rfl) (by rfl) (x := 0) (y := (IE.ev (rho al ah bl bh lo hi wd k rk rl rh (mL [q1, q2, s1, s2])) (.tri 3 (.tri 2 (.tri 2 (.lit 0) (.bin .sub .i64 (.var 3) (.lit 1)) (.lit 0)) (.bin .sub .i64 (.bin .sub .i64 (.lit 0) (.var 2)) (.lit 1)) (.lit 0)) (.var 1) (.lit 0)))) (x' := 0) (y' := (IE.ev (rho al ah bl bh lo hi wd k rk rl rh (mL [q1, q2, s1, s2])) (.tri 3 (.tri 2 (.bin .sub .i64 (.tri 2 (.tri 2 (.var 2) (.bin .sub .i64 (.lit 0) (.var 2)) (.lit 0)) (.tri 2 (.var 3) (.bin .sub .i64 (.lit 0) (.var 3)) (.lit 0)) (.lit 0)) (.lit 1)) (.lit 0) (.lit 0)) (.var 1) (.lit 0)))) rfl rfl (by first | rfl | (simp (disch := omega) only [IE.ev, rm_0, rm_1, rm_2, rm_3, rm_4, rm_5, rm_6, rm_7, rm_8, rm_9, rm_10, m4_11, m4_12, m4_13, m4_14, ev_addw, ev_subw, tri_2, tri_3, cmpI_leq, cmpI_geq, cmpI_lss, cmpI_gtr, cmpI_eql, cmpI_neq, decide_eq_true_eq, decide_eq_false_iff_not, beq_iff_eq, beq_eq_false_iff_ne, bne_iff_ne, bne_eq_false_iff_eq, ne_eq] at *; omega)) (by first | rfl | (simp (disch := omega) only [IE.ev, rm_0, rm_1, rm_2, rm_3, rm_9, rm_10, ev_subw, tri_2, tri_3, cmpI_leq, cmpI_geq, cmpI_eql, cmpI_neq, decide_eq_true_eq, beq_eq_false_iff_ne, bne_iff_ne, ne_eq] at *; omega))
              · simp only [L_10_5, List.mem_cons, List.not_mem_nil, or_false] at hf
                rcases hf with rfl | rfl | rfl | rfl | rfl | rfl
                · exact ⟨rfl, h0⟩
                · exact ⟨rfl, h1⟩
                · exact ⟨rfl, h2⟩
                · exact ⟨rfl, h3⟩
                · exact ⟨rfl, h4⟩
                · exact ⟨rfl, h5⟩
              · cases hu
            · -- True
              exfalso; simp (disch := omega) only [IE.ev, rm_0, rm_1, rm_2, rm_3, rm_9, rm_10, ev_subw, tri_2, tri_3, cmpI_leq, cmpI_geq, cmpI_eql, cmpI_neq, decide_eq_true_eq, beq_iff_eq, beq_eq_false_iff_ne, bne_iff_ne, ne_eq] at *; omega
    · -- True
      cases h2 : cmpI .eql (IE.ev (rho al ah bl bh lo hi wd k rk rl rh (mL [q1, q2, s1, s2])) (.var 11)) (IE.ev (rho al ah bl bh lo hi wd k rk rl rh (mL [q1, q2, s1, s2])) (.var 12))
      · -- False
        cases h3 : cmpI .geq (IE.ev (rho al ah bl bh lo hi wd k rk rl rh (mL [q1, q2, s1, s2])) (.var 0)) (IE.ev (rho al ah bl bh lo hi wd k rk rl rh (mL [q1, q2, s1, s2])) (.lit 0))
        · -- False
          cases h4 : cmpI .leq (IE.ev (rho al ah bl bh lo hi wd k rk rl rh (mL [q1, q2, s1, s2])) (.var 9)) (IE.ev (rho al ah bl bh lo hi wd k rk rl rh (mL [q1, q2, s1, s2])) (.lit 0))
          · -- False
            exfalso; simp (disch := omega) only [IE.ev, rm_0, rm_2, rm_3, rm_9, m4_11, m4_12, cmpI_leq, cmpI_geq, cmpI_eql, cmpI_neq, decide_eq_false_iff_not, beq_iff_eq, beq_eq_false_iff_ne, bne_iff_ne, ne_eq] at *; omega
          · -- True
            cases h5 : cmpI .leq (IE.ev (rho al ah bl bh lo hi wd k rk rl rh (mL [q1, q2, s1, s2])) (.tri 2 (.tri 2 (.lit 0) (.bin .sub .i64 (.var 3) (.lit 1)) (.lit 0)) (.bin .sub .i64 (.bin .sub .i64 (.lit 0) (.var 2)) (.lit 1)) (.lit 0))) (IE.ev (rho al ah bl bh lo hi wd k rk rl rh (mL [q1, q2, s1, s2])) (.var 10))
            · -- False
              exfalso; simp (disch := omega) only [IE.ev, rm_0, rm_2, rm_3, rm_9, rm_10, m4_11, m4_12, ev_subw, tri_2, cmpI_leq, cmpI_geq, cmpI_eql, cmpI_neq, decide_eq_true_eq, decide_eq_false_iff_not, beq_iff_eq, beq_eq_false_iff_ne, bne_iff_ne, ne_eq] at *; omega
            · -- True
              cases h6 : cmpI .eql (IE.ev (rho al ah bl bh lo hi wd k rk rl rh (mL [q1, q2, s1, s2])) (.var 2)) (IE.ev (rho al ah bl bh lo hi wd k rk rl rh (mL [q1, q2, s1, s2])) (.var 3))
              · -- False
                exfalso; simp (disch := omega) only [IE.ev, rm_0, rm_2, rm_3, rm_9, rm_10, m4_11, m4_12, ev_subw, tri_2, cmpI_leq, cmpI_geq, cmpI_eql, cmpI_neq, decide_eq_true_eq, decide_eq_false_iff_not, beq_iff_eq, beq_eq_false_iff_ne, bne_iff_ne, ne_eq] at *; omega
              · -- True
                refine apd_x (r1 := .agg [.v (.int .i64 0), .sym (.int .i64 (.tri 2 (.tri 2 (.lit 0) (.bin .sub .i64 (.var 3) (.lit 1)) (.lit 0)) (.bin .sub .i64 (.bin .sub .i64 (.lit 0) (.var 2)) (.lit 1)) (.lit 0)))]) (r2 := .agg [.v (.int .i64 0), .sym (.int .i64 (.tri 2 (.bin .sub .i64 (.tri 2 (.tri 2 (.var 2) (.bin .sub .i64 (.lit 0) (.var 2)) (.lit 0)) (.tri 2 (.var 3) (.bin .sub .i64 (.lit 0) (.var 3)) (.lit 0)) (.lit 0)) (.lit 1)) (.lit 0) (.lit 0)))]) (L := L_10_6) (X := X_10_6) (m := mL [q1, q2, s1, s2]) hR hK hR2 (fun f hf => ?_) (fun u hu => ?_) (run_10_6 _ aR aS) (by rfl) (by rfl) (x := 0) (y := (IE.ev (rho al ah bl bh lo hi wd k rk rl rh (mL [q1, q2, s1, s2])) (.tri 2 (.tri 2 (.lit 0) (.bin .sub .i64 (.var 3) (.lit 1)) (.lit 0)) (.bin .sub .i64 (.bin .sub .i64 (.lit 0) (.var 2)) (.lit 1)) (.lit 0)))) (x' := 0) (y' := (IE.ev (rho al ah bl bh lo hi wd k rk rl rh (mL [q1, q2, s1, s2])) (.tri 2 (.bin .sub .i64 (.tri 2 (.tri 2 (.var 2) (.bin .sub .i64 (.lit 0) (.var 2)) (.lit 0)) (.tri 2 (.var 3) (.bin .sub .i64 (.lit 0) (.var 3)) (.lit 0)) (.lit 0)) (.lit 1)) (.lit 0) (.lit 0)))) rfl rfl (by first | rfl | (simp (disch := omega) only [IE.ev, rm_0, rm_1, rm_2, rm_3, rm_4, rm_5, rm_6, rm_7, rm_8, rm_9, rm_10, m4_11, m4_12, m4_13, m4_14, ev_addw, ev_subw, tri_2, tri_3, cmpI_leq, cmpI_geq, cmpI_lss, cmpI_gtr, cmpI_eql, cmpI_neq, decide_eq_true_eq, decide_eq_false_iff_not, beq_iff_eq, beq_eq_false_iff_ne, bne_iff_ne, bne_eq_false_iff_eq, ne_eq] at *; omega)) (by first | rfl | (simp (disch := omega) only [IE.ev, rm_0, rm_2, rm_3, rm_9, rm_10, m4_11, m4_12, ev_subw, tri_2, cmpI_leq, cmpI_geq, cmpI_eql, cmpI_neq, decide_eq_true_eq, decide_eq_false_iff_not, beq_iff_eq, beq_eq_false_iff_ne, bne_iff_ne, ne_eq] at *; omega))
                · simp only [L_10_6, List.mem_cons, List.not_mem_nil, or_false] at hf
                  rcases hf with rfl | rfl | rfl | rfl | rfl | rfl | rfl
                  · exact ⟨rfl, h0⟩
                  · exact ⟨rfl, h1⟩
                  · exact ⟨rfl, h2⟩
                  · exact ⟨rfl, h3⟩
                  · exact ⟨rfl, h4⟩
                  · exact ⟨rfl, h5⟩
                  · exact ⟨rfl, h6⟩
                · have hz : bl ≠ 0 := by clear hu; simp (disch := omega) only [IE.ev, rm_0, rm_2, rm_3, rm_9, rm_10, m4_11, m4_12, ev_subw, tri_2, cmpI_leq, cmpI_geq, cmpI_eql, cmpI_neq, decide_eq_true_eq, decide_eq_false_iff_not, beq_iff_eq, beq_eq_false_iff_ne, bne_iff_ne, ne_eq] at *; omega
                  simp only [X_10_6, List.mem_cons, List.not_mem_nil, or_false] at hu
                  rcases hu with rfl | rfl | rfl | rfl
                  · exact tell2 (z := q1) (by subst e11; exact qu_ok aR aS (x := al) (y := bl) hz (by omega) (by omega)) rfl rfl 11 rfl
                  · exact tell2 (z := q2) (by subst e12; exact qu_ok aR aS (x := ah) (y := bl) hz (by omega) (by omega)) rfl rfl 12 rfl
                  · exact tell2 (z := q1) (by subst e11; exact rq_ok aR aS (x := al) (y := bl) (by omega) (by omega) (by omega) (by omega)) rfl rfl 11 rfl
                  · exact tell2 (z := q2) (by subst e12; exact rq_ok aR aS (x := ah) (y := bl) (by omega) (by omega) (by omega) (by omega)) rfl rfl 12 rfl
        · -- True
          cases h4 : cmpI .leq (IE.ev (rho al ah bl bh lo hi wd k rk rl rh (mL [q1, q2, s1, s2])) (.var 9)) (IE.ev (rho al ah bl bh lo hi wd k rk rl rh (mL [q1, q2, s1, s2])) (.lit 0))
          · -- False
            exfalso; simp (disch := omega) only [IE.ev, rm_0, rm_2, rm_3, rm_9, m4_11, m4_12, cmpI_leq, cmpI_geq, cmpI_eql, cmpI_neq, decide_eq_true_eq, decide_eq_false_iff_not, beq_iff_eq, beq_eq_false_iff_ne, bne_iff_ne, ne_eq] at *; omega
          · -- True
            cases h5 : cmpI .leq (IE.ev (rho al ah bl bh lo hi wd k rk rl rh (mL [q1, q2, s1, s2])) (.tri 3 (.tri 2 (.tri 2 (.lit 0) (.bin .sub .i64 (.var 3) (.lit 1)) (.lit 0)) (.bin .sub .i64 (.bin .sub .i64 (.lit 0) (.var 2)) (.lit 1)) (.lit 0)) (.var 1) (.lit 0))) (IE.ev (rho al ah bl bh lo hi wd k rk rl rh (mL [q1, q2, s1, s2])) (.var 10))
            · -- False
              exfalso; simp (disch := omega) only [IE.ev, rm_0, rm_1, rm_2, rm_3, rm_9, rm_10, m4_11, m4_12, ev_subw, tri_2, tri_3, cmpI_leq, cmpI_geq, cmpI_eql, cmpI_neq, decide_eq_true_eq, decide_eq_false_iff_not, beq_iff_eq, beq_eq_false_iff_ne, bne_iff_ne, ne_eq] at *; omega
            · -- True
              cases h6 : cmpI .eql (IE.ev (rho al ah bl bh lo hi wd k rk rl rh (mL [q1, q2, s1, s2])) (.var 2)) (IE.ev (rho al ah bl bh lo hi wd k rk rl rh (mL [q1, q2, s1, s2])) (.var 3))
              · -- False
                exfalso; simp (disch := omega) only [IE.ev, rm_0, rm_1, rm_2, rm_3, rm_9, rm_10, m4_11, m4_12, ev_subw, tri_2, tri_3, cmpI_leq, cmpI_geq, cmpI_eql, cmpI_neq, decide_eq_true_eq, beq_iff_eq, beq_eq_false_iff_ne, bne_iff_ne, ne_eq] at *; omega
              · -- True
                refine apd_x (r1 := .agg [.v (.int .i64 0), .sym (.int .i64 (.tri 3 (.tri 2 (.tri 2 (.lit 0) (.bin .sub .i64 (.var 3) (.lit 1)) (.lit 0)) (.bin .sub .i64 (.bin .sub .i64 (.lit 0) (.var 2)) (.lit 1)) (.lit 0)) (.var 1) (.lit 0)))]) (r2 := .agg [.v (.int .i64 0), .sym (.int .i64 (.tri 3 (.tri 2 (.bin .sub .i64 (.tri 2 (.tri 2 (.var 2) (.bin .sub .i64 (.lit 0) (.var 2)) (.lit 0)) (.tri 2 (.var 3) (.bin .sub .i64 (.lit 0) (.var 3)) (.lit 0)) (.lit 0)) (.lit 1)) (.lit 0) (.lit 0)) (.var 1) (.lit 0)))]) (L := L_10_7) (X := X_10_7) (m := mL [q1, q2, s1, s2]) hR hK hR2 (fun f hf => ?_) (fun u hu => ?_) (run_10_7 _ aR aS) (by rfl) (by rfl) (x := 0) (y := (IE.ev (rho al ah bl bh lo hi wd k rk rl rh (mL [q1, q2, s1, s2])) (.tri 3 (.tri 2 (.tri 2 (.lit 0) (.bin .sub .i64 (.var 3) (.lit 1)) (.lit 0)) (.bin .sub .i64 (.bin .sub .i64 (.lit 0) (.var 2)) (.lit 1)) (.lit 0)) (.var 1) (.lit 0)))) (x' := 0) (y' := (IE.ev (rho al ah bl bh lo hi wd k rk rl rh (mL [q1, q2, s1, s2])) (.tri 3 (.tri 2 (.bin .sub .i64 (.tri 2 (.tri 2 (.var 2) (.bin .sub .i64 (.lit 0) (.var 2)) (.lit 0)) (.tri 2 (.var 3) (.bin .sub .i64 (.lit 0) (.var 3)) (.lit 0)) (.lit 0)) (.lit 1)) (.lit 0) (.lit 0)) (.var 1) (.lit 0)))) rfl rfl (by first | rfl | (simp (disch := omega) only [IE.ev, rm_0, rm_1, rm_2, rm_3, rm_4, rm_5, rm_6, rm_7, rm_8, rm_9, rm_10, m4_11, m4_12, m4_13, m4_14, ev_addw, ev_subw, tri_2, tri_3, cmpI_leq, cmpI_geq, cmpI_lss, cmpI_gtr, cmpI_eql, cmpI_neq, decide_eq_true_eq, decide_eq_false_iff_not, beq_iff_eq, beq_eq_false_iff_ne, bne_iff_ne, bne_eq_false_iff_eq, ne_eq] at *; omega)) (by first | rfl | (simp (disch := omega) only [IE.ev, rm_0, rm_1, rm_2, rm_3, rm_9, rm_10, m4_11, m4_12, ev_subw, tri_2, tri_3, cmpI_leq, cmpI_geq, cmpI_eql, cmpI_neq, decide_eq_true_eq, beq_iff_eq, beq_eq_false_iff_ne, bne_iff_ne, ne_eq] at *; omega))
                · simp only [L_10_7, List.mem_cons, List.not_mem_nil, or_false] at hf
                  rcases hf with rfl | rfl | rfl | rfl | rfl | rfl | rfl
                  · exact ⟨rfl, h0⟩
                  · exact ⟨rfl, h1⟩
                  · exact ⟨rfl, h2⟩
                  · exact ⟨rfl, h3⟩
                  · exact ⟨rfl, h4⟩
                  · exact ⟨rfl, h5⟩
                  · exact ⟨rfl, h6⟩
                · have hz : bl ≠ 0 := by clear hu; simp (disch := omega) only [IE.ev, rm_0, rm_1, rm_2, rm_3, rm_9, rm_10, m4_11, m4_12, ev_subw, tri_2, tri_3, cmpI_leq, cmpI_geq, cmpI_eql, cmpI_neq, decide_eq_true_eq, beq_iff_eq, beq_eq_false_iff_ne, bne_iff_ne, ne_eq] at *; omega
                  simp only [X_10_7, List.mem_cons, List.not_mem_nil, or_false] at hu
                  rcases hu with rfl | rfl | rfl | rfl
                  · exact tell2 (z := q1) (by subst e11; exact qu_ok aR aS (x := al) (y := bl) hz (by omega) (by omega)) rfl rfl 11 rfl
                  · exact tell2 (z := q2) (by subst e12; exact qu_ok aR aS (x := ah) (y := bl) hz (by omega) (by omega)) rfl rfl 12 rfl
                  · exact tell2 (z := q1) (by subst e11; exact rq_ok aR aS (x := al) (y := bl) (by omega) (by omega) (by omega) (by omega)) rfl rfl 11 rfl
                  · exact tell2 (z := q2) (by subst e12; exact rq_ok aR aS (x := ah) (y := bl) (by omega) (by omega) (by omega) (by omega)) rfl rfl 12 rfl
      · -- True
        cases h3 : cmpI .leq (IE.ev (rho al ah bl bh lo hi wd k rk rl rh (mL [q1, q2, s1, s2])) (.var 9)) (IE.ev (rho al ah bl bh lo hi wd k rk rl rh (mL [q1, q2, s1, s2])) (.var 13))
        · -- False
          exfalso; simp (disch := omega) only [IE.ev, rm_2, rm_3, rm_9, m4_11, m4_12, m4_13, cmpI_leq, cmpI_eql, cmpI_neq, decide_eq_false_iff_not, beq_iff_eq, bne_iff_ne, ne_eq] at *; omega
        · -- True
          cases h4 : cmpI .leq (IE.ev (rho al ah bl bh lo hi wd k rk rl rh (mL [q1, q2, s1, s2])) (.var 14)) (IE.ev (rho al ah bl bh lo hi wd k rk rl rh (mL [q1, q2, s1, s2])) (.var 10))
          · -- False
            exfalso; simp (disch := omega) only [IE.ev, rm_2, rm_3, rm_9, rm_10, m4_11, m4_12, m4_13, m4_14, cmpI_leq, cmpI_eql, cmpI_neq, decide_eq_true_eq, decide_eq_false_iff_not, beq_iff_eq, bne_iff_ne, ne_eq] at *; omega
          · -- True
            cases h5 : cmpI .eql (IE.ev (rho al ah bl bh lo hi wd k rk rl rh (mL [q1, q2, s1, s2])) (.var 2)) (IE.ev (rho al ah bl bh lo hi wd k rk rl rh (mL [q1, q2, s1, s2])) (.var 3))
            · -- False
              exfalso; simp (disch := omega) only [IE.ev, rm_2, rm_3, rm_9, rm_10, m4_11, m4_12, m4_13, m4_14, cmpI_leq, cmpI_eql, cmpI_neq, decide_eq_true_eq, beq_iff_eq, beq_eq_false_iff_ne, bne_iff_ne, ne_eq] at *; omega
            · -- True
              refine apd_x (r1 := .agg [.sym (.int .i64 (.var 13)), .sym (.int .i64 (.var 14))]) (r2 := .agg [.sym (.int .i64 (.var 13)), .sym (.int .i64 (.var 14))]) (L := L_10_8) (X := X_10_8) (m := mL [q1, q2, s1, s2]) hR hK hR2 (fun f hf => ?_) (fun u hu => ?_) (run_10_8 _ aR aS) (by rfl) (by rfl) (x := (IE.ev (rho al ah bl bh lo hi wd k rk rl rh (mL [q1, q2, s1, s2])) (.var 13))) (y := (IE.ev (rho al ah bl bh lo hi wd k rk rl rh (mL [q1, q2, s1, s2])) (.var 14))) (x' := (IE.ev (rho al ah bl bh lo hi wd k rk rl rh (mL [q1, q2, s1, s2])) (.var 13))) (y' := (IE.ev (rho al ah bl bh lo hi wd k rk rl rh (mL [q1, q2, s1, s2])) (.var 14))) rfl rfl (by first | rfl | (simp (disch := omega) only [IE.ev, rm_0, rm_1, rm_2, rm_3, rm_4, rm_5, rm_6, rm_7, rm_8, rm_9, rm_10, m4_11, m4_12, m4_13, m4_14, ev_addw, ev_subw, tri_2, tri_3, cmpI_leq, cmpI_geq, cmpI_lss, cmpI_gtr, cmpI_eql, cmpI_neq, decide_eq_true_eq, decide_eq_false_iff_not, beq_iff_eq, beq_eq_false_iff_ne, bne_iff_ne, bne_eq_false_iff_eq, ne_eq] at *; omega)) (by first | rfl | (simp (disch := omega) only [IE.ev, rm_0, rm_1, rm_2, rm_3, rm_4, rm_5, rm_6, rm_7, rm_8, rm_9, rm_10, m4_11, m4_12, m4_13, m4_14, ev_addw, ev_subw, tri_2, tri_3, cmpI_leq, cmpI_geq, cmpI_lss, cmpI_gtr, cmpI_eql, cmpI_neq, decide_eq_true_eq, decide_eq_false_iff_not, beq_iff_eq, beq_eq_false_iff_ne, bne_iff_ne, bne_eq_false_iff_eq, ne_eq] at *; omega))
              · simp only [L_10_8, List.mem_cons, List.not_mem_nil, or_false] at hf
                rcases hf with rfl | rfl | rfl | rfl | rfl | rfl
                · exact ⟨rfl, h0⟩
                · exact ⟨rfl, h1⟩
                · exact ⟨rfl, h2⟩
                · exact ⟨rfl, h3⟩
                · exact ⟨rfl, h4⟩
                · exact ⟨rfl, h5⟩
              · have hz : bl ≠ 0 := by clear hu; simp (disch := omega) only [IE.ev, rm_2, rm_3, rm_9, rm_10, m4_11, m4_12, m4_13, m4_14, cmpI_leq, cmpI_eql, cmpI_neq, decide_eq_true_eq, beq_iff_eq, bne_iff_ne, ne_eq] at *; omega
                simp only [X_10_8, List.mem_cons, List.not_mem_nil, or_false] at hu
                rcases hu with rfl | rfl | rfl | rfl | rfl | rfl | rfl | rfl
                · exact tell2 (z := q1) (by subst e11; exact qu_ok aR aS (x := al) (y := bl) hz (by omega) (by omega)) rfl rfl 11 rfl
                · exact tell2 (z := q2) (by subst e12; exact qu_ok aR aS (x := ah) (y := bl) hz (by omega) (by omega)) rfl rfl 12 rfl
                · exact tell2 (z := s1) (by subst e13; exact pr_ok aR aS (x := al) (y := bl) hz (by omega) (by omega) (by omega) (by omega)) rfl rfl 13 rfl
                · exact tell2 (z := s2) (by subst e14; exact pr_ok aR aS (x := ah) (y := bl) hz (by omega) (by omega) (by omega) (by omega)) rfl rfl 14 rfl
                · exact tell2 (z := q1) (by subst e11; exact rq_ok aR aS (x := al) (y := bl) (by omega) (by omega) (by omega) (by omega)) rfl rfl 11 rfl
                · exact tell2 (z := q2) (by subst e12; exact rq_ok aR aS (x := ah) (y := bl) (by omega) (by omega) (by omega) (by omega)) rfl rfl 12 rfl
                · exact tell2 (z := s1) (by subst e13; exact rr_ok aR aS (x := al) (y := bl) hz (by omega) (by omega) (by omega) (by omega)) rfl rfl 13 rfl
                · exact tell2 (z := s2) (by subst e14; exact rr_ok aR aS (x := ah) (y := bl) hz (by omega) (by omega) (by omega) (by omega)) rfl rfl 14 rfl
end
end Go.Proofs.YtgecchiocfkpkaaGreatDoor
