import Derived.Test.YtgecchiocfkpkaaGreatDoorLF
namespace Go.Proofs.YtgecchiocfkpkaaGreatDoor
noncomputable section
open Go Go.RX
open Go.RowKit (Below)
set_option maxRecDepth 1000000
set_option maxHeartbeats 4000000
def L_11_0 : List CF := [⟨.leq, (.var 9), (.tri 3 (.tri 3 (.tri 3 (.tri 3 (.var 0) (.var 2) (.lit 0)) (.tri 3 (.var 0) (.var 3) (.lit 0)) (.lit 0)) (.tri 3 (.var 1) (.var 2) (.lit 0)) (.lit 0)) (.tri 3 (.var 1) (.var 3) (.lit 0)) (.lit 0)), true⟩, ⟨.leq, (.tri 2 (.tri 2 (.tri 2 (.tri 3 (.var 0) (.var 2) (.lit 0)) (.tri 3 (.var 0) (.var 3) (.lit 0)) (.lit 0)) (.tri 3 (.var 1) (.var 2) (.lit 0)) (.lit 0)) (.tri 3 (.var 1) (.var 3) (.lit 0)) (.lit 0)), (.var 10), true⟩]
theorem run_11_0 (ρ : Nat → Int) (aR aS : Addr) : runE ρ aR aS L_11_0 (U_op 11) [(24, xP 11, .agg [.sym (.int .i64 (.tri 3 (.tri 3 (.tri 3 (.tri 3 (.var 0) (.var 2) (.lit 0)) (.tri 3 (.var 0) (.var 3) (.lit 0)) (.lit 0)) (.tri 3 (.var 1) (.var 2) (.lit 0)) (.lit 0)) (.tri 3 (.var 1) (.var 3) (.lit 0)) (.lit 0))), .sym (.int .i64 (.tri 2 (.tri 2 (.tri 2 (.tri 3 (.var 0) (.var 2) (.lit 0)) (.tri 3 (.var 0) (.var 3) (.lit 0)) (.lit 0)) (.tri 3 (.var 1) (.var 2) (.lit 0)) (.lit 0)) (.tri 3 (.var 1) (.var 3) (.lit 0)) (.lit 0)))]), (8, xP 11, .agg [.sym (.int .i64 (.tri 3 (.var 0) (.var 2) (.lit 0))), .sym (.int .i64 (.tri 3 (.var 1) (.var 3) (.lit 0)))])] := by
  unfold runE
  kernel_rfl
theorem apd_11 (aR aS : Addr) {al ah bl bh lo hi wd k rk rl rh wd2 : Int} (hR : ResV aR aS 11 k rk 0) (hK : KdV aR aS k lo hi wd) (hR2 : KdV aR aS rk rl rh wd2) (_ : -2147483648 ≤ lo) (_ : hi ≤ 4294967295) (a0 : lo ≤ al) (a1 : al ≤ ah) (a2 : ah ≤ hi) (c0 : lo ≤ bl) (c1 : bl ≤ bh) (c2 : bh ≤ hi) (er : rl = lo) (eh : rh = hi) : ∃ sl sh, ApD aR aS 11 k al ah bl bh sl sh := by
  cases h0 : cmpI .leq (IE.ev (rP al ah bl bh lo hi wd k rk rl rh) (.var 9)) (IE.ev (rP al ah bl bh lo hi wd k rk rl rh) (.tri 3 (.tri 3 (.tri 3 (.tri 3 (.var 0) (.var 2) (.lit 0)) (.tri 3 (.var 0) (.var 3) (.lit 0)) (.lit 0)) (.tri 3 (.var 1) (.var 2) (.lit 0)) (.lit 0)) (.tri 3 (.var 1) (.var 3) (.lit 0)) (.lit 0)))
  · -- False
    exfalso; (simp (disch := omega) only [IE.ev, rP_0, rP_1, rP_2, rP_3, rP_9, tri_3, cmpI_leq, decide_eq_false_iff_not] at *; omega)
  · -- True
    cases h1 : cmpI .leq (IE.ev (rP al ah bl bh lo hi wd k rk rl rh) (.tri 2 (.tri 2 (.tri 2 (.tri 3 (.var 0) (.var 2) (.lit 0)) (.tri 3 (.var 0) (.var 3) (.lit 0)) (.lit 0)) (.tri 3 (.var 1) (.var 2) (.lit 0)) (.lit 0)) (.tri 3 (.var 1) (.var 3) (.lit 0)) (.lit 0))) (IE.ev (rP al ah bl bh lo hi wd k rk rl rh) (.var 10))
    · -- False
      exfalso; (simp (disch := omega) only [IE.ev, rP_0, rP_1, rP_2, rP_3, rP_9, rP_10, tri_2, tri_3, cmpI_leq, decide_eq_true_eq, decide_eq_false_iff_not] at *; omega)
    · -- True
      exact apd_of (r1 := .agg [.sym (.int .i64 (.tri 3 (.tri 3 (.tri 3 (.tri 3 (.var 0) (.var 2) (.lit 0)) (.tri 3 (.var 0) (.var 3) (.lit 0)) (.lit 0)) (.tri 3 (.var 1) (.var 2) (.lit 0)) (.lit 0)) (.tri 3 (.var 1) (.var 3) (.lit 0)) (.lit 0))), .sym (.int .i64 (.tri 2 (.tri 2 (.tri 2 (.tri 3 (.var 0) (.var 2) (.lit 0)) (.tri 3 (.var 0) (.var 3) (.lit 0)) (.lit 0)) (.tri 3 (.var 1) (.var 2) (.lit 0)) (.lit 0)) (.tri 3 (.var 1) (.var 3) (.lit 0)) (.lit 0)))]) (r2 := .agg [.sym (.int .i64 (.tri 3 (.var 0) (.var 2) (.lit 0))), .sym (.int .i64 (.tri 3 (.var 1) (.var 3) (.lit 0)))]) (L := L_11_0) hR hK hR2 (fun f hf => by
            simp only [L_11_0, List.mem_cons, List.not_mem_nil, or_false] at hf
            rcases hf with rfl | rfl
            · exact ⟨rfl, h0⟩
            · exact ⟨rfl, h1⟩) (run_11_0 _ aR aS) (by rfl) (by rfl) (x := (IE.ev (rP al ah bl bh lo hi wd k rk rl rh) (.tri 3 (.tri 3 (.tri 3 (.tri 3 (.var 0) (.var 2) (.lit 0)) (.tri 3 (.var 0) (.var 3) (.lit 0)) (.lit 0)) (.tri 3 (.var 1) (.var 2) (.lit 0)) (.lit 0)) (.tri 3 (.var 1) (.var 3) (.lit 0)) (.lit 0)))) (y := (IE.ev (rP al ah bl bh lo hi wd k rk rl rh) (.tri 2 (.tri 2 (.tri 2 (.tri 3 (.var 0) (.var 2) (.lit 0)) (.tri 3 (.var 0) (.var 3) (.lit 0)) (.lit 0)) (.tri 3 (.var 1) (.var 2) (.lit 0)) (.lit 0)) (.tri 3 (.var 1) (.var 3) (.lit 0)) (.lit 0)))) (x' := (IE.ev (rP al ah bl bh lo hi wd k rk rl rh) (.tri 3 (.var 0) (.var 2) (.lit 0)))) (y' := (IE.ev (rP al ah bl bh lo hi wd k rk rl rh) (.tri 3 (.var 1) (.var 3) (.lit 0)))) rfl rfl (by first | rfl | (simp (disch := omega) only [IE.ev, rP_0, rP_1, rP_2, rP_3, rP_9, rP_10, tri_2, tri_3, cmpI_leq, decide_eq_true_eq] at *; omega)) (by first | rfl | (simp (disch := omega) only [IE.ev, rP_0, rP_1, rP_2, rP_3, rP_9, rP_10, tri_2, tri_3, cmpI_leq, decide_eq_true_eq] at *; omega))
def L_12_0 : List CF := [⟨.leq, (.var 9), (.tri 3 (.tri 3 (.tri 3 (.tri 2 (.var 0) (.var 2) (.lit 0)) (.tri 2 (.var 0) (.var 3) (.lit 0)) (.lit 0)) (.tri 2 (.var 1) (.var 2) (.lit 0)) (.lit 0)) (.tri 2 (.var 1) (.var 3) (.lit 0)) (.lit 0)), true⟩, ⟨.leq, (.tri 2 (.tri 2 (.tri 2 (.tri 2 (.var 0) (.var 2) (.lit 0)) (.tri 2 (.var 0) (.var 3) (.lit 0)) (.lit 0)) (.tri 2 (.var 1) (.var 2) (.lit 0)) (.lit 0)) (.tri 2 (.var 1) (.var 3) (.lit 0)) (.lit 0)), (.var 10), true⟩]
theorem run_12_0 (ρ : Nat → Int) (aR aS : Addr) : runE ρ aR aS L_12_0 (U_op 12) [(24, xP 12, .agg [.sym (.int .i64 (.tri 3 (.tri 3 (.tri 3 (.tri 2 (.var 0) (.var 2) (.lit 0)) (.tri 2 (.var 0) (.var 3) (.lit 0)) (.lit 0)) (.tri 2 (.var 1) (.var 2) (.lit 0)) (.lit 0)) (.tri 2 (.var 1) (.var 3) (.lit 0)) (.lit 0))), .sym (.int .i64 (.tri 2 (.tri 2 (.tri 2 (.tri 2 (.var 0) (.var 2) (.lit 0)) (.tri 2 (.var 0) (.var 3) (.lit 0)) (.lit 0)) (.tri 2 (.var 1) (.var 2) (.lit 0)) (.lit 0)) (.tri 2 (.var 1) (.var 3) (.lit 0)) (.lit 0)))]), (8, xP 12, .agg [.sym (.int .i64 (.tri 2 (.var 0) (.var 2) (.lit 0))), .sym (.int .i64 (.tri 2 (.var 1) (.var 3) (.lit 0)))])] := by
  unfold runE
  kernel_rfl
theorem apd_12 (aR aS : Addr) {al ah bl bh lo hi wd k rk rl rh wd2 : Int} (hR : ResV aR aS 12 k rk 0) (hK : KdV aR aS k lo hi wd) (hR2 : KdV aR aS rk rl rh wd2) (_ : -2147483648 ≤ lo) (_ : hi ≤ 4294967295) (a0 : lo ≤ al) (a1 : al ≤ ah) (a2 : ah ≤ hi) (c0 : lo ≤ bl) (c1 : bl ≤ bh) (c2 : bh ≤ hi) (er : rl = lo) (eh : rh = hi) : ∃ sl sh, ApD aR aS 12 k al ah bl bh sl sh := by
  cases h0 : cmpI .leq (IE.ev (rP al ah bl bh lo hi wd k rk rl rh) (.var 9)) (IE.ev (rP al ah bl bh lo hi wd k rk rl rh) (.tri 3 (.tri 3 (.tri 3 (.tri 2 (.var 0) (.var 2) (.lit 0)) (.tri 2 (.var 0) (.var 3) (.lit 0)) (.lit 0)) (.tri 2 (.var 1) (.var 2) (.lit 0)) (.lit 0)) (.tri 2 (.var 1) (.var 3) (.lit 0)) (.lit 0)))
  · -- False
    exfalso; (simp (disch := omega) only [IE.ev, rP_0, rP_1, rP_2, rP_3, rP_9, tri_2, tri_3, cmpI_leq, decide_eq_false_iff_not] at *; omega)
  · -- True
    cases h1 : cmpI .leq (IE.ev (rP al ah bl bh lo hi wd k rk rl rh) (.tri 2 (.tri 2 (.tri 2 (.tri 2 (.var 0) (.var 2) (.lit 0)) (.tri 2 (.var 0) (.var 3) (.lit 0)) (.lit 0)) (.tri 2 (.var 1) (.var 2) (.lit 0)) (.lit 0)) (.tri 2 (.var 1) (.var 3) (.lit 0)) (.lit 0))) (IE.ev (rP al ah bl bh lo hi wd k rk rl rh) (.var 10))
    · -- False
      exfalso; (simp (disch := omega) only [IE.ev, rP_0, rP_1, rP_2, rP_3, rP_9, rP_10, tri_2, tri_3, cmpI_leq, decide_eq_true_eq, decide_eq_false_iff_not] at *; omega)
    · -- True
      exact apd_of (r1 := .agg [.sym (.int .i64 (.tri 3 (.tri 3 (.tri 3 (.tri 2 (.var 0) (.var 2) (.lit 0)) (.tri 2 (.var 0) (.var 3) (.lit 0)) (.lit 0)) (.tri 2 (.var 1) (.var 2) (.lit 0)) (.lit 0)) (.tri 2 (.var 1) (.var 3) (.lit 0)) (.lit 0))), .sym (.int .i64 (.tri 2 (.tri 2 (.tri 2 (.tri 2 (.var 0) (.var 2) (.lit 0)) (.tri 2 (.var 0) (.var 3) (.lit 0)) (.lit 0)) (.tri 2 (.var 1) (.var 2) (.lit 0)) (.lit 0)) (.tri 2 (.var 1) (.var 3) (.lit 0)) (.lit 0)))]) (r2 := .agg [.sym (.int .i64 (.tri 2 (.var 0) (.var 2) (.lit 0))), .sym (.int .i64 (.tri 2 (.var 1) (.var 3) (.lit 0)))]) (L := L_12_0) hR hK hR2 (fun f hf => by
            simp only [L_12_0, List.mem_cons, List.not_mem_nil, or_false] at hf
            rcases hf with rfl | rfl
            · exact ⟨rfl, h0⟩
            · exact ⟨rfl, h1⟩) (run_12_0 _ aR aS) (by rfl) (by rfl) (x := (IE.ev (rP al ah bl bh lo hi wd k rk rl rh) (.tri 3 (.tri 3 (.tri 3 (.tri 2 (.var 0) (.var 2) (.lit 0)) (.tri 2 (.var 0) (.var 3) (.lit 0)) (.lit 0)) (.tri 2 (.var 1) (.var 2) (.lit 0)) (.lit 0)) (.tri 2 (.var 1) (.var 3) (.lit 0)) (.lit 0)))) (y := (IE.ev (rP al ah bl bh lo hi wd k rk rl rh) (.tri 2 (.tri 2 (.tri 2 (.tri 2 (.var 0) (.var 2) (.lit 0)) (.tri 2 (.var 0) (.var 3) (.lit 0)) (.lit 0)) (.tri 2 (.var 1) (.var 2) (.lit 0)) (.lit 0)) (.tri 2 (.var 1) (.var 3) (.lit 0)) (.lit 0)))) (x' := (IE.ev (rP al ah bl bh lo hi wd k rk rl rh) (.tri 2 (.var 0) (.var 2) (.lit 0)))) (y' := (IE.ev (rP al ah bl bh lo hi wd k rk rl rh) (.tri 2 (.var 1) (.var 3) (.lit 0)))) rfl rfl (by first | rfl | (simp (disch := omega) only [IE.ev, rP_0, rP_1, rP_2, rP_3, rP_9, rP_10, tri_2, tri_3, cmpI_leq, decide_eq_true_eq] at *; omega)) (by first | rfl | (simp (disch := omega) only [IE.ev, rP_0, rP_1, rP_2, rP_3, rP_9, rP_10, tri_2, tri_3, cmpI_leq, decide_eq_true_eq] at *; omega))
end
end Go.Proofs.YtgecchiocfkpkaaGreatDoor

namespace Go.Proofs.YtgecchiocfkpkaaGreatDoor
noncomputable section
open Go Go.RX
open Go.RowKit (Below)
set_option maxRecDepth 1000000
set_option maxHeartbeats 4000000
def L_6_0 : List CF := [⟨.leq, (.var 9), (.tri 3 (.tri 3 (.tri 3 (.bin .add .i64 (.var 0) (.var 2)) (.bin .add .i64 (.var 0) (.var 3)) (.lit 0)) (.bin .add .i64 (.var 1) (.var 2)) (.lit 0)) (.bin .add .i64 (.var 1) (.var 3)) (.lit 0)), false⟩, ⟨.geq, (.bin .add .i64 (.var 0) (.var 2)), (.var 9), false⟩]
theorem run_6_0 (ρ : Nat → Int) (aR aS : Addr) : runE ρ aR aS L_6_0 (U_op 6) [(24, xP 6, .agg [.sym (.int .i64 (.var 9)), .sym (.int .i64 (.var 10))]), (8, xP 6, .agg [.sym (.int .i64 (.var 9)), .sym (.int .i64 (.var 10))])] := by
  unfold runE
  kernel_rfl
def L_6_1 : List CF := [⟨.leq, (.var 9), (.tri 3 (.tri 3 (.tri 3 (.bin .add .i64 (.var 0) (.var 2)) (.bin .add .i64 (.var 0) (.var 3)) (.lit 0)) (.bin .add .i64 (.var 1) (.var 2)) (.lit 0)) (.bin .add .i64 (.var 1) (.var 3)) (.lit 0)), true⟩, ⟨.leq, (.tri 2 (.tri 2 (.tri 2 (.bin .add .i64 (.var 0) (.var 2)) (.bin .add .i64 (.var 0) (.var 3)) (.lit 0)) (.bin .add .i64 (.var 1) (.var 2)) (.lit 0)) (.bin .add .i64 (.var 1) (.var 3)) (.lit 0)), (.var 10), false⟩, ⟨.geq, (.bin .add .i64 (.var 0) (.var 2)), (.var 9), true⟩, ⟨.leq, (.bin .add .i64 (.var 1) (.var 3)), (.var 10), false⟩]
theorem run_6_1 (ρ : Nat → Int) (aR aS : Addr) : runE ρ aR aS L_6_1 (U_op 6) [(24, xP 6, .agg [.sym (.int .i64 (.var 9)), .sym (.int .i64 (.var 10))]), (8, xP 6, .agg [.sym (.int .i64 (.var 9)), .sym (.int .i64 (.var 10))])] := by
  unfold runE
  kernel_rfl
def L_6_2 : List CF := [⟨.leq, (.var 9), (.tri 3 (.tri 3 (.tri 3 (.bin .add .i64 (.var 0) (.var 2)) (.bin .add .i64 (.var 0) (.var 3)) (.lit 0)) (.bin .add .i64 (.var 1) (.var 2)) (.lit 0)) (.bin .add .i64 (.var 1) (.var 3)) (.lit 0)), true⟩, ⟨.leq, (.tri 2 (.tri 2 (.tri 2 (.bin .add .i64 (.var 0) (.var 2)) (.bin .add .i64 (.var 0) (.var 3)) (.lit 0)) (.bin .add .i64 (.var 1) (.var 2)) (.lit 0)) (.bin .add .i64 (.var 1) (.var 3)) (.lit 0)), (.var 10), true⟩, ⟨.geq, (.bin .add .i64 (.var 0) (.var 2)), (.var 9), true⟩, ⟨.leq, (.bin .add .i64 (.var 1) (.var 3)), (.var 10), true⟩]
theorem run_6_2 (ρ : Nat → Int) (aR aS : Addr) : runE ρ aR aS L_6_2 (U_op 6) [(24, xP 6, .agg [.sym (.int .i64 (.tri 3 (.tri 3 (.tri 3 (.bin .add .i64 (.var 0) (.var 2)) (.bin .add .i64 (.var 0) (.var 3)) (.lit 0)) (.bin .add .i64 (.var 1) (.var 2)) (.lit 0)) (.bin .add .i64 (.var 1) (.var 3)) (.lit 0))), .sym (.int .i64 (.tri 2 (.tri 2 (.tri 2 (.bin .add .i64 (.var 0) (.var 2)) (.bin .add .i64 (.var 0) (.var 3)) (.lit 0)) (.bin .add .i64 (.var 1) (.var 2)) (.lit 0)) (.bin .add .i64 (.var 1) (.var 3)) (.lit 0)))]), (8, xP 6, .agg [.sym (.int .i64 (.bin .add .i64 (.var 0) (.var 2))), .sym (.int .i64 (.bin .add .i64 (.var 1) (.var 3)))])] := by
  unfold runE
  kernel_rfl
theorem apd_6 (aR aS : Addr) {al ah bl bh lo hi wd k rk rl rh wd2 : Int} (hR : ResV aR aS 6 k rk 0) (hK : KdV aR aS k lo hi wd) (hR2 : KdV aR aS rk rl rh wd2) (b0 : -2147483648 ≤ lo) (b1 : hi ≤ 4294967295) (a0 : lo ≤ al) (a1 : al ≤ ah) (a2 : ah ≤ hi) (c0 : lo ≤ bl) (c1 : bl ≤ bh) (c2 : bh ≤ hi) (er : rl = lo) (eh : rh = hi) : ∃ sl sh, ApD aR aS 6 k al ah bl bh sl sh := by
  cases h0 : cmpI .leq (IE.ev (rP al ah bl bh lo hi wd k rk rl rh) (.var 9)) (IE.ev (rP al ah bl bh lo hi wd k rk rl rh) (.tri 3 (.tri 3 (.tri 3 (.bin .add .i64 (.var 0) (.var 2)) (.bin .add .i64 (.var 0) (.var 3)) (.lit 0)) (.bin .add .i64 (.var 1) (.var 2)) (.lit 0)) (.bin .add .i64 (.var 1) (.var 3)) (.lit 0)))
  · -- False
    cases h1 : cmpI .geq (IE.ev (rP al ah bl bh lo hi wd k rk rl rh) (.bin .add .i64 (.var 0) (.var 2))) (IE.ev (rP al ah bl bh lo hi wd k rk rl rh) (.var 9))
    · -- False
      exact apd_of (r1 := .agg [.sym (.int .i64 (.var 9)), .sym (.int .i64 (.var 10))]) (r2 := .agg [.sym (.int .i64 (.var 9)), .sym (.int .i64 (.var 10))]) (L := L_6_0) hR hK hR2 (fun f hf => by
            simp only [L_6_0, List.mem_cons, List.not_mem_nil, or_false] at hf
            rcases hf with rfl | rfl
            · exact ⟨rfl, h0⟩
            · exact ⟨rfl, h1⟩) (run_6_0 _ aR aS) (by rfl) (by rfl) (x := (IE.ev (rP al ah bl bh lo hi wd k rk rl rh) (.var 9))) (y := (IE.ev (rP al ah bl bh lo hi wd k rk rl rh) (.var 10))) (x' := (IE.ev (rP al ah bl bh lo hi wd k rk rl rh) (.var 9))) (y' := (IE.ev (rP al ah bl bh lo hi wd k rk rl rh) (.var 10))) rfl rfl (by first | rfl | (simp (disch := omega) only [IE.ev, rP_0, rP_1, rP_2, rP_3, rP_4, rP_5, rP_6, rP_7, rP_8, rP_9, rP_10, ev_addw, ev_subw, ev_shr1, ev_quo2, ev_rem2, tri_2, tri_3, cmpI_leq, cmpI_geq, cmpI_lss, cmpI_gtr, cmpI_eql, cmpI_neq, decide_eq_true_eq, decide_eq_false_iff_not, beq_iff_eq, beq_eq_false_iff_ne, bne_iff_ne, bne_eq_false_iff_eq] at *; omega)) (by first | rfl | (simp (disch := omega) only [IE.ev, rP_0, rP_1, rP_2, rP_3, rP_4, rP_5, rP_6, rP_7, rP_8, rP_9, rP_10, ev_addw, ev_subw, ev_shr1, ev_quo2, ev_rem2, tri_2, tri_3, cmpI_leq, cmpI_geq, cmpI_lss, cmpI_gtr, cmpI_eql, cmpI_neq, decide_eq_true_eq, decide_eq_false_iff_not, beq_iff_eq, beq_eq_false_iff_ne, bne_iff_ne, bne_eq_false_iff_eq] at *; omega))
    · -- True
      exfalso; (simp (disch := omega) only [IE.ev, rP_0, rP_1, rP_2, rP_3, rP_9, ev_addw, tri_3, cmpI_leq, cmpI_geq, decide_eq_true_eq, decide_eq_false_iff_not] at *; omega)
  · -- True
    cases h1 : cmpI .leq (IE.ev (rP al ah bl bh lo hi wd k rk rl rh) (.tri 2 (.tri 2 (.tri 2 (.bin .add .i64 (.var 0) (.var 2)) (.bin .add .i64 (.var 0) (.var 3)) (.lit 0)) (.bin .add .i64 (.var 1) (.var 2)) (.lit 0)) (.bin .add .i64 (.var 1) (.var 3)) (.lit 0))) (IE.ev (rP al ah bl bh lo hi wd k rk rl rh) (.var 10))
    · -- False
      cases h2 : cmpI .geq (IE.ev (rP al ah bl bh lo hi wd k rk rl rh) (.bin .add .i64 (.var 0) (.var 2))) (IE.ev (rP al ah bl bh lo hi wd k rk rl rh) (.var 9))
      · -- False
        exfalso; (simp (disch := omega) only [IE.ev, rP_0, rP_1, rP_2, rP_3, rP_9, rP_10, ev_addw, tri_2, tri_3, cmpI_leq, cmpI_geq, decide_eq_true_eq, decide_eq_false_iff_not] at *; omega)
      · -- True
        cases h3 : cmpI .leq (IE.ev (rP al ah bl bh lo hi wd k rk rl rh) (.bin .add .i64 (.var 1) (.var 3))) (IE.ev (rP al ah bl bh lo hi wd k rk rl rh) (.var 10))
        · -- False
          exact apd_of (r1 := .agg [.sym (.int .i64 (.var 9)), .sym (.int .i64 (.var 10))]) (r2 := .agg [.sym (.int .i64 (.var 9)), .sym (.int .i64 (.var 10))]) (L := L_6_1) hR hK hR2 (fun f hf => by
                simp only [L_6_1, List.mem_cons, List.not_mem_nil, or_false] at hf
                rcases hf with rfl | rfl | rfl | rfl
                · exact ⟨rfl, h0⟩
                · exact ⟨rfl, h1⟩
                · exact ⟨rfl, h2⟩
                · exact ⟨rfl, h3⟩) (run_6_1 _ aR aS) (by rfl) (by rfl) (x := (IE.ev (rP al ah bl bh lo hi wd k rk rl rh) (.var 9))) (y := (IE.ev (rP al ah bl bh lo hi wd k rk rl rh) (.var 10))) (x' := (IE.ev (rP al ah bl bh lo hi wd k rk rl rh) (.var 9))) (y' := (IE.ev (rP al ah bl bh lo hi wd k rk rl rh) (.var 10))) rfl rfl (by first | rfl | (simp (disch := omega) only [IE.ev, rP_0, rP_1, rP_2, rP_3, rP_4, rP_5, rP_6, rP_7, rP_8, rP_9, rP_10, ev_addw, ev_subw, ev_shr1, ev_quo2, ev_rem2, tri_2, tri_3, cmpI_leq, cmpI_geq, cmpI_lss, cmpI_gtr, cmpI_eql, cmpI_neq, decide_eq_true_eq, decide_eq_false_iff_not, beq_iff_eq, beq_eq_false_iff_ne, bne_iff_ne, bne_eq_false_iff_eq] at *; omega)) (by first | rfl | (simp (disch := omega) only [IE.ev, rP_0, rP_1, rP_2, rP_3, rP_4, rP_5, rP_6, rP_7, rP_8, rP_9, rP_10, ev_addw, ev_subw, ev_shr1, ev_quo2, ev_rem2, tri_2, tri_3, cmpI_leq, cmpI_geq, cmpI_lss, cmpI_gtr, cmpI_eql, cmpI_neq, decide_eq_true_eq, decide_eq_false_iff_not, beq_iff_eq, beq_eq_false_iff_ne, bne_iff_ne, bne_eq_false_iff_eq] at *; omega))
        · -- True
          exfalso; (simp (disch := omega) only [IE.ev, rP_0, rP_1, rP_2, rP_3, rP_9, rP_10, ev_addw, tri_2, tri_3, cmpI_leq, cmpI_geq, decide_eq_true_eq, decide_eq_false_iff_not] at *; omega)
    · -- True
      cases h2 : cmpI .geq (IE.ev (rP al ah bl bh lo hi wd k rk rl rh) (.bin .add .i64 (.var 0) (.var 2))) (IE.ev (rP al ah bl bh lo hi wd k rk rl rh) (.var 9))
      · -- False
        exfalso; (simp (disch := omega) only [IE.ev, rP_0, rP_1, rP_2, rP_3, rP_9, rP_10, ev_addw, tri_2, tri_3, cmpI_leq, cmpI_geq, decide_eq_true_eq, decide_eq_false_iff_not] at *; omega)
      · -- True
        cases h3 : cmpI .leq (IE.ev (rP al ah bl bh lo hi wd k rk rl rh) (.bin .add .i64 (.var 1) (.var 3))) (IE.ev (rP al ah bl bh lo hi wd k rk rl rh) (.var 10))
        · -- False
          exfalso; (simp (disch := omega) only [IE.ev, rP_0, rP_1, rP_2, rP_3, rP_9, rP_10, ev_addw, tri_2, tri_3, cmpI_leq, cmpI_geq, decide_eq_true_eq, decide_eq_false_iff_not] at *; omega)
        · -- True
          exact apd_of (r1 := .agg [.sym (.int .i64 (.tri 3 (.tri 3 (.tri 3 (.bin .add .i64 (.var 0) (.var 2)) (.bin .add .i64 (.var 0) (.var 3)) (.lit 0)) (.bin .add .i64 (.var 1) (.var 2)) (.lit 0)) (.bin .add .i64 (.var 1) (.var 3)) (.lit 0))), .sym (.int .i64 (.tri 2 (.tri 2 (.tri 2 (.bin .add .i64 (.var 0) (.var 2)) (.bin .add .i64 (.var 0) (.var 3)) (.lit 0)) (.bin .add .i64 (.var 1) (.var 2)) (.lit 0)) (.bin .add .i64 (.var 1) (.var 3)) (.lit 0)))]) (r2 := .agg [.sym (.int .i64 (.bin .add .i64 (.var 0) (.var 2))), .sym (.int .i64 (.bin .add .i64 (.var 1) (.var 3)))]) (L := L_6_2) hR hK hR2 (fun f hf => by
                simp only [L_6_2, List.mem_cons, List.not_mem_nil, or_false] at hf
                rcases hf with rfl | rfl | rfl | rfl
                · exact ⟨rfl, h0⟩
                · exact ⟨rfl, h1⟩
                · exact ⟨rfl, h2⟩
                · exact ⟨rfl, h3⟩) (run_6_2 _ aR aS) (by rfl) (by rfl) (x := (IE.ev (rP al ah bl bh lo hi wd k rk rl rh) (.tri 3 (.tri 3 (.tri 3 (.bin .add .i64 (.var 0) (.var 2)) (.bin .add .i64 (.var 0) (.var 3)) (.lit 0)) (.bin .add .i64 (.var 1) (.var 2)) (.lit 0)) (.bin .add .i64 (.var 1) (.var 3)) (.lit 0)))) (y := (IE.ev (rP al ah bl bh lo hi wd k rk rl rh) (.tri 2 (.tri 2 (.tri 2 (.bin .add .i64 (.var 0) (.var 2)) (.bin .add .i64 (.var 0) (.var 3)) (.lit 0)) (.bin .add .i64 (.var 1) (.var 2)) (.lit 0)) (.bin .add .i64 (.var 1) (.var 3)) (.lit 0)))) (x' := (IE.ev (rP al ah bl bh lo hi wd k rk rl rh) (.bin .add .i64 (.var 0) (.var 2)))) (y' := (IE.ev (rP al ah bl bh lo hi wd k rk rl rh) (.bin .add .i64 (.var 1) (.var 3)))) rfl rfl (by first | rfl | (simp (disch := omega) only [IE.ev, rP_0, rP_1, rP_2, rP_3, rP_9, rP_10, ev_addw, tri_2, tri_3, cmpI_leq, cmpI_geq, decide_eq_true_eq] at *; omega)) (by first | rfl | (simp (disch := omega) only [IE.ev, rP_0, rP_1, rP_2, rP_3, rP_9, rP_10, ev_addw, tri_2, tri_3, cmpI_leq, cmpI_geq, decide_eq_true_eq] at *; omega))
def L_7_0 : List CF := [⟨.leq, (.var 9), (.tri 3 (.tri 3 (.tri 3 (.bin .sub .i64 (.var 0) (.var 2)) (.bin .sub .i64 (.var 0) (.var 3)) (.lit 0)) (.bin .sub .i64 (.var 1) (.var 2)) (.lit 0)) (.bin .sub .i64 (.var 1) (.var 3)) (.lit 0)), false⟩, ⟨.geq, (.bin .sub .i64 (.var 0) (.var 3)), (.var 9), false⟩]
theorem run_7_0 (ρ : Nat → Int) (aR aS : Addr) : runE ρ aR aS L_7_0 (U_op 7) [(24, xP 7, .agg [.sym (.int .i64 (.var 9)), .sym (.int .i64 (.var 10))]), (8, xP 7, .agg [.sym (.int .i64 (.var 9)), .sym (.int .i64 (.var 10))])] := by
  unfold runE
  kernel_rfl
def L_7_1 : List CF := [⟨.leq, (.var 9), (.tri 3 (.tri 3 (.tri 3 (.bin .sub .i64 (.var 0) (.var 2)) (.bin .sub .i64 (.var 0) (.var 3)) (.lit 0)) (.bin .sub .i64 (.var 1) (.var 2)) (.lit 0)) (.bin .sub .i64 (.var 1) (.var 3)) (.lit 0)), true⟩, ⟨.leq, (.tri 2 (.tri 2 (.tri 2 (.bin .sub .i64 (.var 0) (.var 2)) (.bin .sub .i64 (.var 0) (.var 3)) (.lit 0)) (.bin .sub .i64 (.var 1) (.var 2)) (.lit 0)) (.bin .sub .i64 (.var 1) (.var 3)) (.lit 0)), (.var 10), false⟩, ⟨.geq, (.bin .sub .i64 (.var 0) (.var 3)), (.var 9), true⟩, ⟨.leq, (.bin .sub .i64 (.var 1) (.var 2)), (.var 10), false⟩]
theorem run_7_1 (ρ : Nat → Int) (aR aS : Addr) : runE ρ aR aS L_7_1 (U_op 7) [(24, xP 7, .agg [.sym (.int .i64 (.var 9)), .sym (.int .i64 (.var 10))]), (8, xP 7, .agg [.sym (.int .i64 (.var 9)), .sym (.int .i64 (.var 10))])] := by
  unfold runE
  kernel_rfl
def L_7_2 : List CF := [⟨.leq, (.var 9), (.tri 3 (.tri 3 (.tri 3 (.bin .sub .i64 (.var 0) (.var 2)) (.bin .sub .i64 (.var 0) (.var 3)) (.lit 0)) (.bin .sub .i64 (.var 1) (.var 2)) (.lit 0)) (.bin .sub .i64 (.var 1) (.var 3)) (.lit 0)), true⟩, ⟨.leq, (.tri 2 (.tri 2 (.tri 2 (.bin .sub .i64 (.var 0) (.var 2)) (.bin .sub .i64 (.var 0) (.var 3)) (.lit 0)) (.bin .sub .i64 (.var 1) (.var 2)) (.lit 0)) (.bin .sub .i64 (.var 1) (.var 3)) (.lit 0)), (.var 10), true⟩, ⟨.geq, (.bin .sub .i64 (.var 0) (.var 3)), (.var 9), true⟩, ⟨.leq, (.bin .sub .i64 (.var 1) (.var 2)), (.var 10), true⟩]
theorem run_7_2 (ρ : Nat → Int) (aR aS : Addr) : runE ρ aR aS L_7_2 (U_op 7) [(24, xP 7, .agg [.sym (.int .i64 (.tri 3 (.tri 3 (.tri 3 (.bin .sub .i64 (.var 0) (.var 2)) (.bin .sub .i64 (.var 0) (.var 3)) (.lit 0)) (.bin .sub .i64 (.var 1) (.var 2)) (.lit 0)) (.bin .sub .i64 (.var 1) (.var 3)) (.lit 0))), .sym (.int .i64 (.tri 2 (.tri 2 (.tri 2 (.bin .sub .i64 (.var 0) (.var 2)) (.bin .sub .i64 (.var 0) (.var 3)) (.lit 0)) (.bin .sub .i64 (.var 1) (.var 2)) (.lit 0)) (.bin .sub .i64 (.var 1) (.var 3)) (.lit 0)))]), (8, xP 7, .agg [.sym (.int .i64 (.bin .sub .i64 (.var 0) (.var 3))), .sym (.int .i64 (.bin .sub .i64 (.var 1) (.var 2)))])] := by
  unfold runE
  kernel_rfl
theorem apd_7 (aR aS : Addr) {al ah bl bh lo hi wd k rk rl rh wd2 : Int} (hR : ResV aR aS 7 k rk 0) (hK : KdV aR aS k lo hi wd) (hR2 : KdV aR aS rk rl rh wd2) (b0 : -2147483648 ≤ lo) (b1 : hi ≤ 4294967295) (a0 : lo ≤ al) (a1 : al ≤ ah) (a2 : ah ≤ hi) (c0 : lo ≤ bl) (c1 : bl ≤ bh) (c2 : bh ≤ hi) (er : rl = lo) (eh : rh = hi) : ∃ sl sh, ApD aR aS 7 k al ah bl bh sl sh := by
  cases h0 : cmpI .leq (IE.ev (rP al ah bl bh lo hi wd k rk rl rh) (.var 9)) (IE.ev (rP al ah bl bh lo hi wd k rk rl rh) (.tri 3 (.tri 3 (.tri 3 (.bin .sub .i64 (.var 0) (.var 2)) (.bin .sub .i64 (.var 0) (.var 3)) (.lit 0)) (.bin .sub .i64 (.var 1) (.var 2)) (.lit 0)) (.bin .sub .i64 (.var 1) (.var 3)) (.lit 0)))
  · -- False
    cases h1 : cmpI .geq (IE.ev (rP al ah bl bh lo hi wd k rk rl rh) (.bin .sub .i64 (.var 0) (.var 3))) (IE.ev (rP al ah bl bh lo hi wd k rk rl rh) (.var 9))
    · -- False
      exact apd_of (r1 := .agg [.sym (.int .i64 (.var 9)), .sym (.int .i64 (.var 10))]) (r2 := .agg [.sym (.int .i64 (.var 9)), .sym (.int .i64 (.var 10))]) (L := L_7_0) hR hK hR2 (fun f hf => by
            simp only [L_7_0, List.mem_cons, List.not_mem_nil, or_false] at hf
            rcases hf with rfl | rfl
            · exact ⟨rfl, h0⟩
            · exact ⟨rfl, h1⟩) (run_7_0 _ aR aS) (by rfl) (by rfl) (x := (IE.ev (rP al ah bl bh lo hi wd k rk rl rh) (.var 9))) (y := (IE.ev (rP al ah bl bh lo hi wd k rk rl rh) (.var 10))) (x' := (IE.ev (rP al ah bl bh lo hi wd k rk rl rh) (.var 9))) (y' := (IE.ev (rP al ah bl bh lo hi wd k rk rl rh) (.var 10))) rfl rfl (by first | rfl | (simp (disch := omega) only [IE.ev, rP_0, rP_1, rP_2, rP_3, rP_4, rP_5, rP_6, rP_7, rP_8, rP_9, rP_10, ev_addw, ev_subw, ev_shr1, ev_quo2, ev_rem2, tri_2, tri_3, cmpI_leq, cmpI_geq, cmpI_lss, cmpI_gtr, cmpI_eql, cmpI_neq, decide_eq_true_eq, decide_eq_false_iff_not, beq_iff_eq, beq_eq_false_iff_ne, bne_iff_ne, bne_eq_false_iff_eq] at *; omega)) (by first | rfl | (simp (disch := omega) only [IE.ev, rP_0, rP_1, rP_2, rP_3, rP_4, rP_5, rP_6, rP_7, rP_8, rP_9, rP_10, ev_addw, ev_subw, ev_shr1, ev_quo2, ev_rem2, tri_2, tri_3, cmpI_leq, cmpI_geq, cmpI_lss, cmpI_gtr, cmpI_eql, cmpI_neq, decide_eq_true_eq, decide_eq_false_iff_not, beq_iff_eq, beq_eq_false_iff_ne, bne_iff_ne, bne_eq_false_iff_eq] at *; omega))
    · -- True
      exfalso; (simp (disch := omega) only [IE.ev, rP_0, rP_1, rP_2, rP_3, rP_9, ev_subw, tri_3, cmpI_leq, cmpI_geq, decide_eq_true_eq, decide_eq_false_iff_not] at *; omega)
  · -- True
    cases h1 : cmpI .leq (IE.ev (rP al ah bl bh lo hi wd k rk rl rh) (.tri 2 (.tri 2 (.tri 2 (.bin .sub .i64 (.var 0) (.var 2)) (.bin .sub .i64 (.var 0) (.var 3)) (.lit 0)) (.bin .sub .i64 (.var 1) (.var 2)) (.lit 0)) (.bin .sub .i64 (.var 1) (.var 3)) (.lit 0))) (IE.ev (rP al ah bl bh lo hi wd k rk rl rh) (.var 10))
    · -- False
      cases h2 : cmpI .geq (IE.ev (rP al ah bl bh lo hi wd k rk rl rh) (.bin .sub .i64 (.var 0) (.var 3))) (IE.ev (rP al ah bl bh lo hi wd k rk rl rh) (.var 9))
      · -- False
        exfalso; (simp (disch := omega) only [IE.ev, rP_0, rP_1, rP_2, rP_3, rP_9, rP_10, ev_subw, tri_2, tri_3, cmpI_leq, cmpI_geq, decide_eq_true_eq, decide_eq_false_iff_not] at *; omega)
      · -- True
        cases h3 : cmpI .leq (IE.ev (rP al ah bl bh lo hi wd k rk rl rh) (.bin .sub .i64 (.var 1) (.var 2))) (IE.ev (rP al ah bl bh lo hi wd k rk rl rh) (.var 10))
        · -- False
          exact apd_of (r1 := .agg [.sym (.int .i64 (.var 9)), .sym (.int .i64 (.var 10))]) (r2 := .agg [.sym (.int .i64 (.var 9)), .sym (.int .i64 (.var 10))]) (L := L_7_1) hR hK hR2 (fun f hf => by
                simp only [L_7_1, List.mem_cons, List.not_mem_nil, or_false] at hf
                rcases hf with rfl | rfl | rfl | rfl
                · exact ⟨rfl, h0⟩
                · exact ⟨rfl, h1⟩
                · exact ⟨rfl, h2⟩
                · exact ⟨rfl, h3⟩) (run_7_1 _ aR aS) (by rfl) (by rfl) (x := (IE.ev (rP al ah bl bh lo hi wd k rk rl rh) (.var 9))) (y := (IE.ev (rP al ah bl bh lo hi wd k rk rl rh) (.var 10))) (x' := (IE.ev (rP al ah bl bh lo hi wd k rk rl rh) (.var 9))) (y' := (IE.ev (rP al ah bl bh lo hi wd k rk rl rh) (.var 10))) rfl rfl (by first | rfl | (simp (disch := omega) only [IE.ev, rP_0, rP_1, rP_2, rP_3, rP_4, rP_5, rP_6, rP_7, rP_8, rP_9, rP_10, ev_addw, ev_subw, ev_shr1, ev_quo2, ev_rem2, tri_2, tri_3, cmpI_leq, cmpI_geq, cmpI_lss, cmpI_gtr, cmpI_eql, cmpI_neq, decide_eq_true_eq, decide_eq_false_iff_not, beq_iff_eq, beq_eq_false_iff_ne, bne_iff_ne, bne_eq_false_iff_eq] at *; omega)) (by first | rfl | (simp (disch := omega) only [IE.ev, rP_0, rP_1, rP_2, rP_3, rP_4, rP_5, rP_6, rP_7, rP_8, rP_9, rP_10, ev_addw, ev_subw, ev_shr1, ev_quo2, ev_rem2, tri_2, tri_3, cmpI_leq, cmpI_geq, cmpI_lss, cmpI_gtr, cmpI_eql, cmpI_neq, decide_eq_true_eq, decide_eq_false_iff_not, beq_iff_eq, beq_eq_false_iff_ne, bne_iff_ne, bne_eq_false_iff_eq] at *; omega))
        · -- True
          exfalso; (simp (disch := omega) only [IE.ev, rP_0, rP_1, rP_2, rP_3, rP_9, rP_10, ev_subw, tri_2, tri_3, cmpI_leq, cmpI_geq, decide_eq_true_eq, decide_eq_false_iff_not] at *; omega)
    · -- True
      cases h2 : cmpI .geq (IE.ev (rP al ah bl bh lo hi wd k rk rl rh) (.bin .sub .i64 (.var 0) (.var 3))) (IE.ev (rP al ah bl bh lo hi wd k rk rl rh) (.var 9))
      · -- False
        exfalso; (simp (disch := omega) only [IE.ev, rP_0, rP_1, rP_2, rP_3, rP_9, rP_10, ev_subw, tri_2, tri_3, cmpI_leq, cmpI_geq, decide_eq_true_eq, decide_eq_false_iff_not] at *; omega)
      · -- True
        cases h3 : cmpI .leq (IE.ev (rP al ah bl bh lo hi wd k rk rl rh) (.bin .sub .i64 (.var 1) (.var 2))) (IE.ev (rP al ah bl bh lo hi wd k rk rl rh) (.var 10))
        · -- False
          exfalso; (simp (disch := omega) only [IE.ev, rP_0, rP_1, rP_2, rP_3, rP_9, rP_10, ev_subw, tri_2, tri_3, cmpI_leq, cmpI_geq, decide_eq_true_eq, decide_eq_false_iff_not] at *; omega)
        · -- True
          exact apd_of (r1 := .agg [.sym (.int .i64 (.tri 3 (.tri 3 (.tri 3 (.bin .sub .i64 (.var 0) (.var 2)) (.bin .sub .i64 (.var 0) (.var 3)) (.lit 0)) (.bin .sub .i64 (.var 1) (.var 2)) (.lit 0)) (.bin .sub .i64 (.var 1) (.var 3)) (.lit 0))), .sym (.int .i64 (.tri 2 (.tri 2 (.tri 2 (.bin .sub .i64 (.var 0) (.var 2)) (.bin .sub .i64 (.var 0) (.var 3)) (.lit 0)) (.bin .sub .i64 (.var 1) (.var 2)) (.lit 0)) (.bin .sub .i64 (.var 1) (.var 3)) (.lit 0)))]) (r2 := .agg [.sym (.int .i64 (.bin .sub .i64 (.var 0) (.var 3))), .sym (.int .i64 (.bin .sub .i64 (.var 1) (.var 2)))]) (L := L_7_2) hR hK hR2 (fun f hf => by
                simp only [L_7_2, List.mem_cons, List.not_mem_nil, or_false] at hf
                rcases hf with rfl | rfl | rfl | rfl
                · exact ⟨rfl, h0⟩
                · exact ⟨rfl, h1⟩
                · exact ⟨rfl, h2⟩
                · exact ⟨rfl, h3⟩) (run_7_2 _ aR aS) (by rfl) (by rfl) (x := (IE.ev (rP al ah bl bh lo hi wd k rk rl rh) (.tri 3 (.tri 3 (.tri 3 (.bin .sub .i64 (.var 0) (.var 2)) (.bin .sub .i64 (.var 0) (.var 3)) (.lit 0)) (.bin .sub .i64 (.var 1) (.var 2)) (.lit 0)) (.bin .sub .i64 (.var 1) (.var 3)) (.lit 0)))) (y := (IE.ev (rP al ah bl bh lo hi wd k rk rl rh) (.tri 2 (.tri 2 (.tri 2 (.bin .sub .i64 (.var 0) (.var 2)) (.bin .sub .i64 (.var 0) (.var 3)) (.lit 0)) (.bin .sub .i64 (.var 1) (.var 2)) (.lit 0)) (.bin .sub .i64 (.var 1) (.var 3)) (.lit 0)))) (x' := (IE.ev (rP al ah bl bh lo hi wd k rk rl rh) (.bin .sub .i64 (.var 0) (.var 3)))) (y' := (IE.ev (rP al ah bl bh lo hi wd k rk rl rh) (.bin .sub .i64 (.var 1) (.var 2)))) rfl rfl (by first | rfl | (simp (disch := omega) only [IE.ev, rP_0, rP_1, rP_2, rP_3, rP_9, rP_10, ev_subw, tri_2, tri_3, cmpI_leq, cmpI_geq, decide_eq_true_eq] at *; omega)) (by first | rfl | (simp (disch := omega) only [IE.ev, rP_0, rP_1, rP_2, rP_3, rP_9, rP_10, ev_subw, tri_2, tri_3, cmpI_leq, cmpI_geq, decide_eq_true_eq] at *; omega))
end
end Go.Proofs.YtgecchiocfkpkaaGreatDoor

namespace Go.Proofs.YtgecchiocfkpkaaGreatDoor
noncomputable section
open Go Go.RX
open Go.RowKit (Below)
set_option maxRecDepth 1000000
set_option maxHeartbeats 4000000
def L_18_0 : List CF := [⟨.leq, (.var 9), (.tri 3 (.tri 2 (.tri 3 (.tri 3 (.tri 3 (.bin .add .i64 (.var 0) (.var 2)) (.bin .add .i64 (.var 0) (.var 3)) (.lit 0)) (.bin .add .i64 (.var 1) (.var 2)) (.lit 0)) (.bin .add .i64 (.var 1) (.var 3)) (.lit 0)) (.var 9) (.lit 0)) (.var 10) (.lit 0)), true⟩, ⟨.leq, (.tri 3 (.tri 2 (.tri 2 (.tri 2 (.tri 2 (.bin .add .i64 (.var 0) (.var 2)) (.bin .add .i64 (.var 0) (.var 3)) (.lit 0)) (.bin .add .i64 (.var 1) (.var 2)) (.lit 0)) (.bin .add .i64 (.var 1) (.var 3)) (.lit 0)) (.var 9) (.lit 0)) (.var 10) (.lit 0)), (.var 10), true⟩]
theorem run_18_0 (ρ : Nat → Int) (aR aS : Addr) : runE ρ aR aS L_18_0 (U_op 18) [(24, xP 18, .agg [.sym (.int .i64 (.tri 3 (.tri 2 (.tri 3 (.tri 3 (.tri 3 (.bin .add .i64 (.var 0) (.var 2)) (.bin .add .i64 (.var 0) (.var 3)) (.lit 0)) (.bin .add .i64 (.var 1) (.var 2)) (.lit 0)) (.bin .add .i64 (.var 1) (.var 3)) (.lit 0)) (.var 9) (.lit 0)) (.var 10) (.lit 0))), .sym (.int .i64 (.tri 3 (.tri 2 (.tri 2 (.tri 2 (.tri 2 (.bin .add .i64 (.var 0) (.var 2)) (.bin .add .i64 (.var 0) (.var 3)) (.lit 0)) (.bin .add .i64 (.var 1) (.var 2)) (.lit 0)) (.bin .add .i64 (.var 1) (.var 3)) (.lit 0)) (.var 9) (.lit 0)) (.var 10) (.lit 0)))]), (8, xP 18, .agg [.sym (.int .i64 (.tri 3 (.tri 2 (.bin .add .i64 (.var 0) (.var 2)) (.var 9) (.lit 0)) (.var 10) (.lit 0))), .sym (.int .i64 (.tri 3 (.tri 2 (.bin .add .i64 (.var 1) (.var 3)) (.var 9) (.lit 0)) (.var 10) (.lit 0)))])] := by
  unfold runE
  kernel_rfl
theorem apd_18 (aR aS : Addr) {al ah bl bh lo hi wd k rk rl rh wd2 : Int} (hR : ResV aR aS 18 k rk 0) (hK : KdV aR aS k lo hi wd) (hR2 : KdV aR aS rk rl rh wd2) (b0 : -2147483648 ≤ lo) (b1 : hi ≤ 4294967295) (a0 : lo ≤ al) (a1 : al ≤ ah) (a2 : ah ≤ hi) (c0 : lo ≤ bl) (c1 : bl ≤ bh) (c2 : bh ≤ hi) (er : rl = lo) (eh : rh = hi) : ∃ sl sh, ApD aR aS 18 k al ah bl bh sl sh := by
  cases h0 : cmpI .leq (IE.ev (rP al ah bl bh lo hi wd k rk rl rh) (.var 9)) (IE.ev (rP al ah bl bh lo hi wd k rk rl rh) (.tri 3 (.tri 2 (.tri 3 (.tri 3 (.tri 3 (.bin .add .i64 (.var 0) (.var 2)) (.bin .add .i64 (.var 0) (.var 3)) (.lit 0)) (.bin .add .i64 (.var 1) (.var 2)) (.lit 0)) (.bin .add .i64 (.var 1) (.var 3)) (.lit 0)) (.var 9) (.lit 0)) (.var 10) (.lit 0)))
  · -- False
    exfalso; (simp (disch := omega) only [IE.ev, rP_0, rP_1, rP_2, rP_3, rP_9, rP_10, ev_addw, tri_2, tri_3, cmpI_leq, decide_eq_false_iff_not] at *; omega)
  · -- True
    cases h1 : cmpI .leq (IE.ev (rP al ah bl bh lo hi wd k rk rl rh) (.tri 3 (.tri 2 (.tri 2 (.tri 2 (.tri 2 (.bin .add .i64 (.var 0) (.var 2)) (.bin .add .i64 (.var 0) (.var 3)) (.lit 0)) (.bin .add .i64 (.var 1) (.var 2)) (.lit 0)) (.bin .add .i64 (.var 1) (.var 3)) (.lit 0)) (.var 9) (.lit 0)) (.var 10) (.lit 0))) (IE.ev (rP al ah bl bh lo hi wd k rk rl rh) (.var 10))
    · -- False
      exfalso; (simp (disch := omega) only [IE.ev, rP_0, rP_1, rP_2, rP_3, rP_9, rP_10, ev_addw, tri_2, tri_3, cmpI_leq, decide_eq_true_eq, decide_eq_false_iff_not] at *; omega)
    · -- True
      exact apd_of (r1 := .agg [.sym (.int .i64 (.tri 3 (.tri 2 (.tri 3 (.tri 3 (.tri 3 (.bin .add .i64 (.var 0) (.var 2)) (.bin .add .i64 (.var 0) (.var 3)) (.lit 0)) (.bin .add .i64 (.var 1) (.var 2)) (.lit 0)) (.bin .add .i64 (.var 1) (.var 3)) (.lit 0)) (.var 9) (.lit 0)) (.var 10) (.lit 0))), .sym (.int .i64 (.tri 3 (.tri 2 (.tri 2 (.tri 2 (.tri 2 (.bin .add .i64 (.var 0) (.var 2)) (.bin .add .i64 (.var 0) (.var 3)) (.lit 0)) (.bin .add .i64 (.var 1) (.var 2)) (.lit 0)) (.bin .add .i64 (.var 1) (.var 3)) (.lit 0)) (.var 9) (.lit 0)) (.var 10) (.lit 0)))]) (r2 := .agg [.sym (.int .i64 (.tri 3 (.tri 2 (.bin .add .i64 (.var 0) (.var 2)) (.var 9) (.lit 0)) (.var 10) (.lit 0))), .sym (.int .i64 (.tri 3 (.tri 2 (.bin .add .i64 (.var 1) (.var 3)) (.var 9) (.lit 0)) (.var 10) (.lit 0)))]) (L := L_18_0) hR hK hR2 (fun f hf => by
            simp only [L_18_0, List.mem_cons, List.not_mem_nil, or_false] at hf
            rcases hf with rfl | rfl
            · exact ⟨rfl, h0⟩
            · exact ⟨rfl, h1⟩) (run_18_0 _ aR aS) (by rfl) (by rfl) (x := (IE.ev (rP al ah bl bh lo hi wd k rk rl rh) (.tri 3 (.tri 2 (.tri 3 (.tri 3 (.tri 3 (.bin .add .i64 (.var 0) (.var 2)) (.bin .add .i64 (.var 0) (.var 3)) (.lit 0)) (.bin .add .i64 (.var 1) (.var 2)) (.lit 0)) (.bin .add .i64 (.var 1) (.var 3)) (.lit 0)) (.var 9) (.lit 0)) (.var 10) (.lit 0)))) (y := (IE.ev (rP al ah bl bh lo hi wd k rk rl rh) (.tri 3 (.tri 2 (.tri 2 (.tri 2 (.tri 2 (.bin .add .i64 (.var 0) (.var 2)) (.bin .add .i64 (.var 0) (.var 3)) (.lit 0)) (.bin .add .i64 (.var 1) (.var 2)) (.lit 0)) (.bin .add .i64 (.var 1) (.var 3)) (.lit 0)) (.var 9) (.lit 0)) (.var 10) (.lit 0)))) (x' := (IE.ev (rP al ah bl bh lo hi wd k rk rl rh) (.tri 3 (.tri 2 (.bin .add .i64 (.var 0) (.var 2)) (.var 9) (.lit 0)) (.var 10) (.lit 0)))) (y' := (IE.ev (rP al ah bl bh lo hi wd k rk rl rh) (.tri 3 (.tri 2 (.bin .add .i64 (.var 1) (.var 3)) (.var 9) (.lit 0)) (.var 10) (.lit 0)))) rfl rfl (by first | rfl | (simp (disch := omega) only [IE.ev, rP_0, rP_1, rP_2, rP_3, rP_9, rP_10, ev_addw, tri_2, tri_3, cmpI_leq, decide_eq_true_eq] at *; omega)) (by first | rfl | (simp (disch := omega) only [IE.ev, rP_0, rP_1, rP_2, rP_3, rP_9, rP_10, ev_addw, tri_2, tri_3, cmpI_leq, decide_eq_true_eq] at *; omega))
def L_19_0 : List CF := [⟨.leq, (.var 9), (.tri 3 (.tri 2 (.tri 3 (.tri 3 (.tri 3 (.bin .sub .i64 (.var 0) (.var 2)) (.bin .sub .i64 (.var 0) (.var 3)) (.lit 0)) (.bin .sub .i64 (.var 1) (.var 2)) (.lit 0)) (.bin .sub .i64 (.var 1) (.var 3)) (.lit 0)) (.var 9) (.lit 0)) (.var 10) (.lit 0)), true⟩, ⟨.leq, (.tri 3 (.tri 2 (.tri 2 (.tri 2 (.tri 2 (.bin .sub .i64 (.var 0) (.var 2)) (.bin .sub .i64 (.var 0) (.var 3)) (.lit 0)) (.bin .sub .i64 (.var 1) (.var 2)) (.lit 0)) (.bin .sub .i64 (.var 1) (.var 3)) (.lit 0)) (.var 9) (.lit 0)) (.var 10) (.lit 0)), (.var 10), true⟩]
theorem run_19_0 (ρ : Nat → Int) (aR aS : Addr) : runE ρ aR aS L_19_0 (U_op 19) [(24, xP 19, .agg [.sym (.int .i64 (.tri 3 (.tri 2 (.tri 3 (.tri 3 (.tri 3 (.bin .sub .i64 (.var 0) (.var 2)) (.bin .sub .i64 (.var 0) (.var 3)) (.lit 0)) (.bin .sub .i64 (.var 1) (.var 2)) (.lit 0)) (.bin .sub .i64 (.var 1) (.var 3)) (.lit 0)) (.var 9) (.lit 0)) (.var 10) (.lit 0))), .sym (.int .i64 (.tri 3 (.tri 2 (.tri 2 (.tri 2 (.tri 2 (.bin .sub .i64 (.var 0) (.var 2)) (.bin .sub .i64 (.var 0) (.var 3)) (.lit 0)) (.bin .sub .i64 (.var 1) (.var 2)) (.lit 0)) (.bin .sub .i64 (.var 1) (.var 3)) (.lit 0)) (.var 9) (.lit 0)) (.var 10) (.lit 0)))]), (8, xP 19, .agg [.sym (.int .i64 (.tri 3 (.tri 2 (.bin .sub .i64 (.var 0) (.var 3)) (.var 9) (.lit 0)) (.var 10) (.lit 0))), .sym (.int .i64 (.tri 3 (.tri 2 (.bin .sub .i64 (.var 1) (.var 2)) (.var 9) (.lit 0)) (.var 10) (.lit 0)))])] := by
  unfold runE
  kernel_rfl
theorem apd_19 (aR aS : Addr) {al ah bl bh lo hi wd k rk rl rh wd2 : Int} (hR : ResV aR aS 19 k rk 0) (hK : KdV aR aS k lo hi wd) (hR2 : KdV aR aS rk rl rh wd2) (b0 : -2147483648 ≤ lo) (b1 : hi ≤ 4294967295) (a0 : lo ≤ al) (a1 : al ≤ ah) (a2 : ah ≤ hi) (c0 : lo ≤ bl) (c1 : bl ≤ bh) (c2 : bh ≤ hi) (er : rl = lo) (eh : rh = hi) : ∃ sl sh, ApD aR aS 19 k al ah bl bh sl sh := by
  cases h0 : cmpI .leq (IE.ev (rP al ah bl bh lo hi wd k rk rl rh) (.var 9)) (IE.ev (rP al ah bl bh lo hi wd k rk rl rh) (.tri 3 (.tri 2 (.tri 3 (.tri 3 (.tri 3 (.bin .sub .i64 (.var 0) (.var 2)) (.bin .sub .i64 (.var 0) (.var 3)) (.lit 0)) (.bin .sub .i64 (.var 1) (.var 2)) (.lit 0)) (.bin .sub .i64 (.var 1) (.var 3)) (.lit 0)) (.var 9) (.lit 0)) (.var 10) (.lit 0)))
  · -- False
    exfalso; (simp (disch := omega) only [IE.ev, rP_0, rP_1, rP_2, rP_3, rP_9, rP_10, ev_subw, tri_2, tri_3, cmpI_leq, decide_eq_false_iff_not] at *; omega)
  · -- True
    cases h1 : cmpI .leq (IE.ev (rP al ah bl bh lo hi wd k rk rl rh) (.tri 3 (.tri 2 (.tri 2 (.tri 2 (.tri 2 (.bin .sub .i64 (.var 0) (.var 2)) (.bin .sub .i64 (.var 0) (.var 3)) (.lit 0)) (.bin .sub .i64 (.var 1) (.var 2)) (.lit 0)) (.bin .sub .i64 (.var 1) (.var 3)) (.lit 0)) (.var 9) (.lit 0)) (.var 10) (.lit 0))) (IE.ev (rP al ah bl bh lo hi wd k rk rl rh) (.var 10))
    · -- False
      exfalso; (simp (disch := omega) only [IE.ev, rP_0, rP_1, rP_2, rP_3, rP_9, rP_10, ev_subw, tri_2, tri_3, cmpI_leq, decide_eq_true_eq, decide_eq_false_iff_not] at *; omega)
    · -- True
      exact apd_of (r1 := .agg [.sym (.int .i64 (.tri 3 (.tri 2 (.tri 3 (.tri 3 (.tri 3 (.bin .sub .i64 (.var 0) (.var 2)) (.bin .sub .i64 (.var 0) (.var 3)) (.lit 0)) (.bin .sub .i64 (.var 1) (.var 2)) (.lit 0)) (.bin .sub .i64 (.var 1) (.var 3)) (.lit 0)) (.var 9) (.lit 0)) (.var 10) (.lit 0))), .sym (.int .i64 (.tri 3 (.tri 2 (.tri 2 (.tri 2 (.tri 2 (.bin .sub .i64 (.var 0) (.var 2)) (.bin .sub .i64 (.var 0) (.var 3)) (.lit 0)) (.bin .sub .i64 (.var 1) (.var 2)) (.lit 0)) (.bin .sub .i64 (.var 1) (.var 3)) (.lit 0)) (.var 9) (.lit 0)) (.var 10) (.lit 0)))]) (r2 := .agg [.sym (.int .i64 (.tri 3 (.tri 2 (.bin .sub .i64 (.var 0) (.var 3)) (.var 9) (.lit 0)) (.var 10) (.lit 0))), .sym (.int .i64 (.tri 3 (.tri 2 (.bin .sub .i64 (.var 1) (.var 2)) (.var 9) (.lit 0)) (.var 10) (.lit 0)))]) (L := L_19_0) hR hK hR2 (fun f hf => by
            simp only [L_19_0, List.mem_cons, List.not_mem_nil, or_false] at hf
            rcases hf with rfl | rfl
            · exact ⟨rfl, h0⟩
            · exact ⟨rfl, h1⟩) (run_19_0 _ aR aS) (by rfl) (by rfl) (x := (IE.ev (rP al ah bl bh lo hi wd k rk rl rh) (.tri 3 (.tri 2 (.tri 3 (.tri 3 (.tri 3 (.bin .sub .i64 (.var 0) (.var 2)) (.bin .sub .i64 (.var 0) (.var 3)) (.lit 0)) (.bin .sub .i64 (.var 1) (.var 2)) (.lit 0)) (.bin .sub .i64 (.var 1) (.var 3)) (.lit 0)) (.var 9) (.lit 0)) (.var 10) (.lit 0)))) (y := (IE.ev (rP al ah bl bh lo hi wd k rk rl rh) (.tri 3 (.tri 2 (.tri 2 (.tri 2 (.tri 2 (.bin .sub .i64 (.var 0) (.var 2)) (.bin .sub .i64 (.var 0) (.var 3)) (.lit 0)) (.bin .sub .i64 (.var 1) (.var 2)) (.lit 0)) (.bin .sub .i64 (.var 1) (.var 3)) (.lit 0)) (.var 9) (.lit 0)) (.var 10) (.lit 0)))) (x' := (IE.ev (rP al ah bl bh lo hi wd k rk rl rh) (.tri 3 (.tri 2 (.bin .sub .i64 (.var 0) (.var 3)) (.var 9) (.lit 0)) (.var 10) (.lit 0)))) (y' := (IE.ev (rP al ah bl bh lo hi wd k rk rl rh) (.tri 3 (.tri 2 (.bin .sub .i64 (.var 1) (.var 2)) (.var 9) (.lit 0)) (.var 10) (.lit 0)))) rfl rfl (by first | rfl | (simp (disch := omega) only [IE.ev, rP_0, rP_1, rP_2, rP_3, rP_9, rP_10, ev_subw, tri_2, tri_3, cmpI_leq, decide_eq_true_eq] at *; omega)) (by first | rfl | (simp (disch := omega) only [IE.ev, rP_0, rP_1, rP_2, rP_3, rP_9, rP_10, ev_subw, tri_2, tri_3, cmpI_leq, decide_eq_true_eq] at *; omega))
end
end Go.Proofs.YtgecchiocfkpkaaGreatDoor

namespace Go.Proofs.YtgecchiocfkpkaaGreatDoor
noncomputable section
open Go Go.RX
open Go.RowKit (Below)
set_option maxRecDepth 1000000
set_option maxHeartbeats 4000000
def L_21_0 : List CF := [⟨.leq, (.var 9), (.tri 2 (.tri 2 (.lit 0) (.bin .sub .i64 (.var 0) (.var 3)) (.lit 0)) (.bin .sub .i64 (.var 2) (.var 1)) (.lit 0)), true⟩, ⟨.leq, (.tri 2 (.bin .sub .i64 (.var 1) (.var 2)) (.bin .sub .i64 (.var 3) (.var 0)) (.lit 0)), (.var 10), true⟩]
theorem run_21_0 (ρ : Nat → Int) (aR aS : Addr) : runE ρ aR aS L_21_0 (U_op 21) [(24, xP 21, .agg [.sym (.int .i64 (.tri 2 (.tri 2 (.lit 0) (.bin .sub .i64 (.var 0) (.var 3)) (.lit 0)) (.bin .sub .i64 (.var 2) (.var 1)) (.lit 0))), .sym (.int .i64 (.tri 2 (.bin .sub .i64 (.var 1) (.var 2)) (.bin .sub .i64 (.var 3) (.var 0)) (.lit 0)))]), (8, xP 21, .agg [.sym (.int .i64 (.tri 2 (.tri 2 (.lit 0) (.bin .sub .i64 (.var 0) (.var 3)) (.lit 0)) (.bin .sub .i64 (.var 2) (.var 1)) (.lit 0))), .sym (.int .i64 (.tri 2 (.bin .sub .i64 (.var 1) (.var 2)) (.bin .sub .i64 (.var 3) (.var 0)) (.lit 0)))])] := by
  unfold runE
  kernel_rfl
theorem apd_21 (aR aS : Addr) {al ah bl bh lo hi wd k rk rl rh wd2 : Int} (hR : ResV aR aS 21 k rk 0) (hK : KdV aR aS k lo hi wd) (hR2 : KdV aR aS rk rl rh wd2) (b0 : -2147483648 ≤ lo) (b1 : hi ≤ 4294967295) (a0 : lo ≤ al) (a1 : al ≤ ah) (a2 : ah ≤ hi) (c0 : lo ≤ bl) (c1 : bl ≤ bh) (c2 : bh ≤ hi) (er : rl = 0) (eh : rh = hi - lo) : ∃ sl sh, ApD aR aS 21 k al ah bl bh sl sh := by
  cases h0 : cmpI .leq (IE.ev (rP al ah bl bh lo hi wd k rk rl rh) (.var 9)) (IE.ev (rP al ah bl bh lo hi wd k rk rl rh) (.tri 2 (.tri 2 (.lit 0) (.bin .sub .i64 (.var 0) (.var 3)) (.lit 0)) (.bin .sub .i64 (.var 2) (.var 1)) (.lit 0)))
  · -- False
    exfalso; (simp (disch := omega) only [IE.ev, rP_0, rP_1, rP_2, rP_3, rP_9, ev_subw, tri_2, cmpI_leq, decide_eq_false_iff_not] at *; omega)
  · -- True
    cases h1 : cmpI .leq (IE.ev (rP al ah bl bh lo hi wd k rk rl rh) (.tri 2 (.bin .sub .i64 (.var 1) (.var 2)) (.bin .sub .i64 (.var 3) (.var 0)) (.lit 0))) (IE.ev (rP al ah bl bh lo hi wd k rk rl rh) (.var 10))
    · -- False
      exfalso; (simp (disch := omega) only [IE.ev, rP_0, rP_1, rP_2, rP_3, rP_9, rP_10, ev_subw, tri_2, cmpI_leq, decide_eq_true_eq, decide_eq_false_iff_not] at *; omega)
    · -- True
      exact apd_of (r1 := .agg [.sym (.int .i64 (.tri 2 (.tri 2 (.lit 0) (.bin .sub .i64 (.var 0) (.var 3)) (.lit 0)) (.bin .sub .i64 (.var 2) (.var 1)) (.lit 0))), .sym (.int .i64 (.tri 2 (.bin .sub .i64 (.var 1) (.var 2)) (.bin .sub .i64 (.var 3) (.var 0)) (.lit 0)))]) (r2 := .agg [.sym (.int .i64 (.tri 2 (.tri 2 (.lit 0) (.bin .sub .i64 (.var 0) (.var 3)) (.lit 0)) (.bin .sub .i64 (.var 2) (.var 1)) (.lit 0))), .sym (.int .i64 (.tri 2 (.bin .sub .i64 (.var 1) (.var 2)) (.bin .sub .i64 (.var 3) (.var 0)) (.lit 0)))]) (L := L_21_0) hR hK hR2 (fun f hf => by
            simp only [L_21_0, List.mem_cons, List.not_mem_nil, or_false] at hf
            rcases hf with rfl | rfl
            · exact ⟨rfl, h0⟩
            · exact ⟨rfl, h1⟩) (run_21_0 _ aR aS) (by rfl) (by rfl) (x := (IE.ev (rP al ah bl bh lo hi wd k rk rl rh) (.tri 2 (.tri 2 (.lit 0) (.bin .sub .i64 (.var 0) (.var 3)) (.lit 0)) (.bin .sub .i64 (.var 2) (.var 1)) (.lit 0)))) (y := (IE.ev (rP al ah bl bh lo hi wd k rk rl rh) (.tri 2 (.bin .sub .i64 (.var 1) (.var 2)) (.bin .sub .i64 (.var 3) (.var 0)) (.lit 0)))) (x' := (IE.ev (rP al ah bl bh lo hi wd k rk rl rh) (.tri 2 (.tri 2 (.lit 0) (.bin .sub .i64 (.var 0) (.var 3)) (.lit 0)) (.bin .sub .i64 (.var 2) (.var 1)) (.lit 0)))) (y' := (IE.ev (rP al ah bl bh lo hi wd k rk rl rh) (.tri 2 (.bin .sub .i64 (.var 1) (.var 2)) (.bin .sub .i64 (.var 3) (.var 0)) (.lit 0)))) rfl rfl (by first | rfl | (simp (disch := omega) only [IE.ev, rP_0, rP_1, rP_2, rP_3, rP_4, rP_5, rP_6, rP_7, rP_8, rP_9, rP_10, ev_addw, ev_subw, ev_shr1, ev_quo2, ev_rem2, tri_2, tri_3, cmpI_leq, cmpI_geq, cmpI_lss, cmpI_gtr, cmpI_eql, cmpI_neq, decide_eq_true_eq, decide_eq_false_iff_not, beq_iff_eq, beq_eq_false_iff_ne, bne_iff_ne, bne_eq_false_iff_eq] at *; omega)) (by first | rfl | (simp (disch := omega) only [IE.ev, rP_0, rP_1, rP_2, rP_3, rP_4, rP_5, rP_6, rP_7, rP_8, rP_9, rP_10, ev_addw, ev_subw, ev_shr1, ev_quo2, ev_rem2, tri_2, tri_3, cmpI_leq, cmpI_geq, cmpI_lss, cmpI_gtr, cmpI_eql, cmpI_neq, decide_eq_true_eq, decide_eq_false_iff_not, beq_iff_eq, beq_eq_false_iff_ne, bne_iff_ne, bne_eq_false_iff_eq] at *; omega))
end
end Go.Proofs.YtgecchiocfkpkaaGreatDoor
