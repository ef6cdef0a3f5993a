import Derived.Test.YtgecchiocfkpkaaGreatDoorLF
namespace Go.Proofs.YtgecchiocfkpkaaGreatDoor
noncomputable section
open Go Go.RX
open Go.RowKit (Below)
set_option maxRecDepth 1000000
set_option maxHeartbeats 4000000
def L_24_0 : List CF := [⟨.lss, (.var 1), (.var 2), false⟩, ⟨.leq, (.var 3), (.var 0), false⟩, ⟨.leq, (.var 9), (.lit 0), true⟩, ⟨.leq, (.lit 1), (.var 10), true⟩, ⟨.eql, (.var 0), (.var 1), false⟩, ⟨.lss, (.var 3), (.var 0), false⟩, ⟨.geq, (.var 0), (.var 3), false⟩]
theorem run_24_0 (ρ : Nat → Int) (aR aS : Addr) : runE ρ aR aS L_24_0 (U_op 24) [(24, xP 24, .v (.agg #[.int .i64 0, .int .i64 1])), (8, xP 24, .v (.agg #[.int .i64 0, .int .i64 1]))] := by
  unfold runE
  kernel_rfl
def L_24_1 : List CF := [⟨.lss, (.var 1), (.var 2), false⟩, ⟨.leq, (.var 3), (.var 0), false⟩, ⟨.leq, (.var 9), (.lit 0), true⟩, ⟨.leq, (.lit 1), (.var 10), true⟩, ⟨.eql, (.var 0), (.var 1), true⟩, ⟨.eql, (.var 0), (.var 2), false⟩, ⟨.lss, (.var 3), (.var 0), false⟩, ⟨.geq, (.var 0), (.var 3), false⟩]
theorem run_24_1 (ρ : Nat → Int) (aR aS : Addr) : runE ρ aR aS L_24_1 (U_op 24) [(24, xP 24, .v (.agg #[.int .i64 0, .int .i64 1])), (8, xP 24, .v (.agg #[.int .i64 0, .int .i64 1]))] := by
  unfold runE
  kernel_rfl
def L_24_2 : List CF := [⟨.lss, (.var 1), (.var 2), false⟩, ⟨.leq, (.var 3), (.var 0), false⟩, ⟨.leq, (.var 9), (.lit 0), true⟩, ⟨.leq, (.lit 1), (.var 10), true⟩, ⟨.eql, (.var 0), (.var 1), true⟩, ⟨.eql, (.var 0), (.var 2), true⟩, ⟨.eql, (.var 1), (.var 3), false⟩, ⟨.lss, (.var 3), (.var 0), false⟩, ⟨.geq, (.var 0), (.var 3), false⟩]
theorem run_24_2 (ρ : Nat → Int) (aR aS : Addr) : runE ρ aR aS L_24_2 (U_op 24) [(24, xP 24, .v (.agg #[.int .i64 0, .int .i64 1])), (8, xP 24, .v (.agg #[.int .i64 0, .int .i64 1]))] := by
  unfold runE
  kernel_rfl
def L_24_3 : List CF := [⟨.lss, (.var 1), (.var 2), false⟩, ⟨.leq, (.var 3), (.var 0), true⟩, ⟨.leq, (.var 9), (.lit 0), true⟩, ⟨.leq, (.lit 0), (.var 10), true⟩, ⟨.eql, (.var 0), (.var 1), false⟩, ⟨.lss, (.var 3), (.var 0), false⟩, ⟨.geq, (.var 0), (.var 3), true⟩]
theorem run_24_3 (ρ : Nat → Int) (aR aS : Addr) : runE ρ aR aS L_24_3 (U_op 24) [(24, xP 24, .v (.agg #[.int .i64 0, .int .i64 0])), (8, xP 24, .v (.agg #[.int .i64 0, .int .i64 0]))] := by
  unfold runE
  kernel_rfl
def L_24_4 : List CF := [⟨.lss, (.var 1), (.var 2), false⟩, ⟨.leq, (.var 3), (.var 0), true⟩, ⟨.leq, (.var 9), (.lit 0), true⟩, ⟨.leq, (.lit 0), (.var 10), true⟩, ⟨.eql, (.var 0), (.var 1), false⟩, ⟨.lss, (.var 3), (.var 0), true⟩, ⟨.geq, (.var 0), (.var 3), true⟩]
theorem run_24_4 (ρ : Nat → Int) (aR aS : Addr) : runE ρ aR aS L_24_4 (U_op 24) [(24, xP 24, .v (.agg #[.int .i64 0, .int .i64 0])), (8, xP 24, .v (.agg #[.int .i64 0, .int .i64 0]))] := by
  unfold runE
  kernel_rfl
def L_24_5 : List CF := [⟨.lss, (.var 1), (.var 2), false⟩, ⟨.leq, (.var 3), (.var 0), true⟩, ⟨.leq, (.var 9), (.lit 0), true⟩, ⟨.leq, (.lit 0), (.var 10), true⟩, ⟨.eql, (.var 0), (.var 1), true⟩, ⟨.eql, (.var 0), (.var 2), false⟩, ⟨.lss, (.var 3), (.var 0), false⟩, ⟨.geq, (.var 0), (.var 3), true⟩]
theorem run_24_5 (ρ : Nat → Int) (aR aS : Addr) : runE ρ aR aS L_24_5 (U_op 24) [(24, xP 24, .v (.agg #[.int .i64 0, .int .i64 0])), (8, xP 24, .v (.agg #[.int .i64 0, .int .i64 0]))] := by
  unfold runE
  kernel_rfl
def L_24_6 : List CF := [⟨.lss, (.var 1), (.var 2), false⟩, ⟨.leq, (.var 3), (.var 0), true⟩, ⟨.leq, (.var 9), (.lit 0), true⟩, ⟨.leq, (.lit 0), (.var 10), true⟩, ⟨.eql, (.var 0), (.var 1), true⟩, ⟨.eql, (.var 0), (.var 2), false⟩, ⟨.lss, (.var 3), (.var 0), true⟩, ⟨.geq, (.var 0), (.var 3), true⟩]
theorem run_24_6 (ρ : Nat → Int) (aR aS : Addr) : runE ρ aR aS L_24_6 (U_op 24) [(24, xP 24, .v (.agg #[.int .i64 0, .int .i64 0])), (8, xP 24, .v (.agg #[.int .i64 0, .int .i64 0]))] := by
  unfold runE
  kernel_rfl
def L_24_7 : List CF := [⟨.lss, (.var 1), (.var 2), false⟩, ⟨.leq, (.var 3), (.var 0), true⟩, ⟨.leq, (.var 9), (.lit 0), true⟩, ⟨.leq, (.lit 0), (.var 10), true⟩, ⟨.eql, (.var 0), (.var 1), true⟩, ⟨.eql, (.var 0), (.var 2), true⟩, ⟨.eql, (.var 1), (.var 3), true⟩, ⟨.lss, (.var 3), (.var 0), false⟩, ⟨.geq, (.var 0), (.var 3), true⟩]
theorem run_24_7 (ρ : Nat → Int) (aR aS : Addr) : runE ρ aR aS L_24_7 (U_op 24) [(24, xP 24, .v (.agg #[.int .i64 0, .int .i64 0])), (8, xP 24, .v (.agg #[.int .i64 0, .int .i64 0]))] := by
  unfold runE
  kernel_rfl
def L_24_8 : List CF := [⟨.lss, (.var 1), (.var 2), true⟩, ⟨.leq, (.var 9), (.lit 1), true⟩, ⟨.leq, (.lit 1), (.var 10), true⟩, ⟨.eql, (.var 0), (.var 1), false⟩, ⟨.geq, (.var 0), (.var 3), false⟩]
theorem run_24_8 (ρ : Nat → Int) (aR aS : Addr) : runE ρ aR aS L_24_8 (U_op 24) [(24, xP 24, .v (.agg #[.int .i64 1, .int .i64 1])), (8, xP 24, .v (.agg #[.int .i64 1, .int .i64 1]))] := by
  unfold runE
  kernel_rfl
def L_24_9 : List CF := [⟨.lss, (.var 1), (.var 2), true⟩, ⟨.leq, (.var 9), (.lit 1), true⟩, ⟨.leq, (.lit 1), (.var 10), true⟩, ⟨.eql, (.var 0), (.var 1), true⟩, ⟨.eql, (.var 0), (.var 2), false⟩, ⟨.geq, (.var 0), (.var 3), false⟩]
theorem run_24_9 (ρ : Nat → Int) (aR aS : Addr) : runE ρ aR aS L_24_9 (U_op 24) [(24, xP 24, .v (.agg #[.int .i64 1, .int .i64 1])), (8, xP 24, .v (.agg #[.int .i64 1, .int .i64 1]))] := by
  unfold runE
  kernel_rfl
theorem apd_24 (aR aS : Addr) {al ah bl bh lo hi wd k rk rl rh wd2 : Int} (hR : ResV aR aS 24 k rk 0) (hK : KdV aR aS k lo hi wd) (hR2 : KdV aR aS rk rl rh wd2) (_ : -2147483648 ≤ lo) (_ : hi ≤ 4294967295) (_ : lo ≤ al) (a1 : al ≤ ah) (_ : ah ≤ hi) (_ : lo ≤ bl) (c1 : bl ≤ bh) (_ : bh ≤ hi) (er : rl = 0) (eh : rh = 1) : ∃ sl sh, ApD aR aS 24 k al ah bl bh sl sh := by
  cases h0 : cmpI .lss (IE.ev (rP al ah bl bh lo hi wd k rk rl rh) (.var 1)) (IE.ev (rP al ah bl bh lo hi wd k rk rl rh) (.var 2))
  · -- False
    cases h1 : cmpI .leq (IE.ev (rP al ah bl bh lo hi wd k rk rl rh) (.var 3)) (IE.ev (rP al ah bl bh lo hi wd k rk rl rh) (.var 0))
    · -- False
      cases h2 : cmpI .leq (IE.ev (rP al ah bl bh lo hi wd k rk rl rh) (.var 9)) (IE.ev (rP al ah bl bh lo hi wd k rk rl rh) (.lit 0))
      · -- False
        exfalso; (simp (disch := omega) only [IE.ev, rP_0, rP_1, rP_2, rP_3, rP_9, cmpI_leq, cmpI_lss, decide_eq_false_iff_not] at *; omega)
      · -- True
        cases h3 : cmpI .leq (IE.ev (rP al ah bl bh lo hi wd k rk rl rh) (.lit 1)) (IE.ev (rP al ah bl bh lo hi wd k rk rl rh) (.var 10))
        · -- False
          exfalso; (simp (disch := omega) only [IE.ev, rP_0, rP_1, rP_2, rP_3, rP_9, rP_10, cmpI_leq, cmpI_lss, decide_eq_true_eq, decide_eq_false_iff_not] at *; omega)
        · -- True
          cases h4 : cmpI .eql (IE.ev (rP al ah bl bh lo hi wd k rk rl rh) (.var 0)) (IE.ev (rP al ah bl bh lo hi wd k rk rl rh) (.var 1))
          · -- False
            cases h5 : cmpI .lss (IE.ev (rP al ah bl bh lo hi wd k rk rl rh) (.var 3)) (IE.ev (rP al ah bl bh lo hi wd k rk rl rh) (.var 0))
            · -- False
              cases h6 : cmpI .geq (IE.ev (rP al ah bl bh lo hi wd k rk rl rh) (.var 0)) (IE.ev (rP al ah bl bh lo hi wd k rk rl rh) (.var 3))
              · -- False
                exact apd_of (r1 := .v (.agg #[.int .i64 0, .int .i64 1])) (r2 := .v (.agg #[.int .i64 0, .int .i64 1])) (L := L_24_0) hR hK hR2 (fun f hf => by
                      simp only [L_24_0, List.mem_cons, List.not_mem_nil, or_false] at hf
                      rcases hf with rfl | rfl | rfl | rfl | rfl | rfl | rfl
                      · exact ⟨rfl, h0⟩
                      · exact ⟨rfl, h1⟩
                      · exact ⟨rfl, h2⟩
                      · exact ⟨rfl, h3⟩
                      · exact ⟨rfl, h4⟩
                      · exact ⟨rfl, h5⟩
                      · exact ⟨rfl, h6⟩) (run_24_0 _ aR aS) (by rfl) (by rfl) (x := 0) (y := 1) (x' := 0) (y' := 1) rfl rfl (by first | rfl | (simp (disch := omega) only [IE.ev, rP_0, rP_1, rP_2, rP_3, rP_4, rP_5, rP_6, rP_7, rP_8, rP_9, rP_10, ev_addw, ev_subw, ev_shr1, ev_quo2, ev_rem2, tri_2, tri_3, cmpI_leq, cmpI_geq, cmpI_lss, cmpI_gtr, cmpI_eql, cmpI_neq, decide_eq_true_eq, decide_eq_false_iff_not, beq_iff_eq, beq_eq_false_iff_ne, bne_iff_ne, bne_eq_false_iff_eq] at *; omega)) (by first | rfl | (simp (disch := omega) only [IE.ev, rP_0, rP_1, rP_2, rP_3, rP_4, rP_5, rP_6, rP_7, rP_8, rP_9, rP_10, ev_addw, ev_subw, ev_shr1, ev_quo2, ev_rem2, tri_2, tri_3, cmpI_leq, cmpI_geq, cmpI_lss, cmpI_gtr, cmpI_eql, cmpI_neq, decide_eq_true_eq, decide_eq_false_iff_not, beq_iff_eq, beq_eq_false_iff_ne, bne_iff_ne, bne_eq_false_iff_eq] at *; omega))
              · -- True
                exfalso; (simp (disch := omega) only [IE.ev, rP_0, rP_1, rP_2, rP_3, rP_9, rP_10, cmpI_leq, cmpI_geq, cmpI_lss, cmpI_eql, decide_eq_true_eq, decide_eq_false_iff_not, beq_eq_false_iff_ne] at *; omega)
            · -- True
              exfalso; (simp (disch := omega) only [IE.ev, rP_0, rP_1, rP_2, rP_3, rP_9, rP_10, cmpI_leq, cmpI_lss, cmpI_eql, decide_eq_true_eq, decide_eq_false_iff_not, beq_eq_false_iff_ne] at *; omega)
          · -- True
            cases h5 : cmpI .eql (IE.ev (rP al ah bl bh lo hi wd k rk rl rh) (.var 0)) (IE.ev (rP al ah bl bh lo hi wd k rk rl rh) (.var 2))
            · -- False
              cases h6 : cmpI .lss (IE.ev (rP al ah bl bh lo hi wd k rk rl rh) (.var 3)) (IE.ev (rP al ah bl bh lo hi wd k rk rl rh) (.var 0))
              · -- False
                cases h7 : cmpI .geq (IE.ev (rP al ah bl bh lo hi wd k rk rl rh) (.var 0)) (IE.ev (rP al ah bl bh lo hi wd k rk rl rh) (.var 3))
                · -- False
                  exact apd_of (r1 := .v (.agg #[.int .i64 0, .int .i64 1])) (r2 := .v (.agg #[.int .i64 0, .int .i64 1])) (L := L_24_1) hR hK hR2 (fun f hf => by
                        simp only [L_24_1, List.mem_cons, List.not_mem_nil, or_false] at hf
                        rcases hf with rfl | rfl | rfl | rfl | rfl | rfl | rfl | rfl
                        · exact ⟨rfl, h0⟩
                        · exact ⟨rfl, h1⟩
                        · exact ⟨rfl, h2⟩
                        · exact ⟨rfl, h3⟩
                        · exact ⟨rfl, h4⟩
                        · exact ⟨rfl, h5⟩
                        · exact ⟨rfl, h6⟩
                        · exact ⟨rfl, h7⟩) (run_24_1 _ aR aS) (by rfl) (by rfl) (x := 0) (y := 1) (x' := 0) (y' := 1) rfl rfl (by first | rfl | (simp (disch := omega) only [IE.ev, rP_0, rP_1, rP_2, rP_3, rP_4, rP_5, rP_6, rP_7, rP_8, rP_9, rP_10, ev_addw, ev_subw, ev_shr1, ev_quo2, ev_rem2, tri_2, tri_3, cmpI_leq, cmpI_geq, cmpI_lss, cmpI_gtr, cmpI_eql, cmpI_neq, decide_eq_true_eq, decide_eq_false_iff_not, beq_iff_eq, beq_eq_false_iff_ne, bne_iff_ne, bne_eq_false_iff_eq] at *; omega)) (by first | rfl | (simp (disch := omega) only [IE.ev, rP_0, rP_1, rP_2, rP_3, rP_4, rP_5, rP_6, rP_7, rP_8, rP_9, rP_10, ev_addw, ev_subw, ev_shr1, ev_quo2, ev_rem2, tri_2, tri_3, cmpI_leq, cmpI_geq, cmpI_lss, cmpI_gtr, cmpI_eql, cmpI_neq, decide_eq_true_eq, decide_eq_false_iff_not, beq_iff_eq, beq_eq_false_iff_ne, bne_iff_ne, bne_eq_false_iff_eq] at *; omega))
                · -- True
                  exfalso; (simp (disch := omega) only [IE.ev, rP_0, rP_1, rP_2, rP_3, rP_9, rP_10, cmpI_leq, cmpI_geq, cmpI_lss, cmpI_eql, decide_eq_true_eq, decide_eq_false_iff_not, beq_iff_eq, beq_eq_false_iff_ne] at *; omega)
              · -- True
                exfalso; (simp (disch := omega) only [IE.ev, rP_0, rP_1, rP_2, rP_3, rP_9, rP_10, cmpI_leq, cmpI_lss, cmpI_eql, decide_eq_true_eq, decide_eq_false_iff_not, beq_iff_eq, beq_eq_false_iff_ne] at *; omega)
            · -- True
              cases h6 : cmpI .eql (IE.ev (rP al ah bl bh lo hi wd k rk rl rh) (.var 1)) (IE.ev (rP al ah bl bh lo hi wd k rk rl rh) (.var 3))
              · -- False
                cases h7 : cmpI .lss (IE.ev (rP al ah bl bh lo hi wd k rk rl rh) (.var 3)) (IE.ev (rP al ah bl bh lo hi wd k rk rl rh) (.var 0))
                · -- False
                  cases h8 : cmpI .geq (IE.ev (rP al ah bl bh lo hi wd k rk rl rh) (.var 0)) (IE.ev (rP al ah bl bh lo hi wd k rk rl rh) (.var 3))
                  · -- False
                    exact apd_of (r1 := .v (.agg #[.int .i64 0, .int .i64 1])) (r2 := .v (.agg #[.int .i64 0, .int .i64 1])) (L := L_24_2) hR hK hR2 (fun f hf => by
                          simp only [L_24_2, List.mem_cons, List.not_mem_nil, or_false] at hf
                          rcases hf with rfl | rfl | rfl | rfl | rfl | rfl | rfl | rfl | rfl
                          · exact ⟨rfl, h0⟩
                          · exact ⟨rfl, h1⟩
                          · exact ⟨rfl, h2⟩
                          · exact ⟨rfl, h3⟩
                          · exact ⟨rfl, h4⟩
                          · exact ⟨rfl, h5⟩
                          · exact ⟨rfl, h6⟩
                          · exact ⟨rfl, h7⟩
                          · exact ⟨rfl, h8⟩) (run_24_2 _ aR aS) (by rfl) (by rfl) (x := 0) (y := 1) (x' := 0) (y' := 1) rfl rfl (by first | rfl | (simp (disch := omega) only [IE.ev, rP_0, rP_1, rP_2, rP_3, rP_4, rP_5, rP_6, rP_7, rP_8, rP_9, rP_10, ev_addw, ev_subw, ev_shr1, ev_quo2, ev_rem2, tri_2, tri_3, cmpI_leq, cmpI_geq, cmpI_lss, cmpI_gtr, cmpI_eql, cmpI_neq, decide_eq_true_eq, decide_eq_false_iff_not, beq_iff_eq, beq_eq_false_iff_ne, bne_iff_ne, bne_eq_false_iff_eq] at *; omega)) (by first | rfl | (simp (disch := omega) only [IE.ev, rP_0, rP_1, rP_2, rP_3, rP_4, rP_5, rP_6, rP_7, rP_8, rP_9, rP_10, ev_addw, ev_subw, ev_shr1, ev_quo2, ev_rem2, tri_2, tri_3, cmpI_leq, cmpI_geq, cmpI_lss, cmpI_gtr, cmpI_eql, cmpI_neq, decide_eq_true_eq, decide_eq_false_iff_not, beq_iff_eq, beq_eq_false_iff_ne, bne_iff_ne, bne_eq_false_iff_eq] at *; omega))
                  · -- True
                    exfalso; (simp (disch := omega) only [IE.ev, rP_0, rP_1, rP_2, rP_3, rP_9, rP_10, cmpI_leq, cmpI_geq, cmpI_lss, cmpI_eql, decide_eq_true_eq, decide_eq_false_iff_not, beq_iff_eq, beq_eq_false_iff_ne] at *; omega)
                · -- True
                  exfalso; (simp (disch := omega) only [IE.ev, rP_0, rP_1, rP_2, rP_3, rP_9, rP_10, cmpI_leq, cmpI_lss, cmpI_eql, decide_eq_true_eq, decide_eq_false_iff_not, beq_iff_eq, beq_eq_false_iff_ne] at *; omega)
              · -- True
                exfalso; (simp (disch := omega) only [IE.ev, rP_0, rP_1, rP_2, rP_3, rP_9, rP_10, cmpI_leq, cmpI_lss, cmpI_eql, decide_eq_true_eq, decide_eq_false_iff_not, beq_iff_eq] at *; omega)
    · -- True
      cases h2 : cmpI .leq (IE.ev (rP al ah bl bh lo hi wd k rk rl rh) (.var 9)) (IE.ev (rP al ah bl bh lo hi wd k rk rl rh) (.lit 0))
      · -- False
        exfalso; (simp (disch := omega) only [IE.ev, rP_0, rP_1, rP_2, rP_3, rP_9, cmpI_leq, cmpI_lss, decide_eq_true_eq, decide_eq_false_iff_not] at *; omega)
      · -- True
        cases h3 : cmpI .leq (IE.ev (rP al ah bl bh lo hi wd k rk rl rh) (.lit 0)) (IE.ev (rP al ah bl bh lo hi wd k rk rl rh) (.var 10))
        · -- False
          exfalso; (simp (disch := omega) only [IE.ev, rP_0, rP_1, rP_2, rP_3, rP_9, rP_10, cmpI_leq, cmpI_lss, decide_eq_true_eq, decide_eq_false_iff_not] at *; omega)
        · -- True
          cases h4 : cmpI .eql (IE.ev (rP al ah bl bh lo hi wd k rk rl rh) (.var 0)) (IE.ev (rP al ah bl bh lo hi wd k rk rl rh) (.var 1))
          · -- False
            cases h5 : cmpI .lss (IE.ev (rP al ah bl bh lo hi wd k rk rl rh) (.var 3)) (IE.ev (rP al ah bl bh lo hi wd k rk rl rh) (.var 0))
            · -- False
              cases h6 : cmpI .geq (IE.ev (rP al ah bl bh lo hi wd k rk rl rh) (.var 0)) (IE.ev (rP al ah bl bh lo hi wd k rk rl rh) (.var 3))
              · -- False
                exfalso; (simp (disch := omega) only [IE.ev, rP_0, rP_1, rP_2, rP_3, rP_9, rP_10, cmpI_leq, cmpI_geq, cmpI_lss, cmpI_eql, decide_eq_true_eq, decide_eq_false_iff_not, beq_eq_false_iff_ne] at *; omega)
              · -- True
                exact apd_of (r1 := .v (.agg #[.int .i64 0, .int .i64 0])) (r2 := .v (.agg #[.int .i64 0, .int .i64 0])) (L := L_24_3) hR hK hR2 (fun f hf => by
                      simp only [L_24_3, List.mem_cons, List.not_mem_nil, or_false] at hf
                      rcases hf with rfl | rfl | rfl | rfl | rfl | rfl | rfl
                      · exact ⟨rfl, h0⟩
                      · exact ⟨rfl, h1⟩
                      · exact ⟨rfl, h2⟩
                      · exact ⟨rfl, h3⟩
                      · exact ⟨rfl, h4⟩
                      · exact ⟨rfl, h5⟩
                      · exact ⟨rfl, h6⟩) (run_24_3 _ aR aS) (by rfl) (by rfl) (x := 0) (y := 0) (x' := 0) (y' := 0) rfl rfl (by first | rfl | (simp (disch := omega) only [IE.ev, rP_0, rP_1, rP_2, rP_3, rP_4, rP_5, rP_6, rP_7, rP_8, rP_9, rP_10, ev_addw, ev_subw, ev_shr1, ev_quo2, ev_rem2, tri_2, tri_3, cmpI_leq, cmpI_geq, cmpI_lss, cmpI_gtr, cmpI_eql, cmpI_neq, decide_eq_true_eq, decide_eq_false_iff_not, beq_iff_eq, beq_eq_false_iff_ne, bne_iff_ne, bne_eq_false_iff_eq] at *; omega)) (by first | rfl | (simp (disch := omega) only [IE.ev, rP_0, rP_1, rP_2, rP_3, rP_4, rP_5, rP_6, rP_7, rP_8, rP_9, rP_10, ev_addw, ev_subw, ev_shr1, ev_quo2, ev_rem2, tri_2, tri_3, cmpI_leq, cmpI_geq, cmpI_lss, cmpI_gtr, cmpI_eql, cmpI_neq, decide_eq_true_eq, decide_eq_false_iff_not, beq_iff_eq, beq_eq_false_iff_ne, bne_iff_ne, bne_eq_false_iff_eq] at *; omega))
            · -- True
              cases h6 : cmpI .geq (IE.ev (rP al ah bl bh lo hi wd k rk rl rh) (.var 0)) (IE.ev (rP al ah bl bh lo hi wd k rk rl rh) (.var 3))
              · -- False
                exfalso; (simp (disch := omega) only [IE.ev, rP_0, rP_1, rP_2, rP_3, rP_9, rP_10, cmpI_leq, cmpI_geq, cmpI_lss, cmpI_eql, decide_eq_true_eq, decide_eq_false_iff_not, beq_eq_false_iff_ne] at *; omega)
              · -- True
                exact apd_of (r1 := .v (.agg #[.int .i64 0, .int .i64 0])) (r2 := .v (.agg #[.int .i64 0, .int .i64 0])) (L := L_24_4) hR hK hR2 (fun f hf => by
                      simp only [L_24_4, List.mem_cons, List.not_mem_nil, or_false] at hf
                      rcases hf with rfl | rfl | rfl | rfl | rfl | rfl | rfl
                      · exact ⟨rfl, h0⟩
                      · exact ⟨rfl, h1⟩
                      · exact ⟨rfl, h2⟩
                      · exact ⟨rfl, h3⟩
                      · exact ⟨rfl, h4⟩
                      · exact ⟨rfl, h5⟩
                      · exact ⟨rfl, h6⟩) (run_24_4 _ aR aS) (by rfl) (by rfl) (x := 0) (y := 0) (x' := 0) (y' := 0) rfl rfl (by first | rfl | (simp (disch := omega) only [IE.ev, rP_0, rP_1, rP_2, rP_3, rP_4, rP_5, rP_6, rP_7, rP_8, rP_9, rP_10, ev_addw, ev_subw, ev_shr1, ev_quo2, ev_rem2, tri_2, tri_3, cmpI_leq, cmpI_geq, cmpI_lss, cmpI_gtr, cmpI_eql, cmpI_neq, decide_eq_true_eq, decide_eq_false_iff_not, beq_iff_eq, beq_eq_false_iff_ne, bne_iff_ne, bne_eq_false_iff_eq] at *; omega)) (by first | rfl | (simp (disch := omega) only [IE.ev, rP_0, rP_1, rP_2, rP_3, rP_4, rP_5, rP_6, rP_7, rP_8, rP_9, rP_10, ev_addw, ev_subw, ev_shr1, ev_quo2, ev_rem2, tri_2, tri_3, cmpI_leq, cmpI_geq, cmpI_lss, cmpI_gtr, cmpI_eql, cmpI_neq, decide_eq_true_eq, decide_eq_false_iff_not, beq_iff_eq, beq_eq_false_iff_ne, bne_iff_ne, bne_eq_false_iff_eq] at *; omega))
          · -- True
            cases h5 : cmpI .eql (IE.ev (rP al ah bl bh lo hi wd k rk rl rh) (.var 0)) (IE.ev (rP al ah bl bh lo hi wd k rk rl rh) (.var 2))
            · -- False
              cases h6 : cmpI .lss (IE.ev (rP al ah bl bh lo hi wd k rk rl rh) (.var 3)) (IE.ev (rP al ah bl bh lo hi wd k rk rl rh) (.var 0))
              · -- False
                cases h7 : cmpI .geq (IE.ev (rP al ah bl bh lo hi wd k rk rl rh) (.var 0)) (IE.ev (rP al ah bl bh lo hi wd k rk rl rh) (.var 3))
                · -- False
                  exfalso; (simp (disch := omega) only [IE.ev, rP_0, rP_1, rP_2, rP_3, rP_9, rP_10, cmpI_leq, cmpI_geq, cmpI_lss, cmpI_eql, decide_eq_true_eq, decide_eq_false_iff_not, beq_iff_eq, beq_eq_false_iff_ne] at *; omega)
                · -- True
                  exact apd_of (r1 := .v (.agg #[.int .i64 0, .int .i64 0])) (r2 := .v (.agg #[.int .i64 0, .int .i64 0])) (L := L_24_5) hR hK hR2 (fun f hf => by
                        simp only [L_24_5, List.mem_cons, List.not_mem_nil, or_false] at hf
                        rcases hf with rfl | rfl | rfl | rfl | rfl | rfl | rfl | rfl
                        · exact ⟨rfl, h0⟩
                        · exact ⟨rfl, h1⟩
                        · exact ⟨rfl, h2⟩
                        · exact ⟨rfl, h3⟩
                        · exact ⟨rfl, h4⟩
                        · exact ⟨rfl, h5⟩
                        · exact ⟨rfl, h6⟩
                        · exact ⟨rfl, h7⟩) (run_24_5 _ aR aS) (by rfl) (by rfl) (x := 0) (y := 0) (x' := 0) (y' := 0) rfl rfl (by first | rfl | (simp (disch := omega) only [IE.ev, rP_0, rP_1, rP_2, rP_3, rP_4, rP_5, rP_6, rP_7, rP_8, rP_9, rP_10, ev_addw, ev_subw, ev_shr1, ev_quo2, ev_rem2, tri_2, tri_3, cmpI_leq, cmpI_geq, cmpI_lss, cmpI_gtr, cmpI_eql, cmpI_neq, decide_eq_true_eq, decide_eq_false_iff_not, beq_iff_eq, beq_eq_false_iff_ne, bne_iff_ne, bne_eq_false_iff_eq] at *; omega)) (by first | rfl | (simp (disch := omega) only [IE.ev, rP_0, rP_1, rP_2, rP_3, rP_4, rP_5, rP_6, rP_7, rP_8, rP_9, rP_10, ev_addw, ev_subw, ev_shr1, ev_quo2, ev_rem2, tri_2, tri_3, cmpI_leq, cmpI_geq, cmpI_lss, cmpI_gtr, cmpI_eql, cmpI_neq, decide_eq_true_eq, decide_eq_false_iff_not, beq_iff_eq, beq_eq_false_iff_ne, bne_iff_ne, bne_eq_false_iff_eq] at *; omega))
              · -- True
                cases h7 : cmpI .geq (IE.ev (rP al ah bl bh lo hi wd k rk rl rh) (.var 0)) (IE.ev (rP al ah bl bh lo hi wd k rk rl rh) (.var 3))
                · -- False
                  exfalso; (simp (disch := omega) only [IE.ev, rP_0, rP_1, rP_2, rP_3, rP_9, rP_10, cmpI_leq, cmpI_geq, cmpI_lss, cmpI_eql, decide_eq_true_eq, decide_eq_false_iff_not, beq_iff_eq, beq_eq_false_iff_ne] at *; omega)
                · -- True
                  exact apd_of (r1 := .v (.agg #[.int .i64 0, .int .i64 0])) (r2 := .v (.agg #[.int .i64 0, .int .i64 0])) (L := L_24_6) hR hK hR2 (fun f hf => by
                        simp only [L_24_6, List.mem_cons, List.not_mem_nil, or_false] at hf
                        rcases hf with rfl | rfl | rfl | rfl | rfl | rfl | rfl | rfl
                        · exact ⟨rfl, h0⟩
                        · exact ⟨rfl, h1⟩
                        · exact ⟨rfl, h2⟩
                        · exact ⟨rfl, h3⟩
                        · exact ⟨rfl, h4⟩
                        · exact ⟨rfl, h5⟩
                        · exact ⟨rfl, h6⟩
                        · exact ⟨rfl, h7⟩) (run_24_6 _ aR aS) (by rfl) (by rfl) (x := 0) (y := 0) (x' := 0) (y' := 0) rfl rfl (by first | rfl | (simp (disch := omega) only [IE.ev, rP_0, rP_1, rP_2, rP_3, rP_4, rP_5, rP_6, rP_7, rP_8, rP_9, rP_10, ev_addw, ev_subw, ev_shr1, ev_quo2, ev_rem2, tri_2, tri_3, cmpI_leq, cmpI_geq, cmpI_lss, cmpI_gtr, cmpI_eql, cmpI_neq, decide_eq_true_eq, decide_eq_false_iff_not, beq_iff_eq, beq_eq_false_iff_ne, bne_iff_ne, bne_eq_false_iff_eq] at *; omega)) (by first | rfl | (simp (disch := omega) only [IE.ev, rP_0, rP_1, rP_2, rP_3, rP_4, rP_5, rP_6, rP_7, rP_8, rP_9, rP_10, ev_addw, ev_subw, ev_shr1, ev_quo2, ev_rem2, tri_2, tri_3, cmpI_leq, cmpI_geq, cmpI_lss, cmpI_gtr, cmpI_eql, cmpI_neq, decide_eq_true_eq, decide_eq_false_iff_not, beq_iff_eq, beq_eq_false_iff_ne, bne_iff_ne, bne_eq_false_iff_eq] at *; omega))
            · -- True
              cases h6 : cmpI .eql (IE.ev (rP al ah bl bh lo hi wd k rk rl rh) (.var 1)) (IE.ev (rP al ah bl bh lo hi wd k rk rl rh) (.var 3))
              · -- False
                exfalso; (simp (disch := omega) only [IE.ev, rP_0, rP_1, rP_2, rP_3, rP_9, rP_10, cmpI_leq, cmpI_lss, cmpI_eql, decide_eq_true_eq, decide_eq_false_iff_not, beq_iff_eq, beq_eq_false_iff_ne] at *; omega)
              · -- True
                cases h7 : cmpI .lss (IE.ev (rP al ah bl bh lo hi wd k rk rl rh) (.var 3)) (IE.ev (rP al ah bl bh lo hi wd k rk rl rh) (.var 0))
                · -- False
                  cases h8 : cmpI .geq (IE.ev (rP al ah bl bh lo hi wd k rk rl rh) (.var 0)) (IE.ev (rP al ah bl bh lo hi wd k rk rl rh) (.var 3))
                  · -- False
                    exfalso; (simp (disch := omega) only [IE.ev, rP_0, rP_1, rP_2, rP_3, rP_9, rP_10, cmpI_leq, cmpI_geq, cmpI_lss, cmpI_eql, decide_eq_true_eq, decide_eq_false_iff_not, beq_iff_eq] at *; omega)
                  · -- True
                    exact apd_of (r1 := .v (.agg #[.int .i64 0, .int .i64 0])) (r2 := .v (.agg #[.int .i64 0, .int .i64 0])) (L := L_24_7) hR hK hR2 (fun f hf => by
                          simp only [L_24_7, List.mem_cons, List.not_mem_nil, or_false] at hf
                          rcases hf with rfl | rfl | rfl | rfl | rfl | rfl | rfl | rfl | rfl
                          · exact ⟨rfl, h0⟩
                          · exact ⟨rfl, h1⟩
                          · exact ⟨rfl, h2⟩
                          · exact ⟨rfl, h3⟩
                          · exact ⟨rfl, h4⟩
                          · exact ⟨rfl, h5⟩
                          · exact ⟨rfl, h6⟩
                          · exact ⟨rfl, h7⟩
                          · exact ⟨rfl, h8⟩) (run_24_7 _ aR aS) (by rfl) (by rfl) (x := 0) (y := 0) (x' := 0) (y' := 0) rfl rfl (by first | rfl | (simp (disch := omega) only [IE.ev, rP_0, rP_1, rP_2, rP_3, rP_4, rP_5, rP_6, rP_7, rP_8, rP_9, rP_10, ev_addw, ev_subw, ev_shr1, ev_quo2, ev_rem2, tri_2, tri_3, cmpI_leq, cmpI_geq, cmpI_lss, cmpI_gtr, cmpI_eql, cmpI_neq, decide_eq_true_eq, decide_eq_false_iff_not, beq_iff_eq, beq_eq_false_iff_ne, bne_iff_ne, bne_eq_false_iff_eq] at *; omega)) (by first | rfl | (simp (disch := omega) only [IE.ev, rP_0, rP_1, rP_2, rP_3, rP_4, rP_5, rP_6, rP_7, rP_8, rP_9, rP_10, ev_addw, ev_subw, ev_shr1, ev_quo2, ev_rem2, tri_2, tri_3, cmpI_leq, cmpI_geq, cmpI_lss, cmpI_gtr, cmpI_eql, cmpI_neq, decide_eq_true_eq, decide_eq_false_iff_not, beq_iff_eq, beq_eq_false_iff_ne, bne_iff_ne, bne_eq_false_iff_eq] at *; omega))
                · -- True
                  exfalso; (simp (disch := omega) only [IE.ev, rP_0, rP_1, rP_2, rP_3, rP_9, rP_10, cmpI_leq, cmpI_lss, cmpI_eql, decide_eq_true_eq, decide_eq_false_iff_not, beq_iff_eq] at *; omega)
  · -- True
    cases h1 : cmpI .leq (IE.ev (rP al ah bl bh lo hi wd k rk rl rh) (.var 9)) (IE.ev (rP al ah bl bh lo hi wd k rk rl rh) (.lit 1))
    · -- False
      exfalso; (simp (disch := omega) only [IE.ev, rP_1, rP_2, rP_9, cmpI_leq, cmpI_lss, decide_eq_true_eq, decide_eq_false_iff_not] at *; omega)
    · -- True
      cases h2 : cmpI .leq (IE.ev (rP al ah bl bh lo hi wd k rk rl rh) (.lit 1)) (IE.ev (rP al ah bl bh lo hi wd k rk rl rh) (.var 10))
      · -- False
        exfalso; (simp (disch := omega) only [IE.ev, rP_1, rP_2, rP_9, rP_10, cmpI_leq, cmpI_lss, decide_eq_true_eq, decide_eq_false_iff_not] at *; omega)
      · -- True
        cases h3 : cmpI .eql (IE.ev (rP al ah bl bh lo hi wd k rk rl rh) (.var 0)) (IE.ev (rP al ah bl bh lo hi wd k rk rl rh) (.var 1))
        · -- False
          cases h4 : cmpI .geq (IE.ev (rP al ah bl bh lo hi wd k rk rl rh) (.var 0)) (IE.ev (rP al ah bl bh lo hi wd k rk rl rh) (.var 3))
          · -- False
            exact apd_of (r1 := .v (.agg #[.int .i64 1, .int .i64 1])) (r2 := .v (.agg #[.int .i64 1, .int .i64 1])) (L := L_24_8) hR hK hR2 (fun f hf => by
                  simp only [L_24_8, List.mem_cons, List.not_mem_nil, or_false] at hf
                  rcases hf with rfl | rfl | rfl | rfl | rfl
                  · exact ⟨rfl, h0⟩
                  · exact ⟨rfl, h1⟩
                  · exact ⟨rfl, h2⟩
                  · exact ⟨rfl, h3⟩
                  · exact ⟨rfl, h4⟩) (run_24_8 _ aR aS) (by rfl) (by rfl) (x := 1) (y := 1) (x' := 1) (y' := 1) rfl rfl (by first | rfl | (simp (disch := omega) only [IE.ev, rP_0, rP_1, rP_2, rP_3, rP_4, rP_5, rP_6, rP_7, rP_8, rP_9, rP_10, ev_addw, ev_subw, ev_shr1, ev_quo2, ev_rem2, tri_2, tri_3, cmpI_leq, cmpI_geq, cmpI_lss, cmpI_gtr, cmpI_eql, cmpI_neq, decide_eq_true_eq, decide_eq_false_iff_not, beq_iff_eq, beq_eq_false_iff_ne, bne_iff_ne, bne_eq_false_iff_eq] at *; omega)) (by first | rfl | (simp (disch := omega) only [IE.ev, rP_0, rP_1, rP_2, rP_3, rP_4, rP_5, rP_6, rP_7, rP_8, rP_9, rP_10, ev_addw, ev_subw, ev_shr1, ev_quo2, ev_rem2, tri_2, tri_3, cmpI_leq, cmpI_geq, cmpI_lss, cmpI_gtr, cmpI_eql, cmpI_neq, decide_eq_true_eq, decide_eq_false_iff_not, beq_iff_eq, beq_eq_false_iff_ne, bne_iff_ne, bne_eq_false_iff_eq] at *; omega))
          · -- True
            exfalso; (simp (disch := omega) only [IE.ev, rP_0, rP_1, rP_2, rP_3, rP_9, rP_10, cmpI_leq, cmpI_geq, cmpI_lss, cmpI_eql, decide_eq_true_eq, beq_eq_false_iff_ne] at *; omega)
        · -- True
          cases h4 : cmpI .eql (IE.ev (rP al ah bl bh lo hi wd k rk rl rh) (.var 0)) (IE.ev (rP al ah bl bh lo hi wd k rk rl rh) (.var 2))
          · -- False
            cases h5 : cmpI .geq (IE.ev (rP al ah bl bh lo hi wd k rk rl rh) (.var 0)) (IE.ev (rP al ah bl bh lo hi wd k rk rl rh) (.var 3))
            · -- False
              exact apd_of (r1 := .v (.agg #[.int .i64 1, .int .i64 1])) (r2 := .v (.agg #[.int .i64 1, .int .i64 1])) (L := L_24_9) hR hK hR2 (fun f hf => by
                    simp only [L_24_9, List.mem_cons, List.not_mem_nil, or_false] at hf
                    rcases hf with rfl | rfl | rfl | rfl | rfl | rfl
                    · exact ⟨rfl, h0⟩
                    · exact ⟨rfl, h1⟩
                    · exact ⟨rfl, h2⟩
                    · exact ⟨rfl, h3⟩
                    · exact ⟨rfl, h4⟩
                    · exact ⟨rfl, h5⟩) (run_24_9 _ aR aS) (by rfl) (by rfl) (x := 1) (y := 1) (x' := 1) (y' := 1) rfl rfl (by first | rfl | (simp (disch := omega) only [IE.ev, rP_0, rP_1, rP_2, rP_3, rP_4, rP_5, rP_6, rP_7, rP_8, rP_9, rP_10, ev_addw, ev_subw, ev_shr1, ev_quo2, ev_rem2, tri_2, tri_3, cmpI_leq, cmpI_geq, cmpI_lss, cmpI_gtr, cmpI_eql, cmpI_neq, decide_eq_true_eq, decide_eq_false_iff_not, beq_iff_eq, beq_eq_false_iff_ne, bne_iff_ne, bne_eq_false_iff_eq] at *; omega)) (by first | rfl | (simp (disch := omega) only [IE.ev, rP_0, rP_1, rP_2, rP_3, rP_4, rP_5, rP_6, rP_7, rP_8, rP_9, rP_10, ev_addw, ev_subw, ev_shr1, ev_quo2, ev_rem2, tri_2, tri_3, cmpI_leq, cmpI_geq, cmpI_lss, cmpI_gtr, cmpI_eql, cmpI_neq, decide_eq_true_eq, decide_eq_false_iff_not, beq_iff_eq, beq_eq_false_iff_ne, bne_iff_ne, bne_eq_false_iff_eq] at *; omega))
            · -- True
              exfalso; (simp (disch := omega) only [IE.ev, rP_0, rP_1, rP_2, rP_3, rP_9, rP_10, cmpI_leq, cmpI_geq, cmpI_lss, cmpI_eql, decide_eq_true_eq, beq_iff_eq, beq_eq_false_iff_ne] at *; omega)
          · -- True
            exfalso; (simp (disch := omega) only [IE.ev, rP_0, rP_1, rP_2, rP_9, rP_10, cmpI_leq, cmpI_lss, cmpI_eql, decide_eq_true_eq, beq_iff_eq] at *; omega)
def L_25_0 : List CF := [⟨.leq, (.var 1), (.var 2), false⟩, ⟨.lss, (.var 3), (.var 0), false⟩, ⟨.leq, (.var 9), (.lit 0), true⟩, ⟨.leq, (.lit 1), (.var 10), true⟩, ⟨.eql, (.var 0), (.var 1), false⟩, ⟨.lss, (.var 1), (.var 2), false⟩, ⟨.gtr, (.var 0), (.var 3), false⟩]
theorem run_25_0 (ρ : Nat → Int) (aR aS : Addr) : runE ρ aR aS L_25_0 (U_op 25) [(24, xP 25, .v (.agg #[.int .i64 0, .int .i64 1])), (8, xP 25, .v (.agg #[.int .i64 0, .int .i64 1]))] := by
  unfold runE
  kernel_rfl
def L_25_1 : List CF := [⟨.leq, (.var 1), (.var 2), false⟩, ⟨.lss, (.var 3), (.var 0), false⟩, ⟨.leq, (.var 9), (.lit 0), true⟩, ⟨.leq, (.lit 1), (.var 10), true⟩, ⟨.eql, (.var 0), (.var 1), true⟩, ⟨.eql, (.var 0), (.var 2), false⟩, ⟨.lss, (.var 1), (.var 2), false⟩, ⟨.gtr, (.var 0), (.var 3), false⟩]
theorem run_25_1 (ρ : Nat → Int) (aR aS : Addr) : runE ρ aR aS L_25_1 (U_op 25) [(24, xP 25, .v (.agg #[.int .i64 0, .int .i64 1])), (8, xP 25, .v (.agg #[.int .i64 0, .int .i64 1]))] := by
  unfold runE
  kernel_rfl
def L_25_2 : List CF := [⟨.leq, (.var 1), (.var 2), false⟩, ⟨.lss, (.var 3), (.var 0), true⟩, ⟨.leq, (.var 9), (.lit 0), true⟩, ⟨.leq, (.lit 0), (.var 10), true⟩, ⟨.eql, (.var 0), (.var 1), false⟩, ⟨.lss, (.var 1), (.var 2), false⟩, ⟨.gtr, (.var 0), (.var 3), true⟩]
theorem run_25_2 (ρ : Nat → Int) (aR aS : Addr) : runE ρ aR aS L_25_2 (U_op 25) [(24, xP 25, .v (.agg #[.int .i64 0, .int .i64 0])), (8, xP 25, .v (.agg #[.int .i64 0, .int .i64 0]))] := by
  unfold runE
  kernel_rfl
def L_25_3 : List CF := [⟨.leq, (.var 1), (.var 2), false⟩, ⟨.lss, (.var 3), (.var 0), true⟩, ⟨.leq, (.var 9), (.lit 0), true⟩, ⟨.leq, (.lit 0), (.var 10), true⟩, ⟨.eql, (.var 0), (.var 1), true⟩, ⟨.eql, (.var 0), (.var 2), false⟩, ⟨.lss, (.var 1), (.var 2), false⟩, ⟨.gtr, (.var 0), (.var 3), true⟩]
theorem run_25_3 (ρ : Nat → Int) (aR aS : Addr) : runE ρ aR aS L_25_3 (U_op 25) [(24, xP 25, .v (.agg #[.int .i64 0, .int .i64 0])), (8, xP 25, .v (.agg #[.int .i64 0, .int .i64 0]))] := by
  unfold runE
  kernel_rfl
def L_25_4 : List CF := [⟨.leq, (.var 1), (.var 2), true⟩, ⟨.leq, (.var 9), (.lit 1), true⟩, ⟨.leq, (.lit 1), (.var 10), true⟩, ⟨.eql, (.var 0), (.var 1), false⟩, ⟨.lss, (.var 1), (.var 2), false⟩, ⟨.lss, (.var 3), (.var 0), false⟩, ⟨.gtr, (.var 0), (.var 3), false⟩]
theorem run_25_4 (ρ : Nat → Int) (aR aS : Addr) : runE ρ aR aS L_25_4 (U_op 25) [(24, xP 25, .v (.agg #[.int .i64 1, .int .i64 1])), (8, xP 25, .v (.agg #[.int .i64 1, .int .i64 1]))] := by
  unfold runE
  kernel_rfl
def L_25_5 : List CF := [⟨.leq, (.var 1), (.var 2), true⟩, ⟨.leq, (.var 9), (.lit 1), true⟩, ⟨.leq, (.lit 1), (.var 10), true⟩, ⟨.eql, (.var 0), (.var 1), false⟩, ⟨.lss, (.var 1), (.var 2), true⟩, ⟨.gtr, (.var 0), (.var 3), false⟩]
theorem run_25_5 (ρ : Nat → Int) (aR aS : Addr) : runE ρ aR aS L_25_5 (U_op 25) [(24, xP 25, .v (.agg #[.int .i64 1, .int .i64 1])), (8, xP 25, .v (.agg #[.int .i64 1, .int .i64 1]))] := by
  unfold runE
  kernel_rfl
def L_25_6 : List CF := [⟨.leq, (.var 1), (.var 2), true⟩, ⟨.leq, (.var 9), (.lit 1), true⟩, ⟨.leq, (.lit 1), (.var 10), true⟩, ⟨.eql, (.var 0), (.var 1), true⟩, ⟨.eql, (.var 0), (.var 2), false⟩, ⟨.lss, (.var 1), (.var 2), true⟩, ⟨.gtr, (.var 0), (.var 3), false⟩]
theorem run_25_6 (ρ : Nat → Int) (aR aS : Addr) : runE ρ aR aS L_25_6 (U_op 25) [(24, xP 25, .v (.agg #[.int .i64 1, .int .i64 1])), (8, xP 25, .v (.agg #[.int .i64 1, .int .i64 1]))] := by
  unfold runE
  kernel_rfl
def L_25_7 : List CF := [⟨.leq, (.var 1), (.var 2), true⟩, ⟨.leq, (.var 9), (.lit 1), true⟩, ⟨.leq, (.lit 1), (.var 10), true⟩, ⟨.eql, (.var 0), (.var 1), true⟩, ⟨.eql, (.var 0), (.var 2), true⟩, ⟨.eql, (.var 1), (.var 3), false⟩, ⟨.lss, (.var 1), (.var 2), false⟩, ⟨.lss, (.var 3), (.var 0), false⟩, ⟨.gtr, (.var 0), (.var 3), false⟩]
theorem run_25_7 (ρ : Nat → Int) (aR aS : Addr) : runE ρ aR aS L_25_7 (U_op 25) [(24, xP 25, .v (.agg #[.int .i64 1, .int .i64 1])), (8, xP 25, .v (.agg #[.int .i64 1, .int .i64 1]))] := by
  unfold runE
  kernel_rfl
def L_25_8 : List CF := [⟨.leq, (.var 1), (.var 2), true⟩, ⟨.leq, (.var 9), (.lit 1), true⟩, ⟨.leq, (.lit 1), (.var 10), true⟩, ⟨.eql, (.var 0), (.var 1), true⟩, ⟨.eql, (.var 0), (.var 2), true⟩, ⟨.eql, (.var 1), (.var 3), true⟩, ⟨.lss, (.var 1), (.var 2), false⟩, ⟨.lss, (.var 3), (.var 0), false⟩, ⟨.gtr, (.var 0), (.var 3), false⟩]
theorem run_25_8 (ρ : Nat → Int) (aR aS : Addr) : runE ρ aR aS L_25_8 (U_op 25) [(24, xP 25, .v (.agg #[.int .i64 1, .int .i64 1])), (8, xP 25, .v (.agg #[.int .i64 1, .int .i64 1]))] := by
  unfold runE
  kernel_rfl
theorem apd_25 (aR aS : Addr) {al ah bl bh lo hi wd k rk rl rh wd2 : Int} (hR : ResV aR aS 25 k rk 0) (hK : KdV aR aS k lo hi wd) (hR2 : KdV aR aS rk rl rh wd2) (_ : -2147483648 ≤ lo) (_ : hi ≤ 4294967295) (_ : lo ≤ al) (a1 : al ≤ ah) (_ : ah ≤ hi) (_ : lo ≤ bl) (c1 : bl ≤ bh) (_ : bh ≤ hi) (er : rl = 0) (eh : rh = 1) : ∃ sl sh, ApD aR aS 25 k al ah bl bh sl sh := by
  cases h0 : cmpI .leq (IE.ev (rP al ah bl bh lo hi wd k rk rl rh) (.var 1)) (IE.ev (rP al ah bl bh lo hi wd k rk rl rh) (.var 2))
  · -- False
    cases h1 : cmpI .lss (IE.ev (rP al ah bl bh lo hi wd k rk rl rh) (.var 3)) (IE.ev (rP al ah bl bh lo hi wd k rk rl rh) (.var 0))
    · -- False
      cases h2 : cmpI .leq (IE.ev (rP al ah bl bh lo hi wd k rk rl rh) (.var 9)) (IE.ev (rP al ah bl bh lo hi wd k rk rl rh) (.lit 0))
      · -- False
        exfalso; (simp (disch := omega) only [IE.ev, rP_0, rP_1, rP_2, rP_3, rP_9, cmpI_leq, cmpI_lss, decide_eq_false_iff_not] at *; omega)
      · -- True
        cases h3 : cmpI .leq (IE.ev (rP al ah bl bh lo hi wd k rk rl rh) (.lit 1)) (IE.ev (rP al ah bl bh lo hi wd k rk rl rh) (.var 10))
        · -- False
          exfalso; (simp (disch := omega) only [IE.ev, rP_0, rP_1, rP_2, rP_3, rP_9, rP_10, cmpI_leq, cmpI_lss, decide_eq_true_eq, decide_eq_false_iff_not] at *; omega)
        · -- True
          cases h4 : cmpI .eql (IE.ev (rP al ah bl bh lo hi wd k rk rl rh) (.var 0)) (IE.ev (rP al ah bl bh lo hi wd k rk rl rh) (.var 1))
          · -- False
            cases h5 : cmpI .lss (IE.ev (rP al ah bl bh lo hi wd k rk rl rh) (.var 1)) (IE.ev (rP al ah bl bh lo hi wd k rk rl rh) (.var 2))
            · -- False
              cases h6 : cmpI .gtr (IE.ev (rP al ah bl bh lo hi wd k rk rl rh) (.var 0)) (IE.ev (rP al ah bl bh lo hi wd k rk rl rh) (.var 3))
              · -- False
                exact apd_of (r1 := .v (.agg #[.int .i64 0, .int .i64 1])) (r2 := .v (.agg #[.int .i64 0, .int .i64 1])) (L := L_25_0) hR hK hR2 (fun f hf => by
                      simp only [L_25_0, List.mem_cons, List.not_mem_nil, or_false] at hf
                      rcases hf with rfl | rfl | rfl | rfl | rfl | rfl | rfl
                      · exact ⟨rfl, h0⟩
                      · exact ⟨rfl, h1⟩
                      · exact ⟨rfl, h2⟩
                      · exact ⟨rfl, h3⟩
                      · exact ⟨rfl, h4⟩
                      · exact ⟨rfl, h5⟩
                      · exact ⟨rfl, h6⟩) (run_25_0 _ aR aS) (by rfl) (by rfl) (x := 0) (y := 1) (x' := 0) (y' := 1) rfl rfl (by first | rfl | (simp (disch := omega) only [IE.ev, rP_0, rP_1, rP_2, rP_3, rP_4, rP_5, rP_6, rP_7, rP_8, rP_9, rP_10, ev_addw, ev_subw, ev_shr1, ev_quo2, ev_rem2, tri_2, tri_3, cmpI_leq, cmpI_geq, cmpI_lss, cmpI_gtr, cmpI_eql, cmpI_neq, decide_eq_true_eq, decide_eq_false_iff_not, beq_iff_eq, beq_eq_false_iff_ne, bne_iff_ne, bne_eq_false_iff_eq] at *; omega)) (by first | rfl | (simp (disch := omega) only [IE.ev, rP_0, rP_1, rP_2, rP_3, rP_4, rP_5, rP_6, rP_7, rP_8, rP_9, rP_10, ev_addw, ev_subw, ev_shr1, ev_quo2, ev_rem2, tri_2, tri_3, cmpI_leq, cmpI_geq, cmpI_lss, cmpI_gtr, cmpI_eql, cmpI_neq, decide_eq_true_eq, decide_eq_false_iff_not, beq_iff_eq, beq_eq_false_iff_ne, bne_iff_ne, bne_eq_false_iff_eq] at *; omega))
              · -- True
                exfalso; (simp (disch := omega) only [IE.ev, rP_0, rP_1, rP_2, rP_3, rP_9, rP_10, cmpI_leq, cmpI_lss, cmpI_gtr, cmpI_eql, decide_eq_true_eq, decide_eq_false_iff_not, beq_eq_false_iff_ne] at *; omega)
            · -- True
              exfalso; (simp (disch := omega) only [IE.ev, rP_0, rP_1, rP_2, rP_3, rP_9, rP_10, cmpI_leq, cmpI_lss, cmpI_eql, decide_eq_true_eq, decide_eq_false_iff_not, beq_eq_false_iff_ne] at *; omega)
          · -- True
            cases h5 : cmpI .eql (IE.ev (rP al ah bl bh lo hi wd k rk rl rh) (.var 0)) (IE.ev (rP al ah bl bh lo hi wd k rk rl rh) (.var 2))
            · -- False
              cases h6 : cmpI .lss (IE.ev (rP al ah bl bh lo hi wd k rk rl rh) (.var 1)) (IE.ev (rP al ah bl bh lo hi wd k rk rl rh) (.var 2))
              · -- False
                cases h7 : cmpI .gtr (IE.ev (rP al ah bl bh lo hi wd k rk rl rh) (.var 0)) (IE.ev (rP al ah bl bh lo hi wd k rk rl rh) (.var 3))
                · -- False
                  exact apd_of (r1 := .v (.agg #[.int .i64 0, .int .i64 1])) (r2 := .v (.agg #[.int .i64 0, .int .i64 1])) (L := L_25_1) hR hK hR2 (fun f hf => by
                        simp only [L_25_1, List.mem_cons, List.not_mem_nil, or_false] at hf
                        rcases hf with rfl | rfl | rfl | rfl | rfl | rfl | rfl | rfl
                        · exact ⟨rfl, h0⟩
                        · exact ⟨rfl, h1⟩
                        · exact ⟨rfl, h2⟩
                        · exact ⟨rfl, h3⟩
                        · exact ⟨rfl, h4⟩
                        · exact ⟨rfl, h5⟩
                        · exact ⟨rfl, h6⟩
                        · exact ⟨rfl, h7⟩) (run_25_1 _ aR aS) (by rfl) (by rfl) (x := 0) (y := 1) (x' := 0) (y' := 1) rfl rfl (by first | rfl | (simp (disch := omega) only [IE.ev, rP_0, rP_1, rP_2, rP_3, rP_4, rP_5, rP_6, rP_7, rP_8, rP_9, rP_10, ev_addw, ev_subw, ev_shr1, ev_quo2, ev_rem2, tri_2, tri_3, cmpI_leq, cmpI_geq, cmpI_lss, cmpI_gtr, cmpI_eql, cmpI_neq, decide_eq_true_eq, decide_eq_false_iff_not, beq_iff_eq, beq_eq_false_iff_ne, bne_iff_ne, bne_eq_false_iff_eq] at *; omega)) (by first | rfl | (simp (disch := omega) only [IE.ev, rP_0, rP_1, rP_2, rP_3, rP_4, rP_5, rP_6, rP_7, rP_8, rP_9, rP_10, ev_addw, ev_subw, ev_shr1, ev_quo2, ev_rem2, tri_2, tri_3, cmpI_leq, cmpI_geq, cmpI_lss, cmpI_gtr, cmpI_eql, cmpI_neq, decide_eq_true_eq, decide_eq_false_iff_not, beq_iff_eq, beq_eq_false_iff_ne, bne_iff_ne, bne_eq_false_iff_eq] at *; omega))
                · -- True
                  exfalso; (simp (disch := omega) only [IE.ev, rP_0, rP_1, rP_2, rP_3, rP_9, rP_10, cmpI_leq, cmpI_lss, cmpI_gtr, cmpI_eql, decide_eq_true_eq, decide_eq_false_iff_not, beq_iff_eq, beq_eq_false_iff_ne] at *; omega)
              · -- True
                exfalso; (simp (disch := omega) only [IE.ev, rP_0, rP_1, rP_2, rP_3, rP_9, rP_10, cmpI_leq, cmpI_lss, cmpI_eql, decide_eq_true_eq, decide_eq_false_iff_not, beq_iff_eq, beq_eq_false_iff_ne] at *; omega)
            · -- True
              exfalso; (simp (disch := omega) only [IE.ev, rP_0, rP_1, rP_2, rP_3, rP_9, rP_10, cmpI_leq, cmpI_lss, cmpI_eql, decide_eq_true_eq, decide_eq_false_iff_not, beq_iff_eq] at *; omega)
    · -- True
      cases h2 : cmpI .leq (IE.ev (rP al ah bl bh lo hi wd k rk rl rh) (.var 9)) (IE.ev (rP al ah bl bh lo hi wd k rk rl rh) (.lit 0))
      · -- False
        exfalso; (simp (disch := omega) only [IE.ev, rP_0, rP_1, rP_2, rP_3, rP_9, cmpI_leq, cmpI_lss, decide_eq_true_eq, decide_eq_false_iff_not] at *; omega)
      · -- True
        cases h3 : cmpI .leq (IE.ev (rP al ah bl bh lo hi wd k rk rl rh) (.lit 0)) (IE.ev (rP al ah bl bh lo hi wd k rk rl rh) (.var 10))
        · -- False
          exfalso; (simp (disch := omega) only [IE.ev, rP_0, rP_1, rP_2, rP_3, rP_9, rP_10, cmpI_leq, cmpI_lss, decide_eq_true_eq, decide_eq_false_iff_not] at *; omega)
        · -- True
          cases h4 : cmpI .eql (IE.ev (rP al ah bl bh lo hi wd k rk rl rh) (.var 0)) (IE.ev (rP al ah bl bh lo hi wd k rk rl rh) (.var 1))
          · -- False
            cases h5 : cmpI .lss (IE.ev (rP al ah bl bh lo hi wd k rk rl rh) (.var 1)) (IE.ev (rP al ah bl bh lo hi wd k rk rl rh) (.var 2))
            · -- False
              cases h6 : cmpI .gtr (IE.ev (rP al ah bl bh lo hi wd k rk rl rh) (.var 0)) (IE.ev (rP al ah bl bh lo hi wd k rk rl rh) (.var 3))
              · -- False
                exfalso; (simp (disch := omega) only [IE.ev, rP_0, rP_1, rP_2, rP_3, rP_9, rP_10, cmpI_leq, cmpI_lss, cmpI_gtr, cmpI_eql, decide_eq_true_eq, decide_eq_false_iff_not, beq_eq_false_iff_ne] at *; omega)
              · -- True
                exact apd_of (r1 := .v (.agg #[.int .i64 0, .int .i64 0])) (r2 := .v (.agg #[.int .i64 0, .int .i64 0])) (L := L_25_2) hR hK hR2 (fun f hf => by
                      simp only [L_25_2, List.mem_cons, List.not_mem_nil, or_false] at hf
                      rcases hf with rfl | rfl | rfl | rfl | rfl | rfl | rfl
                      · exact ⟨rfl, h0⟩
                      · exact ⟨rfl, h1⟩
                      · exact ⟨rfl, h2⟩
                      · exact ⟨rfl, h3⟩
                      · exact ⟨rfl, h4⟩
                      · exact ⟨rfl, h5⟩
                      · exact ⟨rfl, h6⟩) (run_25_2 _ aR aS) (by rfl) (by rfl) (x := 0) (y := 0) (x' := 0) (y' := 0) rfl rfl (by first | rfl | (simp (disch := omega) only [IE.ev, rP_0, rP_1, rP_2, rP_3, rP_4, rP_5, rP_6, rP_7, rP_8, rP_9, rP_10, ev_addw, ev_subw, ev_shr1, ev_quo2, ev_rem2, tri_2, tri_3, cmpI_leq, cmpI_geq, cmpI_lss, cmpI_gtr, cmpI_eql, cmpI_neq, decide_eq_true_eq, decide_eq_false_iff_not, beq_iff_eq, beq_eq_false_iff_ne, bne_iff_ne, bne_eq_false_iff_eq] at *; omega)) (by first | rfl | (simp (disch := omega) only [IE.ev, rP_0, rP_1, rP_2, rP_3, rP_4, rP_5, rP_6, rP_7, rP_8, rP_9, rP_10, ev_addw, ev_subw, ev_shr1, ev_quo2, ev_rem2, tri_2, tri_3, cmpI_leq, cmpI_geq, cmpI_lss, cmpI_gtr, cmpI_eql, cmpI_neq, decide_eq_true_eq, decide_eq_false_iff_not, beq_iff_eq, beq_eq_false_iff_ne, bne_iff_ne, bne_eq_false_iff_eq] at *; omega))
            · -- True
              exfalso; (simp (disch := omega) only [IE.ev, rP_0, rP_1, rP_2, rP_3, rP_9, rP_10, cmpI_leq, cmpI_lss, cmpI_eql, decide_eq_true_eq, decide_eq_false_iff_not, beq_eq_false_iff_ne] at *; omega)
          · -- True
            cases h5 : cmpI .eql (IE.ev (rP al ah bl bh lo hi wd k rk rl rh) (.var 0)) (IE.ev (rP al ah bl bh lo hi wd k rk rl rh) (.var 2))
            · -- False
              cases h6 : cmpI .lss (IE.ev (rP al ah bl bh lo hi wd k rk rl rh) (.var 1)) (IE.ev (rP al ah bl bh lo hi wd k rk rl rh) (.var 2))
              · -- False
                cases h7 : cmpI .gtr (IE.ev (rP al ah bl bh lo hi wd k rk rl rh) (.var 0)) (IE.ev (rP al ah bl bh lo hi wd k rk rl rh) (.var 3))
                · -- False
                  exfalso; (simp (disch := omega) only [IE.ev, rP_0, rP_1, rP_2, rP_3, rP_9, rP_10, cmpI_leq, cmpI_lss, cmpI_gtr, cmpI_eql, decide_eq_true_eq, decide_eq_false_iff_not, beq_iff_eq, beq_eq_false_iff_ne] at *; omega)
                · -- True
                  exact apd_of (r1 := .v (.agg #[.int .i64 0, .int .i64 0])) (r2 := .v (.agg #[.int .i64 0, .int .i64 0])) (L := L_25_3) hR hK hR2 (fun f hf => by
                        simp only [L_25_3, List.mem_cons, List.not_mem_nil, or_false] at hf
                        rcases hf with rfl | rfl | rfl | rfl | rfl | rfl | rfl | rfl
                        · exact ⟨rfl, h0⟩
                        · exact ⟨rfl, h1⟩
                        · exact ⟨rfl, h2⟩
                        · exact ⟨rfl, h3⟩
                        · exact ⟨rfl, h4⟩
                        · exact ⟨rfl, h5⟩
                        · exact ⟨rfl, h6⟩
                        · exact ⟨rfl, h7⟩) (run_25_3 _ aR aS) (by rfl) (by rfl) (x := 0) (y := 0) (x' := 0) (y' := 0) rfl rfl (by first | rfl | (simp (disch := omega) only [IE.ev, rP_0, rP_1, rP_2, rP_3, rP_4, rP_5, rP_6, rP_7, rP_8, rP_9, rP_10, ev_addw, ev_subw, ev_shr1, ev_quo2, ev_rem2, tri_2, tri_3, cmpI_leq, cmpI_geq, cmpI_lss, cmpI_gtr, cmpI_eql, cmpI_neq, decide_eq_true_eq, decide_eq_false_iff_not, beq_iff_eq, beq_eq_false_iff_ne, bne_iff_ne, bne_eq_false_iff_eq] at *; omega)) (by first | rfl | (simp (disch := omega) only [IE.ev, rP_0, rP_1, rP_2, rP_3, rP_4, rP_5, rP_6, rP_7, rP_8, rP_9, rP_10, ev_addw, ev_subw, ev_shr1, ev_quo2, ev_rem2, tri_2, tri_3, cmpI_leq, cmpI_geq, cmpI_lss, cmpI_gtr, cmpI_eql, cmpI_neq, decide_eq_true_eq, decide_eq_false_iff_not, beq_iff_eq, beq_eq_false_iff_ne, bne_iff_ne, bne_eq_false_iff_eq] at *; omega))
              · -- True
                exfalso; (simp (disch := omega) only [IE.ev, rP_0, rP_1, rP_2, rP_3, rP_9, rP_10, cmpI_leq, cmpI_lss, cmpI_eql, decide_eq_true_eq, decide_eq_false_iff_not, beq_iff_eq, beq_eq_false_iff_ne] at *; omega)
            · -- True
              exfalso; (simp (disch := omega) only [IE.ev, rP_0, rP_1, rP_2, rP_3, rP_9, rP_10, cmpI_leq, cmpI_lss, cmpI_eql, decide_eq_true_eq, decide_eq_false_iff_not, beq_iff_eq] at *; omega)
  · -- True
    cases h1 : cmpI .leq (IE.ev (rP al ah bl bh lo hi wd k rk rl rh) (.var 9)) (IE.ev (rP al ah bl bh lo hi wd k rk rl rh) (.lit 1))
    · -- False
      exfalso; (simp (disch := omega) only [IE.ev, rP_1, rP_2, rP_9, cmpI_leq, decide_eq_true_eq, decide_eq_false_iff_not] at *; omega)
    · -- True
      cases h2 : cmpI .leq (IE.ev (rP al ah bl bh lo hi wd k rk rl rh) (.lit 1)) (IE.ev (rP al ah bl bh lo hi wd k rk rl rh) (.var 10))
      · -- False
        exfalso; (simp (disch := omega) only [IE.ev, rP_1, rP_2, rP_9, rP_10, cmpI_leq, decide_eq_true_eq, decide_eq_false_iff_not] at *; omega)
      · -- True
        cases h3 : cmpI .eql (IE.ev (rP al ah bl bh lo hi wd k rk rl rh) (.var 0)) (IE.ev (rP al ah bl bh lo hi wd k rk rl rh) (.var 1))
        · -- False
          cases h4 : cmpI .lss (IE.ev (rP al ah bl bh lo hi wd k rk rl rh) (.var 1)) (IE.ev (rP al ah bl bh lo hi wd k rk rl rh) (.var 2))
          · -- False
            cases h5 : cmpI .lss (IE.ev (rP al ah bl bh lo hi wd k rk rl rh) (.var 3)) (IE.ev (rP al ah bl bh lo hi wd k rk rl rh) (.var 0))
            · -- False
              cases h6 : cmpI .gtr (IE.ev (rP al ah bl bh lo hi wd k rk rl rh) (.var 0)) (IE.ev (rP al ah bl bh lo hi wd k rk rl rh) (.var 3))
              · -- False
                exact apd_of (r1 := .v (.agg #[.int .i64 1, .int .i64 1])) (r2 := .v (.agg #[.int .i64 1, .int .i64 1])) (L := L_25_4) hR hK hR2 (fun f hf => by
                      simp only [L_25_4, List.mem_cons, List.not_mem_nil, or_false] at hf
                      rcases hf with rfl | rfl | rfl | rfl | rfl | rfl | rfl
                      · exact ⟨rfl, h0⟩
                      · exact ⟨rfl, h1⟩
                      · exact ⟨rfl, h2⟩
                      · exact ⟨rfl, h3⟩
                      · exact ⟨rfl, h4⟩
                      · exact ⟨rfl, h5⟩
                      · exact ⟨rfl, h6⟩) (run_25_4 _ aR aS) (by rfl) (by rfl) (x := 1) (y := 1) (x' := 1) (y' := 1) rfl rfl (by first | rfl | (simp (disch := omega) only [IE.ev, rP_0, rP_1, rP_2, rP_3, rP_4, rP_5, rP_6, rP_7, rP_8, rP_9, rP_10, ev_addw, ev_subw, ev_shr1, ev_quo2, ev_rem2, tri_2, tri_3, cmpI_leq, cmpI_geq, cmpI_lss, cmpI_gtr, cmpI_eql, cmpI_neq, decide_eq_true_eq, decide_eq_false_iff_not, beq_iff_eq, beq_eq_false_iff_ne, bne_iff_ne, bne_eq_false_iff_eq] at *; omega)) (by first | rfl | (simp (disch := omega) only [IE.ev, rP_0, rP_1, rP_2, rP_3, rP_4, rP_5, rP_6, rP_7, rP_8, rP_9, rP_10, ev_addw, ev_subw, ev_shr1, ev_quo2, ev_rem2, tri_2, tri_3, cmpI_leq, cmpI_geq, cmpI_lss, cmpI_gtr, cmpI_eql, cmpI_neq, decide_eq_true_eq, decide_eq_false_iff_not, beq_iff_eq, beq_eq_false_iff_ne, bne_iff_ne, bne_eq_false_iff_eq] at *; omega))
              · -- True
                exfalso; (simp (disch := omega) only [IE.ev, rP_0, rP_1, rP_2, rP_3, rP_9, rP_10, cmpI_leq, cmpI_lss, cmpI_gtr, cmpI_eql, decide_eq_true_eq, decide_eq_false_iff_not, beq_eq_false_iff_ne] at *; omega)
            · -- True
              exfalso; (simp (disch := omega) only [IE.ev, rP_0, rP_1, rP_2, rP_3, rP_9, rP_10, cmpI_leq, cmpI_lss, cmpI_eql, decide_eq_true_eq, decide_eq_false_iff_not, beq_eq_false_iff_ne] at *; omega)
          · -- True
            cases h5 : cmpI .gtr (IE.ev (rP al ah bl bh lo hi wd k rk rl rh) (.var 0)) (IE.ev (rP al ah bl bh lo hi wd k rk rl rh) (.var 3))
            · -- False
              exact apd_of (r1 := .v (.agg #[.int .i64 1, .int .i64 1])) (r2 := .v (.agg #[.int .i64 1, .int .i64 1])) (L := L_25_5) hR hK hR2 (fun f hf => by
                    simp only [L_25_5, List.mem_cons, List.not_mem_nil, or_false] at hf
                    rcases hf with rfl | rfl | rfl | rfl | rfl | rfl
                    · exact ⟨rfl, h0⟩
                    · exact ⟨rfl, h1⟩
                    · exact ⟨rfl, h2⟩
                    · exact ⟨rfl, h3⟩
                    · exact ⟨rfl, h4⟩
                    · exact ⟨rfl, h5⟩) (run_25_5 _ aR aS) (by rfl) (by rfl) (x := 1) (y := 1) (x' := 1) (y' := 1) rfl rfl (by first | rfl | (simp (disch := omega) only [IE.ev, rP_0, rP_1, rP_2, rP_3, rP_4, rP_5, rP_6, rP_7, rP_8, rP_9, rP_10, ev_addw, ev_subw, ev_shr1, ev_quo2, ev_rem2, tri_2, tri_3, cmpI_leq, cmpI_geq, cmpI_lss, cmpI_gtr, cmpI_eql, cmpI_neq, decide_eq_true_eq, decide_eq_false_iff_not, beq_iff_eq, beq_eq_false_iff_ne, bne_iff_ne, bne_eq_false_iff_eq] at *; omega)) (by first | rfl | (simp (disch := omega) only [IE.ev, rP_0, rP_1, rP_2, rP_3, rP_4, rP_5, rP_6, rP_7, rP_8, rP_9, rP_10, ev_addw, ev_subw, ev_shr1, ev_quo2, ev_rem2, tri_2, tri_3, cmpI_leq, cmpI_geq, cmpI_lss, cmpI_gtr, cmpI_eql, cmpI_neq, decide_eq_true_eq, decide_eq_false_iff_not, beq_iff_eq, beq_eq_false_iff_ne, bne_iff_ne, bne_eq_false_iff_eq] at *; omega))
            · -- True
              exfalso; (simp (disch := omega) only [IE.ev, rP_0, rP_1, rP_2, rP_3, rP_9, rP_10, cmpI_leq, cmpI_lss, cmpI_gtr, cmpI_eql, decide_eq_true_eq, beq_eq_false_iff_ne] at *; omega)
        · -- True
          cases h4 : cmpI .eql (IE.ev (rP al ah bl bh lo hi wd k rk rl rh) (.var 0)) (IE.ev (rP al ah bl bh lo hi wd k rk rl rh) (.var 2))
          · -- False
            cases h5 : cmpI .lss (IE.ev (rP al ah bl bh lo hi wd k rk rl rh) (.var 1)) (IE.ev (rP al ah bl bh lo hi wd k rk rl rh) (.var 2))
            · -- False
              exfalso; (simp (disch := omega) only [IE.ev, rP_0, rP_1, rP_2, rP_9, rP_10, cmpI_leq, cmpI_lss, cmpI_eql, decide_eq_true_eq, decide_eq_false_iff_not, beq_iff_eq, beq_eq_false_iff_ne] at *; omega)
            · -- True
              cases h6 : cmpI .gtr (IE.ev (rP al ah bl bh lo hi wd k rk rl rh) (.var 0)) (IE.ev (rP al ah bl bh lo hi wd k rk rl rh) (.var 3))
              · -- False
                exact apd_of (r1 := .v (.agg #[.int .i64 1, .int .i64 1])) (r2 := .v (.agg #[.int .i64 1, .int .i64 1])) (L := L_25_6) hR hK hR2 (fun f hf => by
                      simp only [L_25_6, List.mem_cons, List.not_mem_nil, or_false] at hf
                      rcases hf with rfl | rfl | rfl | rfl | rfl | rfl | rfl
                      · exact ⟨rfl, h0⟩
                      · exact ⟨rfl, h1⟩
                      · exact ⟨rfl, h2⟩
                      · exact ⟨rfl, h3⟩
                      · exact ⟨rfl, h4⟩
                      · exact ⟨rfl, h5⟩
                      · exact ⟨rfl, h6⟩) (run_25_6 _ aR aS) (by rfl) (by rfl) (x := 1) (y := 1) (x' := 1) (y' := 1) rfl rfl (by first | rfl | (simp (disch := omega) only [IE.ev, rP_0, rP_1, rP_2, rP_3, rP_4, rP_5, rP_6, rP_7, rP_8, rP_9, rP_10, ev_addw, ev_subw, ev_shr1, ev_quo2, ev_rem2, tri_2, tri_3, cmpI_leq, cmpI_geq, cmpI_lss, cmpI_gtr, cmpI_eql, cmpI_neq, decide_eq_true_eq, decide_eq_false_iff_not, beq_iff_eq, beq_eq_false_iff_ne, bne_iff_ne, bne_eq_false_iff_eq] at *; omega)) (by first | rfl | (simp (disch := omega) only [IE.ev, rP_0, rP_1, rP_2, rP_3, rP_4, rP_5, rP_6, rP_7, rP_8, rP_9, rP_10, ev_addw, ev_subw, ev_shr1, ev_quo2, ev_rem2, tri_2, tri_3, cmpI_leq, cmpI_geq, cmpI_lss, cmpI_gtr, cmpI_eql, cmpI_neq, decide_eq_true_eq, decide_eq_false_iff_not, beq_iff_eq, beq_eq_false_iff_ne, bne_iff_ne, bne_eq_false_iff_eq] at *; omega))
              · -- True
                exfalso; (simp (disch := omega) only [IE.ev, rP_0, rP_1, rP_2, rP_3, rP_9, rP_10, cmpI_leq, cmpI_lss, cmpI_gtr, cmpI_eql, decide_eq_true_eq, beq_iff_eq, beq_eq_false_iff_ne] at *; omega)
          · -- True
            cases h5 : cmpI .eql (IE.ev (rP al ah bl bh lo hi wd k rk rl rh) (.var 1)) (IE.ev (rP al ah bl bh lo hi wd k rk rl rh) (.var 3))
            · -- False
              cases h6 : cmpI .lss (IE.ev (rP al ah bl bh lo hi wd k rk rl rh) (.var 1)) (IE.ev (rP al ah bl bh lo hi wd k rk rl rh) (.var 2))
              · -- False
                cases h7 : cmpI .lss (IE.ev (rP al ah bl bh lo hi wd k rk rl rh) (.var 3)) (IE.ev (rP al ah bl bh lo hi wd k rk rl rh) (.var 0))
                · -- False
                  cases h8 : cmpI .gtr (IE.ev (rP al ah bl bh lo hi wd k rk rl rh) (.var 0)) (IE.ev (rP al ah bl bh lo hi wd k rk rl rh) (.var 3))
                  · -- False
                    exact apd_of (r1 := .v (.agg #[.int .i64 1, .int .i64 1])) (r2 := .v (.agg #[.int .i64 1, .int .i64 1])) (L := L_25_7) hR hK hR2 (fun f hf => by
                          simp only [L_25_7, List.mem_cons, List.not_mem_nil, or_false] at hf
                          rcases hf with rfl | rfl | rfl | rfl | rfl | rfl | rfl | rfl | rfl
                          · exact ⟨rfl, h0⟩
                          · exact ⟨rfl, h1⟩
                          · exact ⟨rfl, h2⟩
                          · exact ⟨rfl, h3⟩
                          · exact ⟨rfl, h4⟩
                          · exact ⟨rfl, h5⟩
                          · exact ⟨rfl, h6⟩
                          · exact ⟨rfl, h7⟩
                          · exact ⟨rfl, h8⟩) (run_25_7 _ aR aS) (by rfl) (by rfl) (x := 1) (y := 1) (x' := 1) (y' := 1) rfl rfl (by first | rfl | (simp (disch := omega) only [IE.ev, rP_0, rP_1, rP_2, rP_3, rP_4, rP_5, rP_6, rP_7, rP_8, rP_9, rP_10, ev_addw, ev_subw, ev_shr1, ev_quo2, ev_rem2, tri_2, tri_3, cmpI_leq, cmpI_geq, cmpI_lss, cmpI_gtr, cmpI_eql, cmpI_neq, decide_eq_true_eq, decide_eq_false_iff_not, beq_iff_eq, beq_eq_false_iff_ne, bne_iff_ne, bne_eq_false_iff_eq] at *; omega)) (by first | rfl | (simp (disch := omega) only [IE.ev, rP_0, rP_1, rP_2, rP_3, rP_4, rP_5, rP_6, rP_7, rP_8, rP_9, rP_10, ev_addw, ev_subw, ev_shr1, ev_quo2, ev_rem2, tri_2, tri_3, cmpI_leq, cmpI_geq, cmpI_lss, cmpI_gtr, cmpI_eql, cmpI_neq, decide_eq_true_eq, decide_eq_false_iff_not, beq_iff_eq, beq_eq_false_iff_ne, bne_iff_ne, bne_eq_false_iff_eq] at *; omega))
                  · -- True
                    exfalso; (simp (disch := omega) only [IE.ev, rP_0, rP_1, rP_2, rP_3, rP_9, rP_10, cmpI_leq, cmpI_lss, cmpI_gtr, cmpI_eql, decide_eq_true_eq, decide_eq_false_iff_not, beq_iff_eq, beq_eq_false_iff_ne] at *; omega)
                · -- True
                  exfalso; (simp (disch := omega) only [IE.ev, rP_0, rP_1, rP_2, rP_3, rP_9, rP_10, cmpI_leq, cmpI_lss, cmpI_eql, decide_eq_true_eq, decide_eq_false_iff_not, beq_iff_eq, beq_eq_false_iff_ne] at *; omega)
              · -- True
                exfalso; (simp (disch := omega) only [IE.ev, rP_0, rP_1, rP_2, rP_3, rP_9, rP_10, cmpI_leq, cmpI_lss, cmpI_eql, decide_eq_true_eq, beq_iff_eq, beq_eq_false_iff_ne] at *; omega)
            · -- True
              cases h6 : cmpI .lss (IE.ev (rP al ah bl bh lo hi wd k rk rl rh) (.var 1)) (IE.ev (rP al ah bl bh lo hi wd k rk rl rh) (.var 2))
              · -- False
                cases h7 : cmpI .lss (IE.ev (rP al ah bl bh lo hi wd k rk rl rh) (.var 3)) (IE.ev (rP al ah bl bh lo hi wd k rk rl rh) (.var 0))
                · -- False
                  cases h8 : cmpI .gtr (IE.ev (rP al ah bl bh lo hi wd k rk rl rh) (.var 0)) (IE.ev (rP al ah bl bh lo hi wd k rk rl rh) (.var 3))
                  · -- False
                    exact apd_of (r1 := .v (.agg #[.int .i64 1, .int .i64 1])) (r2 := .v (.agg #[.int .i64 1, .int .i64 1])) (L := L_25_8) hR hK hR2 (fun f hf => by
                          simp only [L_25_8, List.mem_cons, List.not_mem_nil, or_false] at hf
                          rcases hf with rfl | rfl | rfl | rfl | rfl | rfl | rfl | rfl | rfl
                          · exact ⟨rfl, h0⟩
                          · exact ⟨rfl, h1⟩
                          · exact ⟨rfl, h2⟩
                          · exact ⟨rfl, h3⟩
                          · exact ⟨rfl, h4⟩
                          · exact ⟨rfl, h5⟩
                          · exact ⟨rfl, h6⟩
                          · exact ⟨rfl, h7⟩
                          · exact ⟨rfl, h8⟩) (run_25_8 _ aR aS) (by rfl) (by rfl) (x := 1) (y := 1) (x' := 1) (y' := 1) rfl rfl (by first | rfl | (simp (disch := omega) only [IE.ev, rP_0, rP_1, rP_2, rP_3, rP_4, rP_5, rP_6, rP_7, rP_8, rP_9, rP_10, ev_addw, ev_subw, ev_shr1, ev_quo2, ev_rem2, tri_2, tri_3, cmpI_leq, cmpI_geq, cmpI_lss, cmpI_gtr, cmpI_eql, cmpI_neq, decide_eq_true_eq, decide_eq_false_iff_not, beq_iff_eq, beq_eq_false_iff_ne, bne_iff_ne, bne_eq_false_iff_eq] at *; omega)) (by first | rfl | (simp (disch := omega) only [IE.ev, rP_0, rP_1, rP_2, rP_3, rP_4, rP_5, rP_6, rP_7, rP_8, rP_9, rP_10, ev_addw, ev_subw, ev_shr1, ev_quo2, ev_rem2, tri_2, tri_3, cmpI_leq, cmpI_geq, cmpI_lss, cmpI_gtr, cmpI_eql, cmpI_neq, decide_eq_true_eq, decide_eq_false_iff_not, beq_iff_eq, beq_eq_false_iff_ne, bne_iff_ne, bne_eq_false_iff_eq] at *; omega))
                  · -- True
                    exfalso; (simp (disch := omega) only [IE.ev, rP_0, rP_1, rP_2, rP_3, rP_9, rP_10, cmpI_leq, cmpI_lss, cmpI_gtr, cmpI_eql, decide_eq_true_eq, decide_eq_false_iff_not, beq_iff_eq] at *; omega)
                · -- True
                  exfalso; (simp (disch := omega) only [IE.ev, rP_0, rP_1, rP_2, rP_3, rP_9, rP_10, cmpI_leq, cmpI_lss, cmpI_eql, decide_eq_true_eq, decide_eq_false_iff_not, beq_iff_eq] at *; omega)
              · -- True
                exfalso; (simp (disch := omega) only [IE.ev, rP_0, rP_1, rP_2, rP_3, rP_9, rP_10, cmpI_leq, cmpI_lss, cmpI_eql, decide_eq_true_eq, beq_iff_eq] at *; omega)
end
end Go.Proofs.YtgecchiocfkpkaaGreatDoor
