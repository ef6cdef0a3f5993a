import Derived.Test.YtiomdkghnbbmcaaGreatDoorFP
namespace Go.Proofs.YtiomdkghnbbmcaaGreatDoor
noncomputable section
open Go Go.RX
open Go.RowKit (Below)
set_option maxRecDepth 1000000
set_option maxHeartbeats 4000000
def L_bool1 : List CF := [⟨.leq, (.var 0), (.lit 1), false⟩,
  ⟨.eql, (.sh .shr .u64 (.var 0) (.lit 1)), (.lit 0), false⟩]
theorem ok_bool1 (b : Int) (hb0 : 0 ≤ b) (hb1 : b < 18446744073709551616) (h0 : 1 < b) : ∀ f ∈ L_bool1, f.ok (rho b 0 0 0 0 0) := by
  intro f hf
  simp only [L_bool1, List.mem_cons, List.not_mem_nil, or_false] at hf
  rcases hf with rfl | rfl
  · exact ⟨rfl, cmp_leq_f (by simp (disch := omega) only [IE.ev, rho_0] <;> omega)⟩
  · exact ⟨rfl, cmp_eql_f (by simp (disch := omega) only [IE.ev, rho_0, shr_u64_1] <;> omega)⟩
def J_bool1 : List SEntry := [(5, [.agg [.v (.int .i64 0), .sym (.int .u64 (.var 0))]], .v (.int .i64 1)),
  (6, [.agg [.v (.int .i64 0), .sym (.int .u64 (.var 0))]], .v (.tuple #[.float .f32 0, .int .i64 1])),
  (7, [.agg [.v (.int .i64 0), .sym (.int .u64 (.var 0))]], .v (.tuple #[.complex .f32 0 0, .int .i64 1]))]
theorem run_bool1 (W : Nat → Nat) (C : Nat → Nat × Nat) (ρ : Nat → Int) (aR aS : Addr) : J_bool1.map (fun e => (@call (E W C ρ L_bool1 T_b) Tryz.prog (glob aR aS) (tabS noU) 300 60 (.fn e.1) e.2.1 []).map fun r => nrm r.1) = J_bool1.map fun e => some e.2.2 := by kernel_rfl
theorem v_bool1 (aR aS : Addr) (b : Int) (hb0 : 0 ≤ b) (hb1 : b < 18446744073709551616) (h0 : 1 < b) : VF aR aS 0 b 1 (.float .f32 0) 1 (.complex .f32 0 0) 1 := fun _ hG =>
  ⟨calls_symF (W := (W2 0 0)) (C := (C1 0 0)) (ρ := rho b 0 0 0 0 0) (ok_bool1 b hb0 hb1 h0) (xf_b _ _ _) (noU_ok aR aS) (run_bool1 _ _ _ aR aS) List.mem_cons_self rfl rfl rfl rfl hG,
  calls_symF (W := (W2 0 0)) (C := (C1 0 0)) (ρ := rho b 0 0 0 0 0) (ok_bool1 b hb0 hb1 h0) (xf_b _ _ _) (noU_ok aR aS) (run_bool1 _ _ _ aR aS) (List.mem_cons_of_mem _ List.mem_cons_self) rfl rfl rfl rfl hG,
  calls_symF (W := (W2 0 0)) (C := (C1 0 0)) (ρ := rho b 0 0 0 0 0) (ok_bool1 b hb0 hb1 h0) (xf_b _ _ _) (noU_ok aR aS) (run_bool1 _ _ _ aR aS) (List.mem_cons_of_mem _ (List.mem_cons_of_mem _ List.mem_cons_self)) rfl rfl rfl rfl hG⟩
def L_u16bad : List CF := [⟨.leq, (.var 0), (.lit 65535), false⟩,
  ⟨.eql, (.sh .shr .u64 (.var 0) (.lit 16)), (.lit 0), false⟩]
theorem ok_u16bad (b : Int) (hb0 : 0 ≤ b) (hb1 : b < 18446744073709551616) (h0 : 65535 < b) : ∀ f ∈ L_u16bad, f.ok (rho b 0 2 0 0 0) := by
  intro f hf
  simp only [L_u16bad, List.mem_cons, List.not_mem_nil, or_false] at hf
  rcases hf with rfl | rfl
  · exact ⟨rfl, cmp_leq_f (by simp (disch := omega) only [IE.ev, rho_0] <;> omega)⟩
  · exact ⟨rfl, cmp_eql_f (by simp (disch := omega) only [IE.ev, rho_0, shr_u64_16] <;> omega)⟩
def J_u16bad : List SEntry := [(5, [.agg [.v (.int .i64 2), .sym (.int .u64 (.var 0))]], .v (.int .i64 1)),
  (6, [.agg [.v (.int .i64 2), .sym (.int .u64 (.var 0))]], .v (.tuple #[.float .f32 0, .int .i64 1])),
  (7, [.agg [.v (.int .i64 2), .sym (.int .u64 (.var 0))]], .v (.tuple #[.complex .f32 0 0, .int .i64 1]))]
theorem run_u16bad (W : Nat → Nat) (C : Nat → Nat × Nat) (ρ : Nat → Int) (aR aS : Addr) : J_u16bad.map (fun e => (@call (E W C ρ L_u16bad T_b) Tryz.prog (glob aR aS) (tabS noU) 300 60 (.fn e.1) e.2.1 []).map fun r => nrm r.1) = J_u16bad.map fun e => some e.2.2 := by kernel_rfl
theorem v_u16bad (aR aS : Addr) (b : Int) (hb0 : 0 ≤ b) (hb1 : b < 18446744073709551616) (h0 : 65535 < b) : VF aR aS 2 b 1 (.float .f32 0) 1 (.complex .f32 0 0) 1 := fun _ hG =>
  ⟨calls_symF (W := (W2 0 0)) (C := (C1 0 0)) (ρ := rho b 0 2 0 0 0) (ok_u16bad b hb0 hb1 h0) (xf_b _ _ _) (noU_ok aR aS) (run_u16bad _ _ _ aR aS) List.mem_cons_self rfl rfl rfl rfl hG,
  calls_symF (W := (W2 0 0)) (C := (C1 0 0)) (ρ := rho b 0 2 0 0 0) (ok_u16bad b hb0 hb1 h0) (xf_b _ _ _) (noU_ok aR aS) (run_u16bad _ _ _ aR aS) (List.mem_cons_of_mem _ List.mem_cons_self) rfl rfl rfl rfl hG,
  calls_symF (W := (W2 0 0)) (C := (C1 0 0)) (ρ := rho b 0 2 0 0 0) (ok_u16bad b hb0 hb1 h0) (xf_b _ _ _) (noU_ok aR aS) (run_u16bad _ _ _ aR aS) (List.mem_cons_of_mem _ (List.mem_cons_of_mem _ List.mem_cons_self)) rfl rfl rfl rfl hG⟩
def L_i8ok : List CF := [⟨.leq, (.var 0), (.lit 255), true⟩,
  ⟨.eql, (.sh .shr .u64 (.var 0) (.lit 8)), (.lit 0), true⟩]
theorem ok_i8ok (b : Int) (hb0 : 0 ≤ b) (hb1 : b < 18446744073709551616) (h0 : b ≤ 255) : ∀ f ∈ L_i8ok, f.ok (rho b 0 5 0 0 0) := by
  intro f hf
  simp only [L_i8ok, List.mem_cons, List.not_mem_nil, or_false] at hf
  rcases hf with rfl | rfl
  · exact ⟨rfl, cmp_leq_t (by simp (disch := omega) only [IE.ev, rho_0] <;> omega)⟩
  · exact ⟨rfl, cmp_eql_t (by simp (disch := omega) only [IE.ev, rho_0, shr_u64_8] <;> omega)⟩
def J_i8ok : List SEntry := [(5, [.agg [.v (.int .i64 5), .sym (.int .u64 (.var 0))]], .v (.int .i64 0)),
  (6, [.agg [.v (.int .i64 5), .sym (.int .u64 (.var 0))]], .v (.tuple #[.float .f32 0, .int .i64 12])),
  (7, [.agg [.v (.int .i64 5), .sym (.int .u64 (.var 0))]], .v (.tuple #[.complex .f32 0 0, .int .i64 12]))]
theorem run_i8ok (W : Nat → Nat) (C : Nat → Nat × Nat) (ρ : Nat → Int) (aR aS : Addr) : J_i8ok.map (fun e => (@call (E W C ρ L_i8ok T_o) Tryz.prog (glob aR aS) (tabS noU) 300 60 (.fn e.1) e.2.1 []).map fun r => nrm r.1) = J_i8ok.map fun e => some e.2.2 := by kernel_rfl
theorem v_i8ok (aR aS : Addr) (b : Int) (hb0 : 0 ≤ b) (hb1 : b < 18446744073709551616) (h0 : b ≤ 255) : VF aR aS 5 b 0 (.float .f32 0) 12 (.complex .f32 0 0) 12 := fun _ hG =>
  ⟨calls_symF (W := (W2 0 0)) (C := (C1 0 0)) (ρ := rho b 0 5 0 0 0) (ok_i8ok b hb0 hb1 h0) (xf_o _ _ _) (noU_ok aR aS) (run_i8ok _ _ _ aR aS) List.mem_cons_self rfl rfl rfl rfl hG,
  calls_symF (W := (W2 0 0)) (C := (C1 0 0)) (ρ := rho b 0 5 0 0 0) (ok_i8ok b hb0 hb1 h0) (xf_o _ _ _) (noU_ok aR aS) (run_i8ok _ _ _ aR aS) (List.mem_cons_of_mem _ List.mem_cons_self) rfl rfl rfl rfl hG,
  calls_symF (W := (W2 0 0)) (C := (C1 0 0)) (ρ := rho b 0 5 0 0 0) (ok_i8ok b hb0 hb1 h0) (xf_o _ _ _) (noU_ok aR aS) (run_i8ok _ _ _ aR aS) (List.mem_cons_of_mem _ (List.mem_cons_of_mem _ List.mem_cons_self)) rfl rfl rfl rfl hG⟩
def L_i32ok : List CF := [⟨.leq, (.var 0), (.lit 4294967295), true⟩,
  ⟨.eql, (.sh .shr .u64 (.var 0) (.lit 32)), (.lit 0), true⟩]
theorem ok_i32ok (b : Int) (hb0 : 0 ≤ b) (hb1 : b < 18446744073709551616) (h0 : b ≤ 4294967295) : ∀ f ∈ L_i32ok, f.ok (rho b 0 7 0 0 0) := by
  intro f hf
  simp only [L_i32ok, List.mem_cons, List.not_mem_nil, or_false] at hf
  rcases hf with rfl | rfl
  · exact ⟨rfl, cmp_leq_t (by simp (disch := omega) only [IE.ev, rho_0] <;> omega)⟩
  · exact ⟨rfl, cmp_eql_t (by simp (disch := omega) only [IE.ev, rho_0, shr_u64_32] <;> omega)⟩
def J_i32ok : List SEntry := [(5, [.agg [.v (.int .i64 7), .sym (.int .u64 (.var 0))]], .v (.int .i64 0)),
  (6, [.agg [.v (.int .i64 7), .sym (.int .u64 (.var 0))]], .v (.tuple #[.float .f32 0, .int .i64 12])),
  (7, [.agg [.v (.int .i64 7), .sym (.int .u64 (.var 0))]], .v (.tuple #[.complex .f32 0 0, .int .i64 12]))]
theorem run_i32ok (W : Nat → Nat) (C : Nat → Nat × Nat) (ρ : Nat → Int) (aR aS : Addr) : J_i32ok.map (fun e => (@call (E W C ρ L_i32ok T_o) Tryz.prog (glob aR aS) (tabS noU) 300 60 (.fn e.1) e.2.1 []).map fun r => nrm r.1) = J_i32ok.map fun e => some e.2.2 := by kernel_rfl
theorem v_i32ok (aR aS : Addr) (b : Int) (hb0 : 0 ≤ b) (hb1 : b < 18446744073709551616) (h0 : b ≤ 4294967295) : VF aR aS 7 b 0 (.float .f32 0) 12 (.complex .f32 0 0) 12 := fun _ hG =>
  ⟨calls_symF (W := (W2 0 0)) (C := (C1 0 0)) (ρ := rho b 0 7 0 0 0) (ok_i32ok b hb0 hb1 h0) (xf_o _ _ _) (noU_ok aR aS) (run_i32ok _ _ _ aR aS) List.mem_cons_self rfl rfl rfl rfl hG,
  calls_symF (W := (W2 0 0)) (C := (C1 0 0)) (ρ := rho b 0 7 0 0 0) (ok_i32ok b hb0 hb1 h0) (xf_o _ _ _) (noU_ok aR aS) (run_i32ok _ _ _ aR aS) (List.mem_cons_of_mem _ List.mem_cons_self) rfl rfl rfl rfl hG,
  calls_symF (W := (W2 0 0)) (C := (C1 0 0)) (ρ := rho b 0 7 0 0 0) (ok_i32ok b hb0 hb1 h0) (xf_o _ _ _) (noU_ok aR aS) (run_i32ok _ _ _ aR aS) (List.mem_cons_of_mem _ (List.mem_cons_of_mem _ List.mem_cons_self)) rfl rfl rfl rfl hG⟩
def L_f32exp : List CF := [⟨.leq, (.var 0), (.lit 4294967295), true⟩,
  ⟨.neq, (.bin .rem .u64 (.bin .quo .u64 (.var 0) (.lit 8388608)) (.lit 256)), (.lit 255), false⟩,
  ⟨.eql, (.sh .shr .u64 (.var 0) (.lit 32)), (.lit 0), true⟩,
  ⟨.neq, (.bin .and .u32 (.cv .u32 (.var 0)) (.lit 2139095040)), (.lit 2139095040), false⟩]
theorem ok_f32exp (b : Int) (hb0 : 0 ≤ b) (hb1 : b < 18446744073709551616) (h0 : b < 4294967296) (h1 : b / 8388608 % 256 = 255) : ∀ f ∈ L_f32exp, f.ok (rho b 0 9 0 0 0) := by
  intro f hf
  simp only [L_f32exp, List.mem_cons, List.not_mem_nil, or_false] at hf
  rcases hf with rfl | rfl | rfl | rfl
  · exact ⟨rfl, cmp_leq_t (by simp (disch := omega) only [IE.ev, rho_0] <;> omega)⟩
  · exact ⟨rfl, cmp_neq_f (by simp (disch := omega) only [IE.ev, rho_0, quo_u64, rem_u64] <;> omega)⟩
  · exact ⟨rfl, cmp_eql_t (by simp (disch := omega) only [IE.ev, rho_0, shr_u64_32] <;> omega)⟩
  · exact ⟨rfl, cmp_neq_f (by simp (disch := omega) only [IE.ev, rho_0, and_u32_exp, wrap_u32] <;> omega)⟩
def J_f32exp : List SEntry := [(5, [.agg [.v (.int .i64 9), .sym (.int .u64 (.var 0))]], .v (.int .i64 1)),
  (6, [.agg [.v (.int .i64 9), .sym (.int .u64 (.var 0))]], .v (.tuple #[.float .f32 0, .int .i64 1])),
  (7, [.agg [.v (.int .i64 9), .sym (.int .u64 (.var 0))]], .v (.tuple #[.complex .f32 0 0, .int .i64 1]))]
theorem run_f32exp (W : Nat → Nat) (C : Nat → Nat × Nat) (ρ : Nat → Int) (aR aS : Addr) : J_f32exp.map (fun e => (@call (E W C ρ L_f32exp T_b) Tryz.prog (glob aR aS) (tabS noU) 300 60 (.fn e.1) e.2.1 []).map fun r => nrm r.1) = J_f32exp.map fun e => some e.2.2 := by kernel_rfl
theorem v_f32exp (aR aS : Addr) (b : Int) (hb0 : 0 ≤ b) (hb1 : b < 18446744073709551616) (h0 : b < 4294967296) (h1 : b / 8388608 % 256 = 255) : VF aR aS 9 b 1 (.float .f32 0) 1 (.complex .f32 0 0) 1 := fun _ hG =>
  ⟨calls_symF (W := (W2 0 0)) (C := (C1 0 0)) (ρ := rho b 0 9 0 0 0) (ok_f32exp b hb0 hb1 h0 h1) (xf_b _ _ _) (noU_ok aR aS) (run_f32exp _ _ _ aR aS) List.mem_cons_self rfl rfl rfl rfl hG,
  calls_symF (W := (W2 0 0)) (C := (C1 0 0)) (ρ := rho b 0 9 0 0 0) (ok_f32exp b hb0 hb1 h0 h1) (xf_b _ _ _) (noU_ok aR aS) (run_f32exp _ _ _ aR aS) (List.mem_cons_of_mem _ List.mem_cons_self) rfl rfl rfl rfl hG,
  calls_symF (W := (W2 0 0)) (C := (C1 0 0)) (ρ := rho b 0 9 0 0 0) (ok_f32exp b hb0 hb1 h0 h1) (xf_b _ _ _) (noU_ok aR aS) (run_f32exp _ _ _ aR aS) (List.mem_cons_of_mem _ (List.mem_cons_of_mem _ List.mem_cons_self)) rfl rfl rfl rfl hG⟩
def L_c64lozero : List CF := [⟨.leq, (.var 0), (.lit 18446744073709551615), true⟩,
  ⟨.neq, (.bin .rem .u64 (.bin .quo .u64 (.bin .rem .u64 (.var 0) (.lit 4294967296)) (.lit 8388608)) (.lit 256)), (.lit 255), true⟩,
  ⟨.neq, (.bin .rem .u64 (.var 0) (.lit 4294967296)), (.lit 2147483648), false⟩,
  ⟨.eql, (.sh .shr .u64 (.var 0) (.lit 64)), (.lit 0), true⟩,
  ⟨.neq, (.bin .and .u32 (.cv .u32 (.var 0)) (.lit 2139095040)), (.lit 2139095040), true⟩,
  ⟨.neq, (.cv .u32 (.var 0)), (.lit 2147483648), false⟩]
theorem ok_c64lozero (b : Int) (hb0 : 0 ≤ b) (hb1 : b < 18446744073709551616) (h0 : (b % 4294967296) = 2147483648) : ∀ f ∈ L_c64lozero, f.ok (rho b 0 10 0 0 0) := by
  intro f hf
  simp only [L_c64lozero, List.mem_cons, List.not_mem_nil, or_false] at hf
  rcases hf with rfl | rfl | rfl | rfl | rfl | rfl
  · exact ⟨rfl, cmp_leq_t (by simp (disch := omega) only [IE.ev, rho_0] <;> omega)⟩
  · exact ⟨rfl, cmp_neq_t (by simp (disch := omega) only [IE.ev, rho_0, quo_u64, rem_u64] <;> omega)⟩
  · exact ⟨rfl, cmp_neq_f (by simp (disch := omega) only [IE.ev, rho_0, rem_u64] <;> omega)⟩
  · exact ⟨rfl, cmp_eql_t (by simp (disch := omega) only [IE.ev, rho_0, shr_u64_64] <;> omega)⟩
  · exact ⟨rfl, cmp_neq_t (by simp (disch := omega) only [IE.ev, rho_0, and_u32_exp, wrap_u32] <;> omega)⟩
  · exact ⟨rfl, cmp_neq_f (by simp (disch := omega) only [IE.ev, rho_0, wrap_u32] <;> omega)⟩
def J_c64lozero : List SEntry := [(5, [.agg [.v (.int .i64 10), .sym (.int .u64 (.var 0))]], .v (.int .i64 1)),
  (6, [.agg [.v (.int .i64 10), .sym (.int .u64 (.var 0))]], .v (.tuple #[.float .f32 0, .int .i64 1])),
  (7, [.agg [.v (.int .i64 10), .sym (.int .u64 (.var 0))]], .v (.tuple #[.complex .f32 0 0, .int .i64 1]))]
theorem run_c64lozero (W : Nat → Nat) (C : Nat → Nat × Nat) (ρ : Nat → Int) (aR aS : Addr) : J_c64lozero.map (fun e => (@call (E W C ρ L_c64lozero T_b) Tryz.prog (glob aR aS) (tabS noU) 300 60 (.fn e.1) e.2.1 []).map fun r => nrm r.1) = J_c64lozero.map fun e => some e.2.2 := by kernel_rfl
theorem v_c64lozero (aR aS : Addr) (b : Int) (hb0 : 0 ≤ b) (hb1 : b < 18446744073709551616) (h0 : (b % 4294967296) = 2147483648) : VF aR aS 10 b 1 (.float .f32 0) 1 (.complex .f32 0 0) 1 := fun _ hG =>
  ⟨calls_symF (W := (W2 0 0)) (C := (C1 0 0)) (ρ := rho b 0 10 0 0 0) (ok_c64lozero b hb0 hb1 h0) (xf_b _ _ _) (noU_ok aR aS) (run_c64lozero _ _ _ aR aS) List.mem_cons_self rfl rfl rfl rfl hG,
  calls_symF (W := (W2 0 0)) (C := (C1 0 0)) (ρ := rho b 0 10 0 0 0) (ok_c64lozero b hb0 hb1 h0) (xf_b _ _ _) (noU_ok aR aS) (run_c64lozero _ _ _ aR aS) (List.mem_cons_of_mem _ List.mem_cons_self) rfl rfl rfl rfl hG,
  calls_symF (W := (W2 0 0)) (C := (C1 0 0)) (ρ := rho b 0 10 0 0 0) (ok_c64lozero b hb0 hb1 h0) (xf_b _ _ _) (noU_ok aR aS) (run_c64lozero _ _ _ aR aS) (List.mem_cons_of_mem _ (List.mem_cons_of_mem _ List.mem_cons_self)) rfl rfl rfl rfl hG⟩
end
end Go.Proofs.YtiomdkghnbbmcaaGreatDoor
