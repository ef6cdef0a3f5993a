import Derived.Test.YtiomdkghnbbmcaaGreatDoorFP
namespace Go.Proofs.YtiomdkghnbbmcaaGreatDoor
noncomputable section
open Go Go.RX
open Go.RowKit (Below)
set_option maxRecDepth 1000000
set_option maxHeartbeats 4000000
def L_u8ok : List CF := [⟨.leq, (.var 0), (.lit 255), true⟩,
  ⟨.eql, (.sh .shr .u64 (.var 0) (.lit 8)), (.lit 0), true⟩]
theorem ok_u8ok (b : Int) (hb0 : 0 ≤ b) (hb1 : b < 18446744073709551616) (h0 : b ≤ 255) : ∀ f ∈ L_u8ok, f.ok (rho b 0 1 0 0 0) := by
  intro f hf
  simp only [L_u8ok, List.mem_cons, List.not_mem_nil, or_false] at hf
  rcases hf with rfl | rfl
  · exact ⟨rfl, cmp_leq_t (by simp (disch := omega) only [IE.ev, rho_0] <;> omega)⟩
  · exact ⟨rfl, cmp_eql_t (by simp (disch := omega) only [IE.ev, rho_0, shr_u64_8] <;> omega)⟩
def J_u8ok : List SEntry := [(5, [.agg [.v (.int .i64 1), .sym (.int .u64 (.var 0))]], .v (.int .i64 0)),
  (6, [.agg [.v (.int .i64 1), .sym (.int .u64 (.var 0))]], .v (.tuple #[.float .f32 0, .int .i64 12])),
  (7, [.agg [.v (.int .i64 1), .sym (.int .u64 (.var 0))]], .v (.tuple #[.complex .f32 0 0, .int .i64 12]))]
theorem run_u8ok (W : Nat → Nat) (C : Nat → Nat × Nat) (ρ : Nat → Int) (aR aS : Addr) : J_u8ok.map (fun e => (@call (E W C ρ L_u8ok T_o) Tryz.prog (glob aR aS) (tabS noU) 300 60 (.fn e.1) e.2.1 []).map fun r => nrm r.1) = J_u8ok.map fun e => some e.2.2 := by kernel_rfl
theorem v_u8ok (aR aS : Addr) (b : Int) (hb0 : 0 ≤ b) (hb1 : b < 18446744073709551616) (h0 : b ≤ 255) : VF aR aS 1 b 0 (.float .f32 0) 12 (.complex .f32 0 0) 12 := fun _ hG =>
  ⟨calls_symF (W := (W2 0 0)) (C := (C1 0 0)) (ρ := rho b 0 1 0 0 0) (ok_u8ok b hb0 hb1 h0) (xf_o _ _ _) (noU_ok aR aS) (run_u8ok _ _ _ aR aS) List.mem_cons_self rfl rfl rfl rfl hG,
  calls_symF (W := (W2 0 0)) (C := (C1 0 0)) (ρ := rho b 0 1 0 0 0) (ok_u8ok b hb0 hb1 h0) (xf_o _ _ _) (noU_ok aR aS) (run_u8ok _ _ _ aR aS) (List.mem_cons_of_mem _ List.mem_cons_self) rfl rfl rfl rfl hG,
  calls_symF (W := (W2 0 0)) (C := (C1 0 0)) (ρ := rho b 0 1 0 0 0) (ok_u8ok b hb0 hb1 h0) (xf_o _ _ _) (noU_ok aR aS) (run_u8ok _ _ _ aR aS) (List.mem_cons_of_mem _ (List.mem_cons_of_mem _ List.mem_cons_self)) rfl rfl rfl rfl hG⟩
def L_u32ok : List CF := [⟨.leq, (.var 0), (.lit 4294967295), true⟩,
  ⟨.eql, (.sh .shr .u64 (.var 0) (.lit 32)), (.lit 0), true⟩]
theorem ok_u32ok (b : Int) (hb0 : 0 ≤ b) (hb1 : b < 18446744073709551616) (h0 : b ≤ 4294967295) : ∀ f ∈ L_u32ok, f.ok (rho b 0 3 0 0 0) := by
  intro f hf
  simp only [L_u32ok, List.mem_cons, List.not_mem_nil, or_false] at hf
  rcases hf with rfl | rfl
  · exact ⟨rfl, cmp_leq_t (by simp (disch := omega) only [IE.ev, rho_0] <;> omega)⟩
  · exact ⟨rfl, cmp_eql_t (by simp (disch := omega) only [IE.ev, rho_0, shr_u64_32] <;> omega)⟩
def J_u32ok : List SEntry := [(5, [.agg [.v (.int .i64 3), .sym (.int .u64 (.var 0))]], .v (.int .i64 0)),
  (6, [.agg [.v (.int .i64 3), .sym (.int .u64 (.var 0))]], .v (.tuple #[.float .f32 0, .int .i64 12])),
  (7, [.agg [.v (.int .i64 3), .sym (.int .u64 (.var 0))]], .v (.tuple #[.complex .f32 0 0, .int .i64 12]))]
theorem run_u32ok (W : Nat → Nat) (C : Nat → Nat × Nat) (ρ : Nat → Int) (aR aS : Addr) : J_u32ok.map (fun e => (@call (E W C ρ L_u32ok T_o) Tryz.prog (glob aR aS) (tabS noU) 300 60 (.fn e.1) e.2.1 []).map fun r => nrm r.1) = J_u32ok.map fun e => some e.2.2 := by kernel_rfl
theorem v_u32ok (aR aS : Addr) (b : Int) (hb0 : 0 ≤ b) (hb1 : b < 18446744073709551616) (h0 : b ≤ 4294967295) : VF aR aS 3 b 0 (.float .f32 0) 12 (.complex .f32 0 0) 12 := fun _ hG =>
  ⟨calls_symF (W := (W2 0 0)) (C := (C1 0 0)) (ρ := rho b 0 3 0 0 0) (ok_u32ok b hb0 hb1 h0) (xf_o _ _ _) (noU_ok aR aS) (run_u32ok _ _ _ aR aS) List.mem_cons_self rfl rfl rfl rfl hG,
  calls_symF (W := (W2 0 0)) (C := (C1 0 0)) (ρ := rho b 0 3 0 0 0) (ok_u32ok b hb0 hb1 h0) (xf_o _ _ _) (noU_ok aR aS) (run_u32ok _ _ _ aR aS) (List.mem_cons_of_mem _ List.mem_cons_self) rfl rfl rfl rfl hG,
  calls_symF (W := (W2 0 0)) (C := (C1 0 0)) (ρ := rho b 0 3 0 0 0) (ok_u32ok b hb0 hb1 h0) (xf_o _ _ _) (noU_ok aR aS) (run_u32ok _ _ _ aR aS) (List.mem_cons_of_mem _ (List.mem_cons_of_mem _ List.mem_cons_self)) rfl rfl rfl rfl hG⟩
def L_i8bad : List CF := [⟨.leq, (.var 0), (.lit 255), false⟩,
  ⟨.eql, (.sh .shr .u64 (.var 0) (.lit 8)), (.lit 0), false⟩]
theorem ok_i8bad (b : Int) (hb0 : 0 ≤ b) (hb1 : b < 18446744073709551616) (h0 : 255 < b) : ∀ f ∈ L_i8bad, f.ok (rho b 0 5 0 0 0) := by
  intro f hf
  simp only [L_i8bad, List.mem_cons, List.not_mem_nil, or_false] at hf
  rcases hf with rfl | rfl
  · exact ⟨rfl, cmp_leq_f (by simp (disch := omega) only [IE.ev, rho_0] <;> omega)⟩
  · exact ⟨rfl, cmp_eql_f (by simp (disch := omega) only [IE.ev, rho_0, shr_u64_8] <;> omega)⟩
def J_i8bad : List SEntry := [(5, [.agg [.v (.int .i64 5), .sym (.int .u64 (.var 0))]], .v (.int .i64 1)),
  (6, [.agg [.v (.int .i64 5), .sym (.int .u64 (.var 0))]], .v (.tuple #[.float .f32 0, .int .i64 1])),
  (7, [.agg [.v (.int .i64 5), .sym (.int .u64 (.var 0))]], .v (.tuple #[.complex .f32 0 0, .int .i64 1]))]
theorem run_i8bad (W : Nat → Nat) (C : Nat → Nat × Nat) (ρ : Nat → Int) (aR aS : Addr) : J_i8bad.map (fun e => (@call (E W C ρ L_i8bad T_b) Tryz.prog (glob aR aS) (tabS noU) 300 60 (.fn e.1) e.2.1 []).map fun r => nrm r.1) = J_i8bad.map fun e => some e.2.2 := by kernel_rfl
theorem v_i8bad (aR aS : Addr) (b : Int) (hb0 : 0 ≤ b) (hb1 : b < 18446744073709551616) (h0 : 255 < b) : VF aR aS 5 b 1 (.float .f32 0) 1 (.complex .f32 0 0) 1 := fun _ hG =>
  ⟨calls_symF (W := (W2 0 0)) (C := (C1 0 0)) (ρ := rho b 0 5 0 0 0) (ok_i8bad b hb0 hb1 h0) (xf_b _ _ _) (noU_ok aR aS) (run_i8bad _ _ _ aR aS) List.mem_cons_self rfl rfl rfl rfl hG,
  calls_symF (W := (W2 0 0)) (C := (C1 0 0)) (ρ := rho b 0 5 0 0 0) (ok_i8bad b hb0 hb1 h0) (xf_b _ _ _) (noU_ok aR aS) (run_i8bad _ _ _ aR aS) (List.mem_cons_of_mem _ List.mem_cons_self) rfl rfl rfl rfl hG,
  calls_symF (W := (W2 0 0)) (C := (C1 0 0)) (ρ := rho b 0 5 0 0 0) (ok_i8bad b hb0 hb1 h0) (xf_b _ _ _) (noU_ok aR aS) (run_i8bad _ _ _ aR aS) (List.mem_cons_of_mem _ (List.mem_cons_of_mem _ List.mem_cons_self)) rfl rfl rfl rfl hG⟩
def L_i32bad : List CF := [⟨.leq, (.var 0), (.lit 4294967295), false⟩,
  ⟨.eql, (.sh .shr .u64 (.var 0) (.lit 32)), (.lit 0), false⟩]
theorem ok_i32bad (b : Int) (hb0 : 0 ≤ b) (hb1 : b < 18446744073709551616) (h0 : 4294967295 < b) : ∀ f ∈ L_i32bad, f.ok (rho b 0 7 0 0 0) := by
  intro f hf
  simp only [L_i32bad, List.mem_cons, List.not_mem_nil, or_false] at hf
  rcases hf with rfl | rfl
  · exact ⟨rfl, cmp_leq_f (by simp (disch := omega) only [IE.ev, rho_0] <;> omega)⟩
  · exact ⟨rfl, cmp_eql_f (by simp (disch := omega) only [IE.ev, rho_0, shr_u64_32] <;> omega)⟩
def J_i32bad : List SEntry := [(5, [.agg [.v (.int .i64 7), .sym (.int .u64 (.var 0))]], .v (.int .i64 1)),
  (6, [.agg [.v (.int .i64 7), .sym (.int .u64 (.var 0))]], .v (.tuple #[.float .f32 0, .int .i64 1])),
  (7, [.agg [.v (.int .i64 7), .sym (.int .u64 (.var 0))]], .v (.tuple #[.complex .f32 0 0, .int .i64 1]))]
theorem run_i32bad (W : Nat → Nat) (C : Nat → Nat × Nat) (ρ : Nat → Int) (aR aS : Addr) : J_i32bad.map (fun e => (@call (E W C ρ L_i32bad T_b) Tryz.prog (glob aR aS) (tabS noU) 300 60 (.fn e.1) e.2.1 []).map fun r => nrm r.1) = J_i32bad.map fun e => some e.2.2 := by kernel_rfl
theorem v_i32bad (aR aS : Addr) (b : Int) (hb0 : 0 ≤ b) (hb1 : b < 18446744073709551616) (h0 : 4294967295 < b) : VF aR aS 7 b 1 (.float .f32 0) 1 (.complex .f32 0 0) 1 := fun _ hG =>
  ⟨calls_symF (W := (W2 0 0)) (C := (C1 0 0)) (ρ := rho b 0 7 0 0 0) (ok_i32bad b hb0 hb1 h0) (xf_b _ _ _) (noU_ok aR aS) (run_i32bad _ _ _ aR aS) List.mem_cons_self rfl rfl rfl rfl hG,
  calls_symF (W := (W2 0 0)) (C := (C1 0 0)) (ρ := rho b 0 7 0 0 0) (ok_i32bad b hb0 hb1 h0) (xf_b _ _ _) (noU_ok aR aS) (run_i32bad _ _ _ aR aS) (List.mem_cons_of_mem _ List.mem_cons_self) rfl rfl rfl rfl hG,
  calls_symF (W := (W2 0 0)) (C := (C1 0 0)) (ρ := rho b 0 7 0 0 0) (ok_i32bad b hb0 hb1 h0) (xf_b _ _ _) (noU_ok aR aS) (run_i32bad _ _ _ aR aS) (List.mem_cons_of_mem _ (List.mem_cons_of_mem _ List.mem_cons_self)) rfl rfl rfl rfl hG⟩
def L_f32zero : List CF := [⟨.leq, (.var 0), (.lit 4294967295), true⟩,
  ⟨.neq, (.bin .rem .u64 (.bin .quo .u64 (.var 0) (.lit 8388608)) (.lit 256)), (.lit 255), true⟩,
  ⟨.neq, (.var 0), (.lit 2147483648), false⟩,
  ⟨.eql, (.sh .shr .u64 (.var 0) (.lit 32)), (.lit 0), true⟩,
  ⟨.neq, (.bin .and .u32 (.cv .u32 (.var 0)) (.lit 2139095040)), (.lit 2139095040), true⟩,
  ⟨.neq, (.cv .u32 (.var 0)), (.lit 2147483648), false⟩]
theorem ok_f32zero (b : Int) (hb0 : 0 ≤ b) (hb1 : b < 18446744073709551616) (h0 : b = 2147483648) : ∀ f ∈ L_f32zero, f.ok (rho b 0 9 0 0 0) := by
  intro f hf
  simp only [L_f32zero, List.mem_cons, List.not_mem_nil, or_false] at hf
  rcases hf with rfl | rfl | rfl | rfl | rfl | rfl
  · exact ⟨rfl, cmp_leq_t (by simp (disch := omega) only [IE.ev, rho_0] <;> omega)⟩
  · exact ⟨rfl, cmp_neq_t (by simp (disch := omega) only [IE.ev, rho_0, quo_u64, rem_u64] <;> omega)⟩
  · exact ⟨rfl, cmp_neq_f (by simp (disch := omega) only [IE.ev, rho_0] <;> omega)⟩
  · exact ⟨rfl, cmp_eql_t (by simp (disch := omega) only [IE.ev, rho_0, shr_u64_32] <;> omega)⟩
  · exact ⟨rfl, cmp_neq_t (by simp (disch := omega) only [IE.ev, rho_0, and_u32_exp, wrap_u32] <;> omega)⟩
  · exact ⟨rfl, cmp_neq_f (by simp (disch := omega) only [IE.ev, rho_0, wrap_u32] <;> omega)⟩
def J_f32zero : List SEntry := [(5, [.agg [.v (.int .i64 9), .sym (.int .u64 (.var 0))]], .v (.int .i64 1)),
  (6, [.agg [.v (.int .i64 9), .sym (.int .u64 (.var 0))]], .v (.tuple #[.float .f32 0, .int .i64 1])),
  (7, [.agg [.v (.int .i64 9), .sym (.int .u64 (.var 0))]], .v (.tuple #[.complex .f32 0 0, .int .i64 1]))]
theorem run_f32zero (W : Nat → Nat) (C : Nat → Nat × Nat) (ρ : Nat → Int) (aR aS : Addr) : J_f32zero.map (fun e => (@call (E W C ρ L_f32zero T_b) Tryz.prog (glob aR aS) (tabS noU) 300 60 (.fn e.1) e.2.1 []).map fun r => nrm r.1) = J_f32zero.map fun e => some e.2.2 := by kernel_rfl
theorem v_f32zero (aR aS : Addr) (b : Int) (hb0 : 0 ≤ b) (hb1 : b < 18446744073709551616) (h0 : b = 2147483648) : VF aR aS 9 b 1 (.float .f32 0) 1 (.complex .f32 0 0) 1 := fun _ hG =>
  ⟨calls_symF (W := (W2 0 0)) (C := (C1 0 0)) (ρ := rho b 0 9 0 0 0) (ok_f32zero b hb0 hb1 h0) (xf_b _ _ _) (noU_ok aR aS) (run_f32zero _ _ _ aR aS) List.mem_cons_self rfl rfl rfl rfl hG,
  calls_symF (W := (W2 0 0)) (C := (C1 0 0)) (ρ := rho b 0 9 0 0 0) (ok_f32zero b hb0 hb1 h0) (xf_b _ _ _) (noU_ok aR aS) (run_f32zero _ _ _ aR aS) (List.mem_cons_of_mem _ List.mem_cons_self) rfl rfl rfl rfl hG,
  calls_symF (W := (W2 0 0)) (C := (C1 0 0)) (ρ := rho b 0 9 0 0 0) (ok_f32zero b hb0 hb1 h0) (xf_b _ _ _) (noU_ok aR aS) (run_f32zero _ _ _ aR aS) (List.mem_cons_of_mem _ (List.mem_cons_of_mem _ List.mem_cons_self)) rfl rfl rfl rfl hG⟩
def L_c64hiexp : List CF := [⟨.leq, (.var 0), (.lit 18446744073709551615), true⟩,
  ⟨.neq, (.bin .rem .u64 (.bin .quo .u64 (.bin .rem .u64 (.var 0) (.lit 4294967296)) (.lit 8388608)) (.lit 256)), (.lit 255), true⟩,
  ⟨.neq, (.bin .rem .u64 (.var 0) (.lit 4294967296)), (.lit 2147483648), true⟩,
  ⟨.neq, (.bin .rem .u64 (.bin .quo .u64 (.bin .quo .u64 (.var 0) (.lit 4294967296)) (.lit 8388608)) (.lit 256)), (.lit 255), false⟩,
  ⟨.eql, (.sh .shr .u64 (.var 0) (.lit 64)), (.lit 0), true⟩,
  ⟨.neq, (.bin .and .u32 (.cv .u32 (.var 0)) (.lit 2139095040)), (.lit 2139095040), true⟩,
  ⟨.neq, (.cv .u32 (.var 0)), (.lit 2147483648), true⟩,
  ⟨.neq, (.bin .and .u32 (.cv .u32 (.sh .shr .u64 (.var 0) (.lit 32))) (.lit 2139095040)), (.lit 2139095040), false⟩]
theorem ok_c64hiexp (b : Int) (hb0 : 0 ≤ b) (hb1 : b < 18446744073709551616) (h0 : (b % 4294967296) / 8388608 % 256 ≠ 255) (h1 : (b % 4294967296) ≠ 2147483648) (h2 : (b / 4294967296) / 8388608 % 256 = 255) : ∀ f ∈ L_c64hiexp, f.ok (rho b 0 10 0 0 0) := by
  intro f hf
  simp only [L_c64hiexp, List.mem_cons, List.not_mem_nil, or_false] at hf
  rcases hf with rfl | rfl | rfl | rfl | rfl | rfl | rfl | rfl
  · exact ⟨rfl, cmp_leq_t (by simp (disch := omega) only [IE.ev, rho_0] <;> omega)⟩
  · exact ⟨rfl, cmp_neq_t (by simp (disch := omega) only [IE.ev, rho_0, quo_u64, rem_u64] <;> omega)⟩
  · exact ⟨rfl, cmp_neq_t (by simp (disch := omega) only [IE.ev, rho_0, rem_u64] <;> omega)⟩
  · exact ⟨rfl, cmp_neq_f (by simp (disch := omega) only [IE.ev, rho_0, quo_u64, rem_u64] <;> omega)⟩
  · exact ⟨rfl, cmp_eql_t (by simp (disch := omega) only [IE.ev, rho_0, shr_u64_64] <;> omega)⟩
  · exact ⟨rfl, cmp_neq_t (by simp (disch := omega) only [IE.ev, rho_0, and_u32_exp, wrap_u32] <;> omega)⟩
  · exact ⟨rfl, cmp_neq_t (by simp (disch := omega) only [IE.ev, rho_0, wrap_u32] <;> omega)⟩
  · exact ⟨rfl, cmp_neq_f (by simp (disch := omega) only [IE.ev, rho_0, and_u32_exp, shr_u64_32, wrap_u32] <;> omega)⟩
def J_c64hiexp : List SEntry := [(5, [.agg [.v (.int .i64 10), .sym (.int .u64 (.var 0))]], .v (.int .i64 1)),
  (6, [.agg [.v (.int .i64 10), .sym (.int .u64 (.var 0))]], .v (.tuple #[.float .f32 0, .int .i64 1])),
  (7, [.agg [.v (.int .i64 10), .sym (.int .u64 (.var 0))]], .v (.tuple #[.complex .f32 0 0, .int .i64 1]))]
theorem run_c64hiexp (W : Nat → Nat) (C : Nat → Nat × Nat) (ρ : Nat → Int) (aR aS : Addr) : J_c64hiexp.map (fun e => (@call (E W C ρ L_c64hiexp T_b) Tryz.prog (glob aR aS) (tabS noU) 300 60 (.fn e.1) e.2.1 []).map fun r => nrm r.1) = J_c64hiexp.map fun e => some e.2.2 := by kernel_rfl
theorem v_c64hiexp (aR aS : Addr) (b : Int) (hb0 : 0 ≤ b) (hb1 : b < 18446744073709551616) (h0 : (b % 4294967296) / 8388608 % 256 ≠ 255) (h1 : (b % 4294967296) ≠ 2147483648) (h2 : (b / 4294967296) / 8388608 % 256 = 255) : VF aR aS 10 b 1 (.float .f32 0) 1 (.complex .f32 0 0) 1 := fun _ hG =>
  ⟨calls_symF (W := (W2 0 0)) (C := (C1 0 0)) (ρ := rho b 0 10 0 0 0) (ok_c64hiexp b hb0 hb1 h0 h1 h2) (xf_b _ _ _) (noU_ok aR aS) (run_c64hiexp _ _ _ aR aS) List.mem_cons_self rfl rfl rfl rfl hG,
  calls_symF (W := (W2 0 0)) (C := (C1 0 0)) (ρ := rho b 0 10 0 0 0) (ok_c64hiexp b hb0 hb1 h0 h1 h2) (xf_b _ _ _) (noU_ok aR aS) (run_c64hiexp _ _ _ aR aS) (List.mem_cons_of_mem _ List.mem_cons_self) rfl rfl rfl rfl hG,
  calls_symF (W := (W2 0 0)) (C := (C1 0 0)) (ρ := rho b 0 10 0 0 0) (ok_c64hiexp b hb0 hb1 h0 h1 h2) (xf_b _ _ _) (noU_ok aR aS) (run_c64hiexp _ _ _ aR aS) (List.mem_cons_of_mem _ (List.mem_cons_of_mem _ List.mem_cons_self)) rfl rfl rfl rfl hG⟩
end
end Go.Proofs.YtiomdkghnbbmcaaGreatDoor
