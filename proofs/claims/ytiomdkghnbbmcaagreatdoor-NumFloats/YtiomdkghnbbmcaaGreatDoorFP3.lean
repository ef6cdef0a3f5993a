import Derived.Test.YtiomdkghnbbmcaaGreatDoorFP
namespace Go.Proofs.YtiomdkghnbbmcaaGreatDoor
noncomputable section
open Go Go.RX
open Go.RowKit (Below)
set_option maxRecDepth 1000000
set_option maxHeartbeats 4000000
def L_u8bad : List CF := [⟨.leq, (.var 0), (.lit 255), false⟩,
  ⟨.eql, (.sh .shr .u64 (.var 0) (.lit 8)), (.lit 0), false⟩]
theorem ok_u8bad (b : Int) (hb0 : 0 ≤ b) (hb1 : b < 18446744073709551616) (h0 : 255 < b) : ∀ f ∈ L_u8bad, f.ok (rho b 0 1 0 0 0) := by
  intro f hf
  simp only [L_u8bad, List.mem_cons, List.not_mem_nil, or_false] at hf
  rcases hf with rfl | rfl
  · exact ⟨rfl, cmp_leq_f (by simp (disch := omega) only [IE.ev, rho_0] <;> omega)⟩
  · exact ⟨rfl, cmp_eql_f (by simp (disch := omega) only [IE.ev, rho_0, shr_u64_8] <;> omega)⟩
def J_u8bad : List SEntry := [(5, [.agg [.v (.int .i64 1), .sym (.int .u64 (.var 0))]], .v (.int .i64 1)),
  (6, [.agg [.v (.int .i64 1), .sym (.int .u64 (.var 0))]], .v (.tuple #[.float .f32 0, .int .i64 1])),
  (7, [.agg [.v (.int .i64 1), .sym (.int .u64 (.var 0))]], .v (.tuple #[.complex .f32 0 0, .int .i64 1]))]
theorem run_u8bad (W : Nat → Nat) (C : Nat → Nat × Nat) (ρ : Nat → Int) (aR aS : Addr) : J_u8bad.map (fun e => (@call (E W C ρ L_u8bad T_b) Tryz.prog (glob aR aS) (tabS noU) 300 60 (.fn e.1) e.2.1 []).map fun r => nrm r.1) = J_u8bad.map fun e => some e.2.2 := by kernel_rfl
theorem v_u8bad (aR aS : Addr) (b : Int) (hb0 : 0 ≤ b) (hb1 : b < 18446744073709551616) (h0 : 255 < b) : VF aR aS 1 b 1 (.float .f32 0) 1 (.complex .f32 0 0) 1 := fun _ hG =>
  ⟨calls_symF (W := (W2 0 0)) (C := (C1 0 0)) (ρ := rho b 0 1 0 0 0) (ok_u8bad b hb0 hb1 h0) (xf_b _ _ _) (noU_ok aR aS) (run_u8bad _ _ _ aR aS) List.mem_cons_self rfl rfl rfl rfl hG,
  calls_symF (W := (W2 0 0)) (C := (C1 0 0)) (ρ := rho b 0 1 0 0 0) (ok_u8bad b hb0 hb1 h0) (xf_b _ _ _) (noU_ok aR aS) (run_u8bad _ _ _ aR aS) (List.mem_cons_of_mem _ List.mem_cons_self) rfl rfl rfl rfl hG,
  calls_symF (W := (W2 0 0)) (C := (C1 0 0)) (ρ := rho b 0 1 0 0 0) (ok_u8bad b hb0 hb1 h0) (xf_b _ _ _) (noU_ok aR aS) (run_u8bad _ _ _ aR aS) (List.mem_cons_of_mem _ (List.mem_cons_of_mem _ List.mem_cons_self)) rfl rfl rfl rfl hG⟩
def L_u32bad : List CF := [⟨.leq, (.var 0), (.lit 4294967295), false⟩,
  ⟨.eql, (.sh .shr .u64 (.var 0) (.lit 32)), (.lit 0), false⟩]
theorem ok_u32bad (b : Int) (hb0 : 0 ≤ b) (hb1 : b < 18446744073709551616) (h0 : 4294967295 < b) : ∀ f ∈ L_u32bad, f.ok (rho b 0 3 0 0 0) := by
  intro f hf
  simp only [L_u32bad, List.mem_cons, List.not_mem_nil, or_false] at hf
  rcases hf with rfl | rfl
  · exact ⟨rfl, cmp_leq_f (by simp (disch := omega) only [IE.ev, rho_0] <;> omega)⟩
  · exact ⟨rfl, cmp_eql_f (by simp (disch := omega) only [IE.ev, rho_0, shr_u64_32] <;> omega)⟩
def J_u32bad : List SEntry := [(5, [.agg [.v (.int .i64 3), .sym (.int .u64 (.var 0))]], .v (.int .i64 1)),
  (6, [.agg [.v (.int .i64 3), .sym (.int .u64 (.var 0))]], .v (.tuple #[.float .f32 0, .int .i64 1])),
  (7, [.agg [.v (.int .i64 3), .sym (.int .u64 (.var 0))]], .v (.tuple #[.complex .f32 0 0, .int .i64 1]))]
theorem run_u32bad (W : Nat → Nat) (C : Nat → Nat × Nat) (ρ : Nat → Int) (aR aS : Addr) : J_u32bad.map (fun e => (@call (E W C ρ L_u32bad T_b) Tryz.prog (glob aR aS) (tabS noU) 300 60 (.fn e.1) e.2.1 []).map fun r => nrm r.1) = J_u32bad.map fun e => some e.2.2 := by kernel_rfl
theorem v_u32bad (aR aS : Addr) (b : Int) (hb0 : 0 ≤ b) (hb1 : b < 18446744073709551616) (h0 : 4294967295 < b) : VF aR aS 3 b 1 (.float .f32 0) 1 (.complex .f32 0 0) 1 := fun _ hG =>
  ⟨calls_symF (W := (W2 0 0)) (C := (C1 0 0)) (ρ := rho b 0 3 0 0 0) (ok_u32bad b hb0 hb1 h0) (xf_b _ _ _) (noU_ok aR aS) (run_u32bad _ _ _ aR aS) List.mem_cons_self rfl rfl rfl rfl hG,
  calls_symF (W := (W2 0 0)) (C := (C1 0 0)) (ρ := rho b 0 3 0 0 0) (ok_u32bad b hb0 hb1 h0) (xf_b _ _ _) (noU_ok aR aS) (run_u32bad _ _ _ aR aS) (List.mem_cons_of_mem _ List.mem_cons_self) rfl rfl rfl rfl hG,
  calls_symF (W := (W2 0 0)) (C := (C1 0 0)) (ρ := rho b 0 3 0 0 0) (ok_u32bad b hb0 hb1 h0) (xf_b _ _ _) (noU_ok aR aS) (run_u32bad _ _ _ aR aS) (List.mem_cons_of_mem _ (List.mem_cons_of_mem _ List.mem_cons_self)) rfl rfl rfl rfl hG⟩
def L_i16ok : List CF := [⟨.leq, (.var 0), (.lit 65535), true⟩,
  ⟨.eql, (.sh .shr .u64 (.var 0) (.lit 16)), (.lit 0), true⟩]
theorem ok_i16ok (b : Int) (hb0 : 0 ≤ b) (hb1 : b < 18446744073709551616) (h0 : b ≤ 65535) : ∀ f ∈ L_i16ok, f.ok (rho b 0 6 0 0 0) := by
  intro f hf
  simp only [L_i16ok, List.mem_cons, List.not_mem_nil, or_false] at hf
  rcases hf with rfl | rfl
  · exact ⟨rfl, cmp_leq_t (by simp (disch := omega) only [IE.ev, rho_0] <;> omega)⟩
  · exact ⟨rfl, cmp_eql_t (by simp (disch := omega) only [IE.ev, rho_0, shr_u64_16] <;> omega)⟩
def J_i16ok : List SEntry := [(5, [.agg [.v (.int .i64 6), .sym (.int .u64 (.var 0))]], .v (.int .i64 0)),
  (6, [.agg [.v (.int .i64 6), .sym (.int .u64 (.var 0))]], .v (.tuple #[.float .f32 0, .int .i64 12])),
  (7, [.agg [.v (.int .i64 6), .sym (.int .u64 (.var 0))]], .v (.tuple #[.complex .f32 0 0, .int .i64 12]))]
theorem run_i16ok (W : Nat → Nat) (C : Nat → Nat × Nat) (ρ : Nat → Int) (aR aS : Addr) : J_i16ok.map (fun e => (@call (E W C ρ L_i16ok T_o) Tryz.prog (glob aR aS) (tabS noU) 300 60 (.fn e.1) e.2.1 []).map fun r => nrm r.1) = J_i16ok.map fun e => some e.2.2 := by kernel_rfl
theorem v_i16ok (aR aS : Addr) (b : Int) (hb0 : 0 ≤ b) (hb1 : b < 18446744073709551616) (h0 : b ≤ 65535) : VF aR aS 6 b 0 (.float .f32 0) 12 (.complex .f32 0 0) 12 := fun _ hG =>
  ⟨calls_symF (W := (W2 0 0)) (C := (C1 0 0)) (ρ := rho b 0 6 0 0 0) (ok_i16ok b hb0 hb1 h0) (xf_o _ _ _) (noU_ok aR aS) (run_i16ok _ _ _ aR aS) List.mem_cons_self rfl rfl rfl rfl hG,
  calls_symF (W := (W2 0 0)) (C := (C1 0 0)) (ρ := rho b 0 6 0 0 0) (ok_i16ok b hb0 hb1 h0) (xf_o _ _ _) (noU_ok aR aS) (run_i16ok _ _ _ aR aS) (List.mem_cons_of_mem _ List.mem_cons_self) rfl rfl rfl rfl hG,
  calls_symF (W := (W2 0 0)) (C := (C1 0 0)) (ρ := rho b 0 6 0 0 0) (ok_i16ok b hb0 hb1 h0) (xf_o _ _ _) (noU_ok aR aS) (run_i16ok _ _ _ aR aS) (List.mem_cons_of_mem _ (List.mem_cons_of_mem _ List.mem_cons_self)) rfl rfl rfl rfl hG⟩
def L_i64ok : List CF := [⟨.leq, (.var 0), (.lit 18446744073709551615), true⟩,
  ⟨.eql, (.sh .shr .u64 (.var 0) (.lit 64)), (.lit 0), true⟩]
theorem ok_i64ok (b : Int) (hb0 : 0 ≤ b) (hb1 : b < 18446744073709551616)  : ∀ f ∈ L_i64ok, f.ok (rho b 0 8 0 0 0) := by
  intro f hf
  simp only [L_i64ok, List.mem_cons, List.not_mem_nil, or_false] at hf
  rcases hf with rfl | rfl
  · exact ⟨rfl, cmp_leq_t (by simp (disch := omega) only [IE.ev, rho_0] <;> omega)⟩
  · exact ⟨rfl, cmp_eql_t (by simp (disch := omega) only [IE.ev, rho_0, shr_u64_64] <;> omega)⟩
def J_i64ok : List SEntry := [(5, [.agg [.v (.int .i64 8), .sym (.int .u64 (.var 0))]], .v (.int .i64 0)),
  (6, [.agg [.v (.int .i64 8), .sym (.int .u64 (.var 0))]], .v (.tuple #[.float .f32 0, .int .i64 12])),
  (7, [.agg [.v (.int .i64 8), .sym (.int .u64 (.var 0))]], .v (.tuple #[.complex .f32 0 0, .int .i64 12]))]
theorem run_i64ok (W : Nat → Nat) (C : Nat → Nat × Nat) (ρ : Nat → Int) (aR aS : Addr) : J_i64ok.map (fun e => (@call (E W C ρ L_i64ok T_o) Tryz.prog (glob aR aS) (tabS noU) 300 60 (.fn e.1) e.2.1 []).map fun r => nrm r.1) = J_i64ok.map fun e => some e.2.2 := by kernel_rfl
theorem v_i64ok (aR aS : Addr) (b : Int) (hb0 : 0 ≤ b) (hb1 : b < 18446744073709551616)  : VF aR aS 8 b 0 (.float .f32 0) 12 (.complex .f32 0 0) 12 := fun _ hG =>
  ⟨calls_symF (W := (W2 0 0)) (C := (C1 0 0)) (ρ := rho b 0 8 0 0 0) (ok_i64ok b hb0 hb1 ) (xf_o _ _ _) (noU_ok aR aS) (run_i64ok _ _ _ aR aS) List.mem_cons_self rfl rfl rfl rfl hG,
  calls_symF (W := (W2 0 0)) (C := (C1 0 0)) (ρ := rho b 0 8 0 0 0) (ok_i64ok b hb0 hb1 ) (xf_o _ _ _) (noU_ok aR aS) (run_i64ok _ _ _ aR aS) (List.mem_cons_of_mem _ List.mem_cons_self) rfl rfl rfl rfl hG,
  calls_symF (W := (W2 0 0)) (C := (C1 0 0)) (ρ := rho b 0 8 0 0 0) (ok_i64ok b hb0 hb1 ) (xf_o _ _ _) (noU_ok aR aS) (run_i64ok _ _ _ aR aS) (List.mem_cons_of_mem _ (List.mem_cons_of_mem _ List.mem_cons_self)) rfl rfl rfl rfl hG⟩
def L_f32ok : List CF := [⟨.leq, (.var 0), (.lit 4294967295), true⟩,
  ⟨.neq, (.bin .rem .u64 (.bin .quo .u64 (.var 0) (.lit 8388608)) (.lit 256)), (.lit 255), true⟩,
  ⟨.neq, (.var 0), (.lit 2147483648), true⟩,
  ⟨.eql, (.sh .shr .u64 (.var 0) (.lit 32)), (.lit 0), true⟩,
  ⟨.neq, (.bin .and .u32 (.cv .u32 (.var 0)) (.lit 2139095040)), (.lit 2139095040), true⟩,
  ⟨.neq, (.cv .u32 (.var 0)), (.lit 2147483648), true⟩]
theorem ok_f32ok (b : Int) (hb0 : 0 ≤ b) (hb1 : b < 18446744073709551616) (h0 : b < 4294967296) (h1 : b / 8388608 % 256 ≠ 255) (h2 : b ≠ 2147483648) : ∀ f ∈ L_f32ok, f.ok (rho b 0 9 0 0 0) := by
  intro f hf
  simp only [L_f32ok, List.mem_cons, List.not_mem_nil, or_false] at hf
  rcases hf with rfl | rfl | rfl | rfl | rfl | rfl
  · exact ⟨rfl, cmp_leq_t (by simp (disch := omega) only [IE.ev, rho_0] <;> omega)⟩
  · exact ⟨rfl, cmp_neq_t (by simp (disch := omega) only [IE.ev, rho_0, quo_u64, rem_u64] <;> omega)⟩
  · exact ⟨rfl, cmp_neq_t (by simp (disch := omega) only [IE.ev, rho_0] <;> omega)⟩
  · exact ⟨rfl, cmp_eql_t (by simp (disch := omega) only [IE.ev, rho_0, shr_u64_32] <;> omega)⟩
  · exact ⟨rfl, cmp_neq_t (by simp (disch := omega) only [IE.ev, rho_0, and_u32_exp, wrap_u32] <;> omega)⟩
  · exact ⟨rfl, cmp_neq_t (by simp (disch := omega) only [IE.ev, rho_0, wrap_u32] <;> omega)⟩
def J_f32ok : List SEntry := [(5, [.agg [.v (.int .i64 9), .sym (.int .u64 (.var 0))]], .v (.int .i64 0)),
  (6, [.agg [.v (.int .i64 9), .sym (.int .u64 (.var 0))]], .tuple [.sym (.nm 0), .v (.int .i64 0)]),
  (7, [.agg [.v (.int .i64 9), .sym (.int .u64 (.var 0))]], .v (.tuple #[.complex .f32 0 0, .int .i64 12]))]
theorem run_f32ok (W : Nat → Nat) (C : Nat → Nat × Nat) (ρ : Nat → Int) (aR aS : Addr) : J_f32ok.map (fun e => (@call (E W C ρ L_f32ok T_f) Tryz.prog (glob aR aS) (tabS noU) 300 60 (.fn e.1) e.2.1 []).map fun r => nrm r.1) = J_f32ok.map fun e => some e.2.2 := by kernel_rfl
theorem v_f32ok (aR aS : Addr) (b : Int) (hb0 : 0 ≤ b) (hb1 : b < 18446744073709551616) (h0 : b < 4294967296) (h1 : b / 8388608 % 256 ≠ 255) (h2 : b ≠ 2147483648) : VF aR aS 9 b 0 (.float .f32 b.toNat) 0 (.complex .f32 0 0) 12 := fun _ hG =>
  ⟨calls_symF (W := (W2 b.toNat 0)) (C := (C1 0 0)) (ρ := rho b 0 9 0 0 0) (ok_f32ok b hb0 hb1 h0 h1 h2) (xf_f hb0 h0) (noU_ok aR aS) (run_f32ok _ _ _ aR aS) List.mem_cons_self rfl rfl rfl rfl hG,
  calls_symF (W := (W2 b.toNat 0)) (C := (C1 0 0)) (ρ := rho b 0 9 0 0 0) (ok_f32ok b hb0 hb1 h0 h1 h2) (xf_f hb0 h0) (noU_ok aR aS) (run_f32ok _ _ _ aR aS) (List.mem_cons_of_mem _ List.mem_cons_self) rfl rfl rfl rfl hG,
  calls_symF (W := (W2 b.toNat 0)) (C := (C1 0 0)) (ρ := rho b 0 9 0 0 0) (ok_f32ok b hb0 hb1 h0 h1 h2) (xf_f hb0 h0) (noU_ok aR aS) (run_f32ok _ _ _ aR aS) (List.mem_cons_of_mem _ (List.mem_cons_of_mem _ List.mem_cons_self)) rfl rfl rfl rfl hG⟩
def L_c64hizero : List CF := [⟨.leq, (.var 0), (.lit 18446744073709551615), true⟩,
  ⟨.neq, (.bin .rem .u64 (.bin .quo .u64 (.bin .rem .u64 (.var 0) (.lit 4294967296)) (.lit 8388608)) (.lit 256)), (.lit 255), true⟩,
  ⟨.neq, (.bin .rem .u64 (.var 0) (.lit 4294967296)), (.lit 2147483648), true⟩,
  ⟨.neq, (.bin .rem .u64 (.bin .quo .u64 (.bin .quo .u64 (.var 0) (.lit 4294967296)) (.lit 8388608)) (.lit 256)), (.lit 255), true⟩,
  ⟨.neq, (.bin .quo .u64 (.var 0) (.lit 4294967296)), (.lit 2147483648), false⟩,
  ⟨.eql, (.sh .shr .u64 (.var 0) (.lit 64)), (.lit 0), true⟩,
  ⟨.neq, (.bin .and .u32 (.cv .u32 (.var 0)) (.lit 2139095040)), (.lit 2139095040), true⟩,
  ⟨.neq, (.cv .u32 (.var 0)), (.lit 2147483648), true⟩,
  ⟨.neq, (.bin .and .u32 (.cv .u32 (.sh .shr .u64 (.var 0) (.lit 32))) (.lit 2139095040)), (.lit 2139095040), true⟩,
  ⟨.neq, (.cv .u32 (.sh .shr .u64 (.var 0) (.lit 32))), (.lit 2147483648), false⟩]
theorem ok_c64hizero (b : Int) (hb0 : 0 ≤ b) (hb1 : b < 18446744073709551616) (h0 : (b % 4294967296) / 8388608 % 256 ≠ 255) (h1 : (b % 4294967296) ≠ 2147483648) (h2 : (b / 4294967296) = 2147483648) : ∀ f ∈ L_c64hizero, f.ok (rho b 0 10 0 0 0) := by
  intro f hf
  simp only [L_c64hizero, List.mem_cons, List.not_mem_nil, or_false] at hf
  rcases hf with rfl | rfl | rfl | rfl | rfl | rfl | rfl | rfl | rfl | rfl
  · exact ⟨rfl, cmp_leq_t (by simp (disch := omega) only [IE.ev, rho_0] <;> omega)⟩
  · exact ⟨rfl, cmp_neq_t (by simp (disch := omega) only [IE.ev, rho_0, quo_u64, rem_u64] <;> omega)⟩
  · exact ⟨rfl, cmp_neq_t (by simp (disch := omega) only [IE.ev, rho_0, rem_u64] <;> omega)⟩
  · exact ⟨rfl, cmp_neq_t (by simp (disch := omega) only [IE.ev, rho_0, quo_u64, rem_u64] <;> omega)⟩
  · exact ⟨rfl, cmp_neq_f (by simp (disch := omega) only [IE.ev, rho_0, quo_u64] <;> omega)⟩
  · exact ⟨rfl, cmp_eql_t (by simp (disch := omega) only [IE.ev, rho_0, shr_u64_64] <;> omega)⟩
  · exact ⟨rfl, cmp_neq_t (by simp (disch := omega) only [IE.ev, rho_0, and_u32_exp, wrap_u32] <;> omega)⟩
  · exact ⟨rfl, cmp_neq_t (by simp (disch := omega) only [IE.ev, rho_0, wrap_u32] <;> omega)⟩
  · exact ⟨rfl, cmp_neq_t (by simp (disch := omega) only [IE.ev, rho_0, and_u32_exp, shr_u64_32, wrap_u32] <;> omega)⟩
  · exact ⟨rfl, cmp_neq_f (by simp (disch := omega) only [IE.ev, rho_0, shr_u64_32, wrap_u32] <;> omega)⟩
def J_c64hizero : List SEntry := [(5, [.agg [.v (.int .i64 10), .sym (.int .u64 (.var 0))]], .v (.int .i64 1)),
  (6, [.agg [.v (.int .i64 10), .sym (.int .u64 (.var 0))]], .v (.tuple #[.float .f32 0, .int .i64 1])),
  (7, [.agg [.v (.int .i64 10), .sym (.int .u64 (.var 0))]], .v (.tuple #[.complex .f32 0 0, .int .i64 1]))]
theorem run_c64hizero (W : Nat → Nat) (C : Nat → Nat × Nat) (ρ : Nat → Int) (aR aS : Addr) : J_c64hizero.map (fun e => (@call (E W C ρ L_c64hizero T_b) Tryz.prog (glob aR aS) (tabS noU) 300 60 (.fn e.1) e.2.1 []).map fun r => nrm r.1) = J_c64hizero.map fun e => some e.2.2 := by kernel_rfl
theorem v_c64hizero (aR aS : Addr) (b : Int) (hb0 : 0 ≤ b) (hb1 : b < 18446744073709551616) (h0 : (b % 4294967296) / 8388608 % 256 ≠ 255) (h1 : (b % 4294967296) ≠ 2147483648) (h2 : (b / 4294967296) = 2147483648) : VF aR aS 10 b 1 (.float .f32 0) 1 (.complex .f32 0 0) 1 := fun _ hG =>
  ⟨calls_symF (W := (W2 0 0)) (C := (C1 0 0)) (ρ := rho b 0 10 0 0 0) (ok_c64hizero b hb0 hb1 h0 h1 h2) (xf_b _ _ _) (noU_ok aR aS) (run_c64hizero _ _ _ aR aS) List.mem_cons_self rfl rfl rfl rfl hG,
  calls_symF (W := (W2 0 0)) (C := (C1 0 0)) (ρ := rho b 0 10 0 0 0) (ok_c64hizero b hb0 hb1 h0 h1 h2) (xf_b _ _ _) (noU_ok aR aS) (run_c64hizero _ _ _ aR aS) (List.mem_cons_of_mem _ List.mem_cons_self) rfl rfl rfl rfl hG,
  calls_symF (W := (W2 0 0)) (C := (C1 0 0)) (ρ := rho b 0 10 0 0 0) (ok_c64hizero b hb0 hb1 h0 h1 h2) (xf_b _ _ _) (noU_ok aR aS) (run_c64hizero _ _ _ aR aS) (List.mem_cons_of_mem _ (List.mem_cons_of_mem _ List.mem_cons_self)) rfl rfl rfl rfl hG⟩
def L_neg : List CF := [⟨.lss, (.var 2), (.lit 0), true⟩,
  ⟨.neq, (.var 2), (.lit 9), true⟩,
  ⟨.neq, (.var 2), (.lit 10), true⟩]
theorem ok_neg (b vk : Int) (h0 : vk < 0) : ∀ f ∈ L_neg, f.ok (rho b 0 vk 0 0 0) := by
  intro f hf
  simp only [L_neg, List.mem_cons, List.not_mem_nil, or_false] at hf
  rcases hf with rfl | rfl | rfl
  · exact ⟨rfl, cmp_lss_t (by simp (disch := omega) only [IE.ev, rho_2] <;> omega)⟩
  · exact ⟨rfl, cmp_neq_t (by simp (disch := omega) only [IE.ev, rho_2] <;> omega)⟩
  · exact ⟨rfl, cmp_neq_t (by simp (disch := omega) only [IE.ev, rho_2] <;> omega)⟩
def J_neg : List SEntry := [(5, [.agg [.sym (.int .i64 (.var 2)), .sym (.int .u64 (.var 0))]], .v (.int .i64 11)),
  (6, [.agg [.sym (.int .i64 (.var 2)), .sym (.int .u64 (.var 0))]], .v (.tuple #[.float .f32 0, .int .i64 11])),
  (7, [.agg [.sym (.int .i64 (.var 2)), .sym (.int .u64 (.var 0))]], .v (.tuple #[.complex .f32 0 0, .int .i64 11]))]
theorem run_neg (W : Nat → Nat) (C : Nat → Nat × Nat) (ρ : Nat → Int) (aR aS : Addr) : J_neg.map (fun e => (@call (E W C ρ L_neg T_o) Tryz.prog (glob aR aS) (tabS noU) 300 60 (.fn e.1) e.2.1 []).map fun r => nrm r.1) = J_neg.map fun e => some e.2.2 := by kernel_rfl
theorem v_neg (aR aS : Addr) (b vk : Int) (h0 : vk < 0) : VF aR aS vk b 11 (.float .f32 0) 11 (.complex .f32 0 0) 11 := fun _ hG =>
  ⟨calls_symF (W := (W2 0 0)) (C := (C1 0 0)) (ρ := rho b 0 vk 0 0 0) (ok_neg b vk h0) (xf_o _ _ _) (noU_ok aR aS) (run_neg _ _ _ aR aS) List.mem_cons_self rfl rfl rfl rfl hG,
  calls_symF (W := (W2 0 0)) (C := (C1 0 0)) (ρ := rho b 0 vk 0 0 0) (ok_neg b vk h0) (xf_o _ _ _) (noU_ok aR aS) (run_neg _ _ _ aR aS) (List.mem_cons_of_mem _ List.mem_cons_self) rfl rfl rfl rfl hG,
  calls_symF (W := (W2 0 0)) (C := (C1 0 0)) (ρ := rho b 0 vk 0 0 0) (ok_neg b vk h0) (xf_o _ _ _) (noU_ok aR aS) (run_neg _ _ _ aR aS) (List.mem_cons_of_mem _ (List.mem_cons_of_mem _ List.mem_cons_self)) rfl rfl rfl rfl hG⟩
def L_big : List CF := [⟨.lss, (.var 2), (.lit 0), false⟩,
  ⟨.geq, (.var 2), (.lit 11), true⟩,
  ⟨.neq, (.var 2), (.lit 9), true⟩,
  ⟨.neq, (.var 2), (.lit 10), true⟩]
theorem ok_big (b vk : Int) (h0 : 11 ≤ vk) : ∀ f ∈ L_big, f.ok (rho b 0 vk 0 0 0) := by
  intro f hf
  simp only [L_big, List.mem_cons, List.not_mem_nil, or_false] at hf
  rcases hf with rfl | rfl | rfl | rfl
  · exact ⟨rfl, cmp_lss_f (by simp (disch := omega) only [IE.ev, rho_2] <;> omega)⟩
  · exact ⟨rfl, cmp_geq_t (by simp (disch := omega) only [IE.ev, rho_2] <;> omega)⟩
  · exact ⟨rfl, cmp_neq_t (by simp (disch := omega) only [IE.ev, rho_2] <;> omega)⟩
  · exact ⟨rfl, cmp_neq_t (by simp (disch := omega) only [IE.ev, rho_2] <;> omega)⟩
def J_big : List SEntry := [(5, [.agg [.sym (.int .i64 (.var 2)), .sym (.int .u64 (.var 0))]], .v (.int .i64 11)),
  (6, [.agg [.sym (.int .i64 (.var 2)), .sym (.int .u64 (.var 0))]], .v (.tuple #[.float .f32 0, .int .i64 11])),
  (7, [.agg [.sym (.int .i64 (.var 2)), .sym (.int .u64 (.var 0))]], .v (.tuple #[.complex .f32 0 0, .int .i64 11]))]
theorem run_big (W : Nat → Nat) (C : Nat → Nat × Nat) (ρ : Nat → Int) (aR aS : Addr) : J_big.map (fun e => (@call (E W C ρ L_big T_o) Tryz.prog (glob aR aS) (tabS noU) 300 60 (.fn e.1) e.2.1 []).map fun r => nrm r.1) = J_big.map fun e => some e.2.2 := by kernel_rfl
theorem v_big (aR aS : Addr) (b vk : Int) (h0 : 11 ≤ vk) : VF aR aS vk b 11 (.float .f32 0) 11 (.complex .f32 0 0) 11 := fun _ hG =>
  ⟨calls_symF (W := (W2 0 0)) (C := (C1 0 0)) (ρ := rho b 0 vk 0 0 0) (ok_big b vk h0) (xf_o _ _ _) (noU_ok aR aS) (run_big _ _ _ aR aS) List.mem_cons_self rfl rfl rfl rfl hG,
  calls_symF (W := (W2 0 0)) (C := (C1 0 0)) (ρ := rho b 0 vk 0 0 0) (ok_big b vk h0) (xf_o _ _ _) (noU_ok aR aS) (run_big _ _ _ aR aS) (List.mem_cons_of_mem _ List.mem_cons_self) rfl rfl rfl rfl hG,
  calls_symF (W := (W2 0 0)) (C := (C1 0 0)) (ρ := rho b 0 vk 0 0 0) (ok_big b vk h0) (xf_o _ _ _) (noU_ok aR aS) (run_big _ _ _ aR aS) (List.mem_cons_of_mem _ (List.mem_cons_of_mem _ List.mem_cons_self)) rfl rfl rfl rfl hG⟩
end
end Go.Proofs.YtiomdkghnbbmcaaGreatDoor
