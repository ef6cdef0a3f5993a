import Derived.Test.YtiomdkghnbbmcaaGreatDoorFP
namespace Go.Proofs.YtiomdkghnbbmcaaGreatDoor
noncomputable section
open Go Go.RX
open Go.RowKit (Below)
set_option maxRecDepth 1000000
set_option maxHeartbeats 4000000
def L_bool0 : List CF := [⟨.leq, (.var 0), (.lit 1), true⟩,
  ⟨.eql, (.sh .shr .u64 (.var 0) (.lit 1)), (.lit 0), true⟩]
theorem ok_bool0 (b : Int) (hb0 : 0 ≤ b) (hb1 : b < 18446744073709551616) (h0 : b ≤ 1) : ∀ f ∈ L_bool0, f.ok (rho b 0 0 0 0 0) := by
  intro f hf
  simp only [L_bool0, List.mem_cons, List.not_mem_nil, or_false] at hf
  rcases hf with rfl | rfl
  · exact ⟨rfl, cmp_leq_t (by simp (disch := omega) only [IE.ev, rho_0] <;> omega)⟩
  · exact ⟨rfl, cmp_eql_t (by simp (disch := omega) only [IE.ev, rho_0, shr_u64_1] <;> omega)⟩
def J_bool0 : List SEntry := [(5, [.agg [.v (.int .i64 0), .sym (.int .u64 (.var 0))]], .v (.int .i64 0)),
  (6, [.agg [.v (.int .i64 0), .sym (.int .u64 (.var 0))]], .v (.tuple #[.float .f32 0, .int .i64 12])),
  (7, [.agg [.v (.int .i64 0), .sym (.int .u64 (.var 0))]], .v (.tuple #[.complex .f32 0 0, .int .i64 12]))]
theorem run_bool0 (W : Nat → Nat) (C : Nat → Nat × Nat) (ρ : Nat → Int) (aR aS : Addr) : J_bool0.map (fun e => (@call (E W C ρ L_bool0 T_o) Tryz.prog (glob aR aS) (tabS noU) 300 60 (.fn e.1) e.2.1 []).map fun r => nrm r.1) = J_bool0.map fun e => some e.2.2 := by kernel_rfl
theorem v_bool0 (aR aS : Addr) (b : Int) (hb0 : 0 ≤ b) (hb1 : b < 18446744073709551616) (h0 : b ≤ 1) : VF aR aS 0 b 0 (.float .f32 0) 12 (.complex .f32 0 0) 12 := fun _ hG =>
  ⟨calls_symF (W := (W2 0 0)) (C := (C1 0 0)) (ρ := rho b 0 0 0 0 0) (ok_bool0 b hb0 hb1 h0) (xf_o _ _ _) (noU_ok aR aS) (run_bool0 _ _ _ aR aS) List.mem_cons_self rfl rfl rfl rfl hG,
  calls_symF (W := (W2 0 0)) (C := (C1 0 0)) (ρ := rho b 0 0 0 0 0) (ok_bool0 b hb0 hb1 h0) (xf_o _ _ _) (noU_ok aR aS) (run_bool0 _ _ _ aR aS) (List.mem_cons_of_mem _ List.mem_cons_self) rfl rfl rfl rfl hG,
  calls_symF (W := (W2 0 0)) (C := (C1 0 0)) (ρ := rho b 0 0 0 0 0) (ok_bool0 b hb0 hb1 h0) (xf_o _ _ _) (noU_ok aR aS) (run_bool0 _ _ _ aR aS) (List.mem_cons_of_mem _ (List.mem_cons_of_mem _ List.mem_cons_self)) rfl rfl rfl rfl hG⟩
def L_u16ok : List CF := [⟨.leq, (.var 0), (.lit 65535), true⟩,
  ⟨.eql, (.sh .shr .u64 (.var 0) (.lit 16)), (.lit 0), true⟩]
theorem ok_u16ok (b : Int) (hb0 : 0 ≤ b) (hb1 : b < 18446744073709551616) (h0 : b ≤ 65535) : ∀ f ∈ L_u16ok, f.ok (rho b 0 2 0 0 0) := by
  intro f hf
  simp only [L_u16ok, List.mem_cons, List.not_mem_nil, or_false] at hf
  rcases hf with rfl | rfl
  · exact ⟨rfl, cmp_leq_t (by simp (disch := omega) only [IE.ev, rho_0] <;> omega)⟩
  · exact ⟨rfl, cmp_eql_t (by simp (disch := omega) only [IE.ev, rho_0, shr_u64_16] <;> omega)⟩
def J_u16ok : List SEntry := [(5, [.agg [.v (.int .i64 2), .sym (.int .u64 (.var 0))]], .v (.int .i64 0)),
  (6, [.agg [.v (.int .i64 2), .sym (.int .u64 (.var 0))]], .v (.tuple #[.float .f32 0, .int .i64 12])),
  (7, [.agg [.v (.int .i64 2), .sym (.int .u64 (.var 0))]], .v (.tuple #[.complex .f32 0 0, .int .i64 12]))]
theorem run_u16ok (W : Nat → Nat) (C : Nat → Nat × Nat) (ρ : Nat → Int) (aR aS : Addr) : J_u16ok.map (fun e => (@call (E W C ρ L_u16ok T_o) Tryz.prog (glob aR aS) (tabS noU) 300 60 (.fn e.1) e.2.1 []).map fun r => nrm r.1) = J_u16ok.map fun e => some e.2.2 := by kernel_rfl
theorem v_u16ok (aR aS : Addr) (b : Int) (hb0 : 0 ≤ b) (hb1 : b < 18446744073709551616) (h0 : b ≤ 65535) : VF aR aS 2 b 0 (.float .f32 0) 12 (.complex .f32 0 0) 12 := fun _ hG =>
  ⟨calls_symF (W := (W2 0 0)) (C := (C1 0 0)) (ρ := rho b 0 2 0 0 0) (ok_u16ok b hb0 hb1 h0) (xf_o _ _ _) (noU_ok aR aS) (run_u16ok _ _ _ aR aS) List.mem_cons_self rfl rfl rfl rfl hG,
  calls_symF (W := (W2 0 0)) (C := (C1 0 0)) (ρ := rho b 0 2 0 0 0) (ok_u16ok b hb0 hb1 h0) (xf_o _ _ _) (noU_ok aR aS) (run_u16ok _ _ _ aR aS) (List.mem_cons_of_mem _ List.mem_cons_self) rfl rfl rfl rfl hG,
  calls_symF (W := (W2 0 0)) (C := (C1 0 0)) (ρ := rho b 0 2 0 0 0) (ok_u16ok b hb0 hb1 h0) (xf_o _ _ _) (noU_ok aR aS) (run_u16ok _ _ _ aR aS) (List.mem_cons_of_mem _ (List.mem_cons_of_mem _ List.mem_cons_self)) rfl rfl rfl rfl hG⟩
def L_u64ok : List CF := [⟨.leq, (.var 0), (.lit 18446744073709551615), true⟩,
  ⟨.eql, (.sh .shr .u64 (.var 0) (.lit 64)), (.lit 0), true⟩]
theorem ok_u64ok (b : Int) (hb0 : 0 ≤ b) (hb1 : b < 18446744073709551616)  : ∀ f ∈ L_u64ok, f.ok (rho b 0 4 0 0 0) := by
  intro f hf
  simp only [L_u64ok, List.mem_cons, List.not_mem_nil, or_false] at hf
  rcases hf with rfl | rfl
  · exact ⟨rfl, cmp_leq_t (by simp (disch := omega) only [IE.ev, rho_0] <;> omega)⟩
  · exact ⟨rfl, cmp_eql_t (by simp (disch := omega) only [IE.ev, rho_0, shr_u64_64] <;> omega)⟩
def J_u64ok : List SEntry := [(5, [.agg [.v (.int .i64 4), .sym (.int .u64 (.var 0))]], .v (.int .i64 0)),
  (6, [.agg [.v (.int .i64 4), .sym (.int .u64 (.var 0))]], .v (.tuple #[.float .f32 0, .int .i64 12])),
  (7, [.agg [.v (.int .i64 4), .sym (.int .u64 (.var 0))]], .v (.tuple #[.complex .f32 0 0, .int .i64 12]))]
theorem run_u64ok (W : Nat → Nat) (C : Nat → Nat × Nat) (ρ : Nat → Int) (aR aS : Addr) : J_u64ok.map (fun e => (@call (E W C ρ L_u64ok T_o) Tryz.prog (glob aR aS) (tabS noU) 300 60 (.fn e.1) e.2.1 []).map fun r => nrm r.1) = J_u64ok.map fun e => some e.2.2 := by kernel_rfl
theorem v_u64ok (aR aS : Addr) (b : Int) (hb0 : 0 ≤ b) (hb1 : b < 18446744073709551616)  : VF aR aS 4 b 0 (.float .f32 0) 12 (.complex .f32 0 0) 12 := fun _ hG =>
  ⟨calls_symF (W := (W2 0 0)) (C := (C1 0 0)) (ρ := rho b 0 4 0 0 0) (ok_u64ok b hb0 hb1 ) (xf_o _ _ _) (noU_ok aR aS) (run_u64ok _ _ _ aR aS) List.mem_cons_self rfl rfl rfl rfl hG,
  calls_symF (W := (W2 0 0)) (C := (C1 0 0)) (ρ := rho b 0 4 0 0 0) (ok_u64ok b hb0 hb1 ) (xf_o _ _ _) (noU_ok aR aS) (run_u64ok _ _ _ aR aS) (List.mem_cons_of_mem _ List.mem_cons_self) rfl rfl rfl rfl hG,
  calls_symF (W := (W2 0 0)) (C := (C1 0 0)) (ρ := rho b 0 4 0 0 0) (ok_u64ok b hb0 hb1 ) (xf_o _ _ _) (noU_ok aR aS) (run_u64ok _ _ _ aR aS) (List.mem_cons_of_mem _ (List.mem_cons_of_mem _ List.mem_cons_self)) rfl rfl rfl rfl hG⟩
def L_i16bad : List CF := [⟨.leq, (.var 0), (.lit 65535), false⟩,
  ⟨.eql, (.sh .shr .u64 (.var 0) (.lit 16)), (.lit 0), false⟩]
theorem ok_i16bad (b : Int) (hb0 : 0 ≤ b) (hb1 : b < 18446744073709551616) (h0 : 65535 < b) : ∀ f ∈ L_i16bad, f.ok (rho b 0 6 0 0 0) := by
  intro f hf
  simp only [L_i16bad, List.mem_cons, List.not_mem_nil, or_false] at hf
  rcases hf with rfl | rfl
  · exact ⟨rfl, cmp_leq_f (by simp (disch := omega) only [IE.ev, rho_0] <;> omega)⟩
  · exact ⟨rfl, cmp_eql_f (by simp (disch := omega) only [IE.ev, rho_0, shr_u64_16] <;> omega)⟩
def J_i16bad : List SEntry := [(5, [.agg [.v (.int .i64 6), .sym (.int .u64 (.var 0))]], .v (.int .i64 1)),
  (6, [.agg [.v (.int .i64 6), .sym (.int .u64 (.var 0))]], .v (.tuple #[.float .f32 0, .int .i64 1])),
  (7, [.agg [.v (.int .i64 6), .sym (.int .u64 (.var 0))]], .v (.tuple #[.complex .f32 0 0, .int .i64 1]))]
theorem run_i16bad (W : Nat → Nat) (C : Nat → Nat × Nat) (ρ : Nat → Int) (aR aS : Addr) : J_i16bad.map (fun e => (@call (E W C ρ L_i16bad T_b) Tryz.prog (glob aR aS) (tabS noU) 300 60 (.fn e.1) e.2.1 []).map fun r => nrm r.1) = J_i16bad.map fun e => some e.2.2 := by kernel_rfl
theorem v_i16bad (aR aS : Addr) (b : Int) (hb0 : 0 ≤ b) (hb1 : b < 18446744073709551616) (h0 : 65535 < b) : VF aR aS 6 b 1 (.float .f32 0) 1 (.complex .f32 0 0) 1 := fun _ hG =>
  ⟨calls_symF (W := (W2 0 0)) (C := (C1 0 0)) (ρ := rho b 0 6 0 0 0) (ok_i16bad b hb0 hb1 h0) (xf_b _ _ _) (noU_ok aR aS) (run_i16bad _ _ _ aR aS) List.mem_cons_self rfl rfl rfl rfl hG,
  calls_symF (W := (W2 0 0)) (C := (C1 0 0)) (ρ := rho b 0 6 0 0 0) (ok_i16bad b hb0 hb1 h0) (xf_b _ _ _) (noU_ok aR aS) (run_i16bad _ _ _ aR aS) (List.mem_cons_of_mem _ List.mem_cons_self) rfl rfl rfl rfl hG,
  calls_symF (W := (W2 0 0)) (C := (C1 0 0)) (ρ := rho b 0 6 0 0 0) (ok_i16bad b hb0 hb1 h0) (xf_b _ _ _) (noU_ok aR aS) (run_i16bad _ _ _ aR aS) (List.mem_cons_of_mem _ (List.mem_cons_of_mem _ List.mem_cons_self)) rfl rfl rfl rfl hG⟩
def L_f32wide : List CF := [⟨.leq, (.var 0), (.lit 4294967295), false⟩,
  ⟨.eql, (.sh .shr .u64 (.var 0) (.lit 32)), (.lit 0), false⟩]
theorem ok_f32wide (b : Int) (hb0 : 0 ≤ b) (hb1 : b < 18446744073709551616) (h0 : 4294967296 ≤ b) : ∀ f ∈ L_f32wide, f.ok (rho b 0 9 0 0 0) := by
  intro f hf
  simp only [L_f32wide, List.mem_cons, List.not_mem_nil, or_false] at hf
  rcases hf with rfl | rfl
  · exact ⟨rfl, cmp_leq_f (by simp (disch := omega) only [IE.ev, rho_0] <;> omega)⟩
  · exact ⟨rfl, cmp_eql_f (by simp (disch := omega) only [IE.ev, rho_0, shr_u64_32] <;> omega)⟩
def J_f32wide : List SEntry := [(5, [.agg [.v (.int .i64 9), .sym (.int .u64 (.var 0))]], .v (.int .i64 1)),
  (6, [.agg [.v (.int .i64 9), .sym (.int .u64 (.var 0))]], .v (.tuple #[.float .f32 0, .int .i64 1])),
  (7, [.agg [.v (.int .i64 9), .sym (.int .u64 (.var 0))]], .v (.tuple #[.complex .f32 0 0, .int .i64 1]))]
theorem run_f32wide (W : Nat → Nat) (C : Nat → Nat × Nat) (ρ : Nat → Int) (aR aS : Addr) : J_f32wide.map (fun e => (@call (E W C ρ L_f32wide T_b) Tryz.prog (glob aR aS) (tabS noU) 300 60 (.fn e.1) e.2.1 []).map fun r => nrm r.1) = J_f32wide.map fun e => some e.2.2 := by kernel_rfl
theorem v_f32wide (aR aS : Addr) (b : Int) (hb0 : 0 ≤ b) (hb1 : b < 18446744073709551616) (h0 : 4294967296 ≤ b) : VF aR aS 9 b 1 (.float .f32 0) 1 (.complex .f32 0 0) 1 := fun _ hG =>
  ⟨calls_symF (W := (W2 0 0)) (C := (C1 0 0)) (ρ := rho b 0 9 0 0 0) (ok_f32wide b hb0 hb1 h0) (xf_b _ _ _) (noU_ok aR aS) (run_f32wide _ _ _ aR aS) List.mem_cons_self rfl rfl rfl rfl hG,
  calls_symF (W := (W2 0 0)) (C := (C1 0 0)) (ρ := rho b 0 9 0 0 0) (ok_f32wide b hb0 hb1 h0) (xf_b _ _ _) (noU_ok aR aS) (run_f32wide _ _ _ aR aS) (List.mem_cons_of_mem _ List.mem_cons_self) rfl rfl rfl rfl hG,
  calls_symF (W := (W2 0 0)) (C := (C1 0 0)) (ρ := rho b 0 9 0 0 0) (ok_f32wide b hb0 hb1 h0) (xf_b _ _ _) (noU_ok aR aS) (run_f32wide _ _ _ aR aS) (List.mem_cons_of_mem _ (List.mem_cons_of_mem _ List.mem_cons_self)) rfl rfl rfl rfl hG⟩
def L_c64loexp : List CF := [⟨.leq, (.var 0), (.lit 18446744073709551615), true⟩,
  ⟨.neq, (.bin .rem .u64 (.bin .quo .u64 (.bin .rem .u64 (.var 0) (.lit 4294967296)) (.lit 8388608)) (.lit 256)), (.lit 255), false⟩,
  ⟨.eql, (.sh .shr .u64 (.var 0) (.lit 64)), (.lit 0), true⟩,
  ⟨.neq, (.bin .and .u32 (.cv .u32 (.var 0)) (.lit 2139095040)), (.lit 2139095040), false⟩]
theorem ok_c64loexp (b : Int) (hb0 : 0 ≤ b) (hb1 : b < 18446744073709551616) (h0 : (b % 4294967296) / 8388608 % 256 = 255) : ∀ f ∈ L_c64loexp, f.ok (rho b 0 10 0 0 0) := by
  intro f hf
  simp only [L_c64loexp, List.mem_cons, List.not_mem_nil, or_false] at hf
  rcases hf with rfl | rfl | rfl | rfl
  · exact ⟨rfl, cmp_leq_t (by simp (disch := omega) only [IE.ev, rho_0] <;> omega)⟩
  · exact ⟨rfl, cmp_neq_f (by simp (disch := omega) only [IE.ev, rho_0, quo_u64, rem_u64] <;> omega)⟩
  · exact ⟨rfl, cmp_eql_t (by simp (disch := omega) only [IE.ev, rho_0, shr_u64_64] <;> omega)⟩
  · exact ⟨rfl, cmp_neq_f (by simp (disch := omega) only [IE.ev, rho_0, and_u32_exp, wrap_u32] <;> omega)⟩
def J_c64loexp : List SEntry := [(5, [.agg [.v (.int .i64 10), .sym (.int .u64 (.var 0))]], .v (.int .i64 1)),
  (6, [.agg [.v (.int .i64 10), .sym (.int .u64 (.var 0))]], .v (.tuple #[.float .f32 0, .int .i64 1])),
  (7, [.agg [.v (.int .i64 10), .sym (.int .u64 (.var 0))]], .v (.tuple #[.complex .f32 0 0, .int .i64 1]))]
theorem run_c64loexp (W : Nat → Nat) (C : Nat → Nat × Nat) (ρ : Nat → Int) (aR aS : Addr) : J_c64loexp.map (fun e => (@call (E W C ρ L_c64loexp T_b) Tryz.prog (glob aR aS) (tabS noU) 300 60 (.fn e.1) e.2.1 []).map fun r => nrm r.1) = J_c64loexp.map fun e => some e.2.2 := by kernel_rfl
theorem v_c64loexp (aR aS : Addr) (b : Int) (hb0 : 0 ≤ b) (hb1 : b < 18446744073709551616) (h0 : (b % 4294967296) / 8388608 % 256 = 255) : VF aR aS 10 b 1 (.float .f32 0) 1 (.complex .f32 0 0) 1 := fun _ hG =>
  ⟨calls_symF (W := (W2 0 0)) (C := (C1 0 0)) (ρ := rho b 0 10 0 0 0) (ok_c64loexp b hb0 hb1 h0) (xf_b _ _ _) (noU_ok aR aS) (run_c64loexp _ _ _ aR aS) List.mem_cons_self rfl rfl rfl rfl hG,
  calls_symF (W := (W2 0 0)) (C := (C1 0 0)) (ρ := rho b 0 10 0 0 0) (ok_c64loexp b hb0 hb1 h0) (xf_b _ _ _) (noU_ok aR aS) (run_c64loexp _ _ _ aR aS) (List.mem_cons_of_mem _ List.mem_cons_self) rfl rfl rfl rfl hG,
  calls_symF (W := (W2 0 0)) (C := (C1 0 0)) (ρ := rho b 0 10 0 0 0) (ok_c64loexp b hb0 hb1 h0) (xf_b _ _ _) (noU_ok aR aS) (run_c64loexp _ _ _ aR aS) (List.mem_cons_of_mem _ (List.mem_cons_of_mem _ List.mem_cons_self)) rfl rfl rfl rfl hG⟩
def L_c64ok : List CF := [⟨.leq, (.var 0), (.lit 18446744073709551615), true⟩,
  ⟨.neq, (.bin .rem .u64 (.bin .quo .u64 (.bin .rem .u64 (.var 0) (.lit 4294967296)) (.lit 8388608)) (.lit 256)), (.lit 255), true⟩,
  ⟨.neq, (.bin .rem .u64 (.var 0) (.lit 4294967296)), (.lit 2147483648), true⟩,
  ⟨.neq, (.bin .rem .u64 (.bin .quo .u64 (.bin .quo .u64 (.var 0) (.lit 4294967296)) (.lit 8388608)) (.lit 256)), (.lit 255), true⟩,
  ⟨.neq, (.bin .quo .u64 (.var 0) (.lit 4294967296)), (.lit 2147483648), true⟩,
  ⟨.eql, (.sh .shr .u64 (.var 0) (.lit 64)), (.lit 0), true⟩,
  ⟨.neq, (.bin .and .u32 (.cv .u32 (.var 0)) (.lit 2139095040)), (.lit 2139095040), true⟩,
  ⟨.neq, (.cv .u32 (.var 0)), (.lit 2147483648), true⟩,
  ⟨.neq, (.bin .and .u32 (.cv .u32 (.sh .shr .u64 (.var 0) (.lit 32))) (.lit 2139095040)), (.lit 2139095040), true⟩,
  ⟨.neq, (.cv .u32 (.sh .shr .u64 (.var 0) (.lit 32))), (.lit 2147483648), true⟩]
theorem ok_c64ok (b : Int) (hb0 : 0 ≤ b) (hb1 : b < 18446744073709551616) (h0 : (b % 4294967296) / 8388608 % 256 ≠ 255) (h1 : (b % 4294967296) ≠ 2147483648) (h2 : (b / 4294967296) / 8388608 % 256 ≠ 255) (h3 : (b / 4294967296) ≠ 2147483648) : ∀ f ∈ L_c64ok, f.ok (rho b 0 10 0 0 0) := by
  intro f hf
  simp only [L_c64ok, List.mem_cons, List.not_mem_nil, or_false] at hf
  rcases hf with rfl | rfl | rfl | rfl | rfl | rfl | rfl | rfl | rfl | rfl
  · exact ⟨rfl, cmp_leq_t (by simp (disch := omega) only [IE.ev, rho_0] <;> omega)⟩
  · exact ⟨rfl, cmp_neq_t (by simp (disch := omega) only [IE.ev, rho_0, quo_u64, rem_u64] <;> omega)⟩
  · exact ⟨rfl, cmp_neq_t (by simp (disch := omega) only [IE.ev, rho_0, rem_u64] <;> omega)⟩
  · exact ⟨rfl, cmp_neq_t (by simp (disch := omega) only [IE.ev, rho_0, quo_u64, rem_u64] <;> omega)⟩
  · exact ⟨rfl, cmp_neq_t (by simp (disch := omega) only [IE.ev, rho_0, quo_u64] <;> omega)⟩
  · exact ⟨rfl, cmp_eql_t (by simp (disch := omega) only [IE.ev, rho_0, shr_u64_64] <;> omega)⟩
  · exact ⟨rfl, cmp_neq_t (by simp (disch := omega) only [IE.ev, rho_0, and_u32_exp, wrap_u32] <;> omega)⟩
  · exact ⟨rfl, cmp_neq_t (by simp (disch := omega) only [IE.ev, rho_0, wrap_u32] <;> omega)⟩
  · exact ⟨rfl, cmp_neq_t (by simp (disch := omega) only [IE.ev, rho_0, and_u32_exp, shr_u64_32, wrap_u32] <;> omega)⟩
  · exact ⟨rfl, cmp_neq_t (by simp (disch := omega) only [IE.ev, rho_0, shr_u64_32, wrap_u32] <;> omega)⟩
def J_c64ok : List SEntry := [(5, [.agg [.v (.int .i64 10), .sym (.int .u64 (.var 0))]], .v (.int .i64 0)),
  (6, [.agg [.v (.int .i64 10), .sym (.int .u64 (.var 0))]], .v (.tuple #[.float .f32 0, .int .i64 12])),
  (7, [.agg [.v (.int .i64 10), .sym (.int .u64 (.var 0))]], .tuple [.sym (.nm 20), .v (.int .i64 0)])]
theorem run_c64ok (W : Nat → Nat) (C : Nat → Nat × Nat) (ρ : Nat → Int) (aR aS : Addr) : J_c64ok.map (fun e => (@call (E W C ρ L_c64ok T_c) Tryz.prog (glob aR aS) (tabS noU) 300 60 (.fn e.1) e.2.1 []).map fun r => nrm r.1) = J_c64ok.map fun e => some e.2.2 := by kernel_rfl
theorem v_c64ok (aR aS : Addr) (b : Int) (hb0 : 0 ≤ b) (hb1 : b < 18446744073709551616) (h0 : (b % 4294967296) / 8388608 % 256 ≠ 255) (h1 : (b % 4294967296) ≠ 2147483648) (h2 : (b / 4294967296) / 8388608 % 256 ≠ 255) (h3 : (b / 4294967296) ≠ 2147483648) : VF aR aS 10 b 0 (.float .f32 0) 12 (.complex .f32 (b % 4294967296).toNat (b / 4294967296).toNat) 0 := fun _ hG =>
  ⟨calls_symF (W := (W2 (b % 4294967296).toNat (b / 4294967296).toNat)) (C := (C1 (b % 4294967296).toNat (b / 4294967296).toNat)) (ρ := rho b 0 10 0 0 0) (ok_c64ok b hb0 hb1 h0 h1 h2 h3) (xf_c hb0 hb1) (noU_ok aR aS) (run_c64ok _ _ _ aR aS) List.mem_cons_self rfl rfl rfl rfl hG,
  calls_symF (W := (W2 (b % 4294967296).toNat (b / 4294967296).toNat)) (C := (C1 (b % 4294967296).toNat (b / 4294967296).toNat)) (ρ := rho b 0 10 0 0 0) (ok_c64ok b hb0 hb1 h0 h1 h2 h3) (xf_c hb0 hb1) (noU_ok aR aS) (run_c64ok _ _ _ aR aS) (List.mem_cons_of_mem _ List.mem_cons_self) rfl rfl rfl rfl hG,
  calls_symF (W := (W2 (b % 4294967296).toNat (b / 4294967296).toNat)) (C := (C1 (b % 4294967296).toNat (b / 4294967296).toNat)) (ρ := rho b 0 10 0 0 0) (ok_c64ok b hb0 hb1 h0 h1 h2 h3) (xf_c hb0 hb1) (noU_ok aR aS) (run_c64ok _ _ _ aR aS) (List.mem_cons_of_mem _ (List.mem_cons_of_mem _ List.mem_cons_self)) rfl rfl rfl rfl hG⟩
end
end Go.Proofs.YtiomdkghnbbmcaaGreatDoor
