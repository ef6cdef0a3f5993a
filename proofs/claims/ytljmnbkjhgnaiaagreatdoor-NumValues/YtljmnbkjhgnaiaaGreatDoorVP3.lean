import Derived.Test.YtljmnbkjhgnaiaaGreatDoorVA
namespace Go.Proofs.YtljmnbkjhgnaiaaGreatDoor
noncomputable section
open Go Go.RX
open Go.RowKit (Below)
set_option maxRecDepth 1000000
def L_u8bad : List CF := [⟨.leq, (.var 0), (.lit 255), false⟩,
  ⟨.eql, (.sh .shr .u64 (.var 0) (.lit 8)), (.lit 0), false⟩]
theorem ok_u8bad (b : Int) (hb0 : 0 ≤ b) (hb1 : b < 18446744073709551616) (h0 : 255 < b) : ∀ f ∈ L_u8bad, f.ok (rho b 0 1 0 0 0) := by
  intro f hf
  simp only [L_u8bad, List.mem_cons, List.not_mem_nil, or_false] at hf
  rcases hf with rfl | rfl
  · exact ⟨rfl, cmp_leq_f (by simp (disch := omega) only [IE.ev, rho_0] <;> omega)⟩
  · exact ⟨rfl, cmp_eql_f (by simp (disch := omega) only [IE.ev, rho_0, shr_u64_8] <;> omega)⟩
def J_u8bad : List SEntry := [(5, [.agg [.v (.int .i64 1), .sym (.int .u64 (.var 0))]], .v (.int .i64 1)),
  (8, [.agg [.v (.int .i64 1), .sym (.int .u64 (.var 0))]], .v (.int .i64 1)),
  (6, [.agg [.v (.int .i64 1), .sym (.int .u64 (.var 0))]], .v (.tuple #[.int .i64 0, .int .i64 1]))]
theorem run_u8bad (ρ : Nat → Int) (aR aS : Addr) : J_u8bad.map (fun e => (@call (E ρ L_u8bad) Tryz.prog (glob aR aS) noO 300 60 (.fn e.1) e.2.1 []).map fun r => nrm r.1) = J_u8bad.map fun e => some e.2.2 := by kernel_rfl
theorem v_u8bad (aR aS : Addr) (b : Int) (hb0 : 0 ≤ b) (hb1 : b < 18446744073709551616) (h0 : 255 < b) : VIs aR aS 1 b 1 1 0 := by
  have hL := ok_u8bad b hb0 hb1 h0
  intro w hG
  refine ⟨calls_sym hL (noO_ok _ _ aR aS) (run_u8bad _ aR aS) List.mem_cons_self rfl rfl rfl rfl hG, calls_sym hL (noO_ok _ _ aR aS) (run_u8bad _ aR aS) (List.mem_cons_of_mem _ List.mem_cons_self) rfl rfl rfl rfl hG, calls_sym hL (noO_ok _ _ aR aS) (run_u8bad _ aR aS) (List.mem_cons_of_mem _ (List.mem_cons_of_mem _ List.mem_cons_self)) rfl rfl rfl rfl hG, ?_⟩
  intro h
  exact absurd h (by decide)
def L_u32bad : List CF := [⟨.leq, (.var 0), (.lit 4294967295), false⟩,
  ⟨.eql, (.sh .shr .u64 (.var 0) (.lit 32)), (.lit 0), false⟩]
theorem ok_u32bad (b : Int) (hb0 : 0 ≤ b) (hb1 : b < 18446744073709551616) (h0 : 4294967295 < b) : ∀ f ∈ L_u32bad, f.ok (rho b 0 3 0 0 0) := by
  intro f hf
  simp only [L_u32bad, List.mem_cons, List.not_mem_nil, or_false] at hf
  rcases hf with rfl | rfl
  · exact ⟨rfl, cmp_leq_f (by simp (disch := omega) only [IE.ev, rho_0] <;> omega)⟩
  · exact ⟨rfl, cmp_eql_f (by simp (disch := omega) only [IE.ev, rho_0, shr_u64_32] <;> omega)⟩
def J_u32bad : List SEntry := [(5, [.agg [.v (.int .i64 3), .sym (.int .u64 (.var 0))]], .v (.int .i64 1)),
  (8, [.agg [.v (.int .i64 3), .sym (.int .u64 (.var 0))]], .v (.int .i64 1)),
  (6, [.agg [.v (.int .i64 3), .sym (.int .u64 (.var 0))]], .v (.tuple #[.int .i64 0, .int .i64 1]))]
theorem run_u32bad (ρ : Nat → Int) (aR aS : Addr) : J_u32bad.map (fun e => (@call (E ρ L_u32bad) Tryz.prog (glob aR aS) noO 300 60 (.fn e.1) e.2.1 []).map fun r => nrm r.1) = J_u32bad.map fun e => some e.2.2 := by kernel_rfl
theorem v_u32bad (aR aS : Addr) (b : Int) (hb0 : 0 ≤ b) (hb1 : b < 18446744073709551616) (h0 : 4294967295 < b) : VIs aR aS 3 b 1 1 0 := by
  have hL := ok_u32bad b hb0 hb1 h0
  intro w hG
  refine ⟨calls_sym hL (noO_ok _ _ aR aS) (run_u32bad _ aR aS) List.mem_cons_self rfl rfl rfl rfl hG, calls_sym hL (noO_ok _ _ aR aS) (run_u32bad _ aR aS) (List.mem_cons_of_mem _ List.mem_cons_self) rfl rfl rfl rfl hG, calls_sym hL (noO_ok _ _ aR aS) (run_u32bad _ aR aS) (List.mem_cons_of_mem _ (List.mem_cons_of_mem _ List.mem_cons_self)) rfl rfl rfl rfl hG, ?_⟩
  intro h
  exact absurd h (by decide)
def L_i8neg : List CF := [⟨.leq, (.var 0), (.lit 255), true⟩,
  ⟨.eql, (.sh .shr .u64 (.var 0) (.lit 8)), (.lit 0), true⟩,
  ⟨.neq, (.lit 0), (.cv .u64 (.sh .shr .i64 (.sh .shr .i64 (.cv .i64 (.sh .shl .u64 (.var 0) (.lit 56))) (.lit 56)) (.lit 63))), true⟩,
  ⟨.lss, (.lit 0), (.cv .i64 (.cv .u64 (.sh .shr .i64 (.sh .shr .i64 (.cv .i64 (.sh .shl .u64 (.var 0) (.lit 56))) (.lit 56)) (.lit 63)))), false⟩,
  ⟨.gtr, (.var 0), (.lit 127), true⟩]
theorem ok_i8neg (b : Int) (hb0 : 0 ≤ b) (hb1 : b < 18446744073709551616) (h0 : 127 < b) (h1 : b ≤ 255) : ∀ f ∈ L_i8neg, f.ok (rho b 0 5 0 0 0) := by
  intro f hf
  simp only [L_i8neg, List.mem_cons, List.not_mem_nil, or_false] at hf
  rcases hf with rfl | rfl | rfl | rfl | rfl
  · exact ⟨rfl, cmp_leq_t (by simp (disch := omega) only [IE.ev, rho_0] <;> omega)⟩
  · exact ⟨rfl, cmp_eql_t (by simp (disch := omega) only [IE.ev, rho_0, shr_u64_8] <;> omega)⟩
  · exact ⟨rfl, cmp_neq_t (by simp (disch := omega) only [IE.ev, rho_0, shl_u64_56, shr_i64_56, shr_i64_63, wrap_i64, wrap_u64] <;> omega)⟩
  · exact ⟨rfl, cmp_lss_f (by simp (disch := omega) only [IE.ev, rho_0, shl_u64_56, shr_i64_56, shr_i64_63, wrap_i64, wrap_u64] <;> omega)⟩
  · exact ⟨rfl, cmp_gtr_t (by simp (disch := omega) only [IE.ev, rho_0] <;> omega)⟩
def J_i8neg : List SEntry := [(5, [.agg [.v (.int .i64 5), .sym (.int .u64 (.var 0))]], .v (.int .i64 0)),
  (8, [.agg [.v (.int .i64 5), .sym (.int .u64 (.var 0))]], .v (.int .i64 0)),
  (6, [.agg [.v (.int .i64 5), .sym (.int .u64 (.var 0))]], .tuple [.sym (.int .i64 (.cv .i64 (.cv .u64 (.sh .shr .i64 (.cv .i64 (.sh .shl .u64 (.var 0) (.lit 56))) (.lit 56))))), .v (.int .i64 0)]),
  (7, [.agg [.v (.int .i64 5), .sym (.int .u64 (.var 0))]], .tuple [.sym (.int .i64 (.cv .i64 (.bin .or .u64 (.var 0) (.lit 18446744073709551360)))), .v (.int .i64 0)])]
theorem run_i8neg (ρ : Nat → Int) (aR aS : Addr) : J_i8neg.map (fun e => (@call (E ρ L_i8neg) Tryz.prog (glob aR aS) noO 300 60 (.fn e.1) e.2.1 []).map fun r => nrm r.1) = J_i8neg.map fun e => some e.2.2 := by kernel_rfl
theorem v_i8neg (aR aS : Addr) (b : Int) (hb0 : 0 ≤ b) (hb1 : b < 18446744073709551616) (h0 : 127 < b) (h1 : b ≤ 255) : VIs aR aS 5 b 0 0 (IE.ev (rho b 0 5 0 0 0) (.cv .i64 (.cv .u64 (.sh .shr .i64 (.cv .i64 (.sh .shl .u64 (.var 0) (.lit 56))) (.lit 56))))) := by
  have hL := ok_i8neg b hb0 hb1 h0 h1
  have hK : IE.ev (rho b 0 5 0 0 0) (.cv .i64 (.bin .or .u64 (.var 0) (.lit 18446744073709551360))) = IE.ev (rho b 0 5 0 0 0) (.cv .i64 (.cv .u64 (.sh .shr .i64 (.cv .i64 (.sh .shl .u64 (.var 0) (.lit 56))) (.lit 56)))) := by simp (disch := omega) only [IE.ev, rho_0, or_u64_8, shl_u64_56, shr_i64_56, wrap_i64, wrap_u64] <;> omega
  intro w hG
  refine ⟨calls_sym hL (noO_ok _ _ aR aS) (run_i8neg _ aR aS) List.mem_cons_self rfl rfl rfl rfl hG, calls_sym hL (noO_ok _ _ aR aS) (run_i8neg _ aR aS) (List.mem_cons_of_mem _ List.mem_cons_self) rfl rfl rfl rfl hG, calls_sym hL (noO_ok _ _ aR aS) (run_i8neg _ aR aS) (List.mem_cons_of_mem _ (List.mem_cons_of_mem _ List.mem_cons_self)) rfl rfl rfl rfl hG, ?_⟩
  intro _
  rw [← hK]
  exact calls_sym hL (noO_ok _ _ aR aS) (run_i8neg _ aR aS) (List.mem_cons_of_mem _ (List.mem_cons_of_mem _ (List.mem_cons_of_mem _ List.mem_cons_self))) rfl rfl rfl rfl hG
def L_i16bad : List CF := [⟨.leq, (.var 0), (.lit 65535), false⟩,
  ⟨.eql, (.sh .shr .u64 (.var 0) (.lit 16)), (.lit 0), false⟩]
theorem ok_i16bad (b : Int) (hb0 : 0 ≤ b) (hb1 : b < 18446744073709551616) (h0 : 65535 < b) : ∀ f ∈ L_i16bad, f.ok (rho b 0 6 0 0 0) := by
  intro f hf
  simp only [L_i16bad, List.mem_cons, List.not_mem_nil, or_false] at hf
  rcases hf with rfl | rfl
  · exact ⟨rfl, cmp_leq_f (by simp (disch := omega) only [IE.ev, rho_0] <;> omega)⟩
  · exact ⟨rfl, cmp_eql_f (by simp (disch := omega) only [IE.ev, rho_0, shr_u64_16] <;> omega)⟩
def J_i16bad : List SEntry := [(5, [.agg [.v (.int .i64 6), .sym (.int .u64 (.var 0))]], .v (.int .i64 1)),
  (8, [.agg [.v (.int .i64 6), .sym (.int .u64 (.var 0))]], .v (.int .i64 1)),
  (6, [.agg [.v (.int .i64 6), .sym (.int .u64 (.var 0))]], .v (.tuple #[.int .i64 0, .int .i64 1]))]
theorem run_i16bad (ρ : Nat → Int) (aR aS : Addr) : J_i16bad.map (fun e => (@call (E ρ L_i16bad) Tryz.prog (glob aR aS) noO 300 60 (.fn e.1) e.2.1 []).map fun r => nrm r.1) = J_i16bad.map fun e => some e.2.2 := by kernel_rfl
theorem v_i16bad (aR aS : Addr) (b : Int) (hb0 : 0 ≤ b) (hb1 : b < 18446744073709551616) (h0 : 65535 < b) : VIs aR aS 6 b 1 1 0 := by
  have hL := ok_i16bad b hb0 hb1 h0
  intro w hG
  refine ⟨calls_sym hL (noO_ok _ _ aR aS) (run_i16bad _ aR aS) List.mem_cons_self rfl rfl rfl rfl hG, calls_sym hL (noO_ok _ _ aR aS) (run_i16bad _ aR aS) (List.mem_cons_of_mem _ List.mem_cons_self) rfl rfl rfl rfl hG, calls_sym hL (noO_ok _ _ aR aS) (run_i16bad _ aR aS) (List.mem_cons_of_mem _ (List.mem_cons_of_mem _ List.mem_cons_self)) rfl rfl rfl rfl hG, ?_⟩
  intro h
  exact absurd h (by decide)
def L_i64pos : List CF := [⟨.leq, (.var 0), (.lit 18446744073709551615), true⟩,
  ⟨.eql, (.sh .shr .u64 (.var 0) (.lit 64)), (.lit 0), true⟩,
  ⟨.neq, (.lit 0), (.cv .u64 (.sh .shr .i64 (.sh .shr .i64 (.cv .i64 (.sh .shl .u64 (.var 0) (.lit 0))) (.lit 0)) (.lit 63))), false⟩,
  ⟨.lss, (.lit 9223372036854775807), (.cv .u64 (.sh .shr .i64 (.cv .i64 (.sh .shl .u64 (.var 0) (.lit 0))) (.lit 0))), false⟩,
  ⟨.gtr, (.var 0), (.lit 9223372036854775807), false⟩]
theorem ok_i64pos (b : Int) (hb0 : 0 ≤ b) (hb1 : b < 18446744073709551616) (h0 : b ≤ 9223372036854775807) : ∀ f ∈ L_i64pos, f.ok (rho b 0 8 0 0 0) := by
  intro f hf
  simp only [L_i64pos, List.mem_cons, List.not_mem_nil, or_false] at hf
  rcases hf with rfl | rfl | rfl | rfl | rfl
  · exact ⟨rfl, cmp_leq_t (by simp (disch := omega) only [IE.ev, rho_0] <;> omega)⟩
  · exact ⟨rfl, cmp_eql_t (by simp (disch := omega) only [IE.ev, rho_0, shr_u64_64] <;> omega)⟩
  · exact ⟨rfl, cmp_neq_f (by simp (disch := omega) only [IE.ev, rho_0, shl_u64_0, shr_i64_0, shr_i64_63, wrap_i64, wrap_u64] <;> omega)⟩
  · exact ⟨rfl, cmp_lss_f (by simp (disch := omega) only [IE.ev, rho_0, shl_u64_0, shr_i64_0, wrap_i64, wrap_u64] <;> omega)⟩
  · exact ⟨rfl, cmp_gtr_f (by simp (disch := omega) only [IE.ev, rho_0] <;> omega)⟩
def J_i64pos : List SEntry := [(5, [.agg [.v (.int .i64 8), .sym (.int .u64 (.var 0))]], .v (.int .i64 0)),
  (8, [.agg [.v (.int .i64 8), .sym (.int .u64 (.var 0))]], .v (.int .i64 0)),
  (6, [.agg [.v (.int .i64 8), .sym (.int .u64 (.var 0))]], .tuple [.sym (.int .i64 (.cv .i64 (.cv .u64 (.sh .shr .i64 (.cv .i64 (.sh .shl .u64 (.var 0) (.lit 0))) (.lit 0))))), .v (.int .i64 0)]),
  (7, [.agg [.v (.int .i64 8), .sym (.int .u64 (.var 0))]], .tuple [.sym (.int .i64 (.cv .i64 (.var 0))), .v (.int .i64 0)])]
theorem run_i64pos (ρ : Nat → Int) (aR aS : Addr) : J_i64pos.map (fun e => (@call (E ρ L_i64pos) Tryz.prog (glob aR aS) noO 300 60 (.fn e.1) e.2.1 []).map fun r => nrm r.1) = J_i64pos.map fun e => some e.2.2 := by kernel_rfl
theorem v_i64pos (aR aS : Addr) (b : Int) (hb0 : 0 ≤ b) (hb1 : b < 18446744073709551616) (h0 : b ≤ 9223372036854775807) : VIs aR aS 8 b 0 0 (IE.ev (rho b 0 8 0 0 0) (.cv .i64 (.cv .u64 (.sh .shr .i64 (.cv .i64 (.sh .shl .u64 (.var 0) (.lit 0))) (.lit 0))))) := by
  have hL := ok_i64pos b hb0 hb1 h0
  have hK : IE.ev (rho b 0 8 0 0 0) (.cv .i64 (.var 0)) = IE.ev (rho b 0 8 0 0 0) (.cv .i64 (.cv .u64 (.sh .shr .i64 (.cv .i64 (.sh .shl .u64 (.var 0) (.lit 0))) (.lit 0)))) := by simp (disch := omega) only [IE.ev, rho_0, shl_u64_0, shr_i64_0, wrap_i64, wrap_u64] <;> omega
  intro w hG
  refine ⟨calls_sym hL (noO_ok _ _ aR aS) (run_i64pos _ aR aS) List.mem_cons_self rfl rfl rfl rfl hG, calls_sym hL (noO_ok _ _ aR aS) (run_i64pos _ aR aS) (List.mem_cons_of_mem _ List.mem_cons_self) rfl rfl rfl rfl hG, calls_sym hL (noO_ok _ _ aR aS) (run_i64pos _ aR aS) (List.mem_cons_of_mem _ (List.mem_cons_of_mem _ List.mem_cons_self)) rfl rfl rfl rfl hG, ?_⟩
  intro _
  rw [← hK]
  exact calls_sym hL (noO_ok _ _ aR aS) (run_i64pos _ aR aS) (List.mem_cons_of_mem _ (List.mem_cons_of_mem _ (List.mem_cons_of_mem _ List.mem_cons_self))) rfl rfl rfl rfl hG
def L_f32zero : List CF := [⟨.leq, (.var 0), (.lit 4294967295), true⟩,
  ⟨.neq, (.bin .rem .u64 (.bin .quo .u64 (.var 0) (.lit 8388608)) (.lit 256)), (.lit 255), true⟩,
  ⟨.neq, (.var 0), (.lit 2147483648), false⟩,
  ⟨.eql, (.sh .shr .u64 (.var 0) (.lit 32)), (.lit 0), true⟩,
  ⟨.neq, (.bin .and .u32 (.cv .u32 (.var 0)) (.lit 2139095040)), (.lit 2139095040), true⟩,
  ⟨.neq, (.cv .u32 (.var 0)), (.lit 2147483648), false⟩]
theorem ok_f32zero (b : Int) (hb0 : 0 ≤ b) (hb1 : b < 18446744073709551616) (h0 : b = 2147483648) : ∀ f ∈ L_f32zero, f.ok (rho b 0 9 0 0 0) := by
  intro f hf
  simp only [L_f32zero, List.mem_cons, List.not_mem_nil, or_false] at hf
  rcases hf with rfl | rfl | rfl | rfl | rfl | rfl
  · exact ⟨rfl, cmp_leq_t (by simp (disch := omega) only [IE.ev, rho_0] <;> omega)⟩
  · exact ⟨rfl, cmp_neq_t (by simp (disch := omega) only [IE.ev, rho_0, quo_u64, rem_u64] <;> omega)⟩
  · exact ⟨rfl, cmp_neq_f (by simp (disch := omega) only [IE.ev, rho_0] <;> omega)⟩
  · exact ⟨rfl, cmp_eql_t (by simp (disch := omega) only [IE.ev, rho_0, shr_u64_32] <;> omega)⟩
  · exact ⟨rfl, cmp_neq_t (by simp (disch := omega) only [IE.ev, rho_0, and_u32_exp, wrap_u32] <;> omega)⟩
  · exact ⟨rfl, cmp_neq_f (by simp (disch := omega) only [IE.ev, rho_0, wrap_u32] <;> omega)⟩
def J_f32zero : List SEntry := [(5, [.agg [.v (.int .i64 9), .sym (.int .u64 (.var 0))]], .v (.int .i64 1)),
  (8, [.agg [.v (.int .i64 9), .sym (.int .u64 (.var 0))]], .v (.int .i64 1)),
  (6, [.agg [.v (.int .i64 9), .sym (.int .u64 (.var 0))]], .v (.tuple #[.int .i64 0, .int .i64 1]))]
theorem run_f32zero (ρ : Nat → Int) (aR aS : Addr) : J_f32zero.map (fun e => (@call (E ρ L_f32zero) Tryz.prog (glob aR aS) noO 300 60 (.fn e.1) e.2.1 []).map fun r => nrm r.1) = J_f32zero.map fun e => some e.2.2 := by kernel_rfl
theorem v_f32zero (aR aS : Addr) (b : Int) (hb0 : 0 ≤ b) (hb1 : b < 18446744073709551616) (h0 : b = 2147483648) : VIs aR aS 9 b 1 1 0 := by
  have hL := ok_f32zero b hb0 hb1 h0
  intro w hG
  refine ⟨calls_sym hL (noO_ok _ _ aR aS) (run_f32zero _ aR aS) List.mem_cons_self rfl rfl rfl rfl hG, calls_sym hL (noO_ok _ _ aR aS) (run_f32zero _ aR aS) (List.mem_cons_of_mem _ List.mem_cons_self) rfl rfl rfl rfl hG, calls_sym hL (noO_ok _ _ aR aS) (run_f32zero _ aR aS) (List.mem_cons_of_mem _ (List.mem_cons_of_mem _ List.mem_cons_self)) rfl rfl rfl rfl hG, ?_⟩
  intro h
  exact absurd h (by decide)
def L_c64hiexp : List CF := [⟨.leq, (.var 0), (.lit 18446744073709551615), true⟩,
  ⟨.neq, (.bin .rem .u64 (.bin .quo .u64 (.bin .rem .u64 (.var 0) (.lit 4294967296)) (.lit 8388608)) (.lit 256)), (.lit 255), true⟩,
  ⟨.neq, (.bin .rem .u64 (.var 0) (.lit 4294967296)), (.lit 2147483648), true⟩,
  ⟨.neq, (.bin .rem .u64 (.bin .quo .u64 (.bin .quo .u64 (.var 0) (.lit 4294967296)) (.lit 8388608)) (.lit 256)), (.lit 255), false⟩,
  ⟨.eql, (.sh .shr .u64 (.var 0) (.lit 64)), (.lit 0), true⟩,
  ⟨.neq, (.bin .and .u32 (.cv .u32 (.var 0)) (.lit 2139095040)), (.lit 2139095040), true⟩,
  ⟨.neq, (.cv .u32 (.var 0)), (.lit 2147483648), true⟩,
  ⟨.neq, (.bin .and .u32 (.cv .u32 (.sh .shr .u64 (.var 0) (.lit 32))) (.lit 2139095040)), (.lit 2139095040), false⟩]
theorem ok_c64hiexp (b : Int) (hb0 : 0 ≤ b) (hb1 : b < 18446744073709551616) (h0 : (b % 4294967296) / 8388608 % 256 ≠ 255) (h1 : (b % 4294967296) ≠ 2147483648) (h2 : (b / 4294967296) / 8388608 % 256 = 255) : ∀ f ∈ L_c64hiexp, f.ok (rho b 0 10 0 0 0) := by
  intro f hf
  simp only [L_c64hiexp, List.mem_cons, List.not_mem_nil, or_false] at hf
  rcases hf with rfl | rfl | rfl | rfl | rfl | rfl | rfl | rfl
  · exact ⟨rfl, cmp_leq_t (by simp (disch := omega) only [IE.ev, rho_0] <;> omega)⟩
  · exact ⟨rfl, cmp_neq_t (by simp (disch := omega) only [IE.ev, rho_0, quo_u64, rem_u64] <;> omega)⟩
  · exact ⟨rfl, cmp_neq_t (by simp (disch := omega) only [IE.ev, rho_0, rem_u64] <;> omega)⟩
  · exact ⟨rfl, cmp_neq_f (by simp (disch := omega) only [IE.ev, rho_0, quo_u64, rem_u64] <;> omega)⟩
  · exact ⟨rfl, cmp_eql_t (by simp (disch := omega) only [IE.ev, rho_0, shr_u64_64] <;> omega)⟩
  · exact ⟨rfl, cmp_neq_t (by simp (disch := omega) only [IE.ev, rho_0, and_u32_exp, wrap_u32] <;> omega)⟩
  · exact ⟨rfl, cmp_neq_t (by simp (disch := omega) only [IE.ev, rho_0, wrap_u32] <;> omega)⟩
  · exact ⟨rfl, cmp_neq_f (by simp (disch := omega) only [IE.ev, rho_0, and_u32_exp, shr_u64_32, wrap_u32] <;> omega)⟩
def J_c64hiexp : List SEntry := [(5, [.agg [.v (.int .i64 10), .sym (.int .u64 (.var 0))]], .v (.int .i64 1)),
  (8, [.agg [.v (.int .i64 10), .sym (.int .u64 (.var 0))]], .v (.int .i64 1)),
  (6, [.agg [.v (.int .i64 10), .sym (.int .u64 (.var 0))]], .v (.tuple #[.int .i64 0, .int .i64 1]))]
theorem run_c64hiexp (ρ : Nat → Int) (aR aS : Addr) : J_c64hiexp.map (fun e => (@call (E ρ L_c64hiexp) Tryz.prog (glob aR aS) noO 300 60 (.fn e.1) e.2.1 []).map fun r => nrm r.1) = J_c64hiexp.map fun e => some e.2.2 := by kernel_rfl
theorem v_c64hiexp (aR aS : Addr) (b : Int) (hb0 : 0 ≤ b) (hb1 : b < 18446744073709551616) (h0 : (b % 4294967296) / 8388608 % 256 ≠ 255) (h1 : (b % 4294967296) ≠ 2147483648) (h2 : (b / 4294967296) / 8388608 % 256 = 255) : VIs aR aS 10 b 1 1 0 := by
  have hL := ok_c64hiexp b hb0 hb1 h0 h1 h2
  intro w hG
  refine ⟨calls_sym hL (noO_ok _ _ aR aS) (run_c64hiexp _ aR aS) List.mem_cons_self rfl rfl rfl rfl hG, calls_sym hL (noO_ok _ _ aR aS) (run_c64hiexp _ aR aS) (List.mem_cons_of_mem _ List.mem_cons_self) rfl rfl rfl rfl hG, calls_sym hL (noO_ok _ _ aR aS) (run_c64hiexp _ aR aS) (List.mem_cons_of_mem _ (List.mem_cons_of_mem _ List.mem_cons_self)) rfl rfl rfl rfl hG, ?_⟩
  intro h
  exact absurd h (by decide)
def L_neg : List CF := [⟨.lss, (.var 2), (.lit 0), true⟩]
theorem ok_neg (b vk : Int) (h0 : vk < 0) : ∀ f ∈ L_neg, f.ok (rho b 0 vk 0 0 0) := by
  intro f hf
  simp only [L_neg, List.mem_cons, List.not_mem_nil, or_false] at hf
  subst hf
  · exact ⟨rfl, cmp_lss_t (by simp (disch := omega) only [IE.ev, rho_2] <;> omega)⟩
def J_neg : List SEntry := [(5, [.agg [.sym (.int .i64 (.var 2)), .sym (.int .u64 (.var 0))]], .v (.int .i64 11)),
  (8, [.agg [.sym (.int .i64 (.var 2)), .sym (.int .u64 (.var 0))]], .v (.int .i64 11)),
  (6, [.agg [.sym (.int .i64 (.var 2)), .sym (.int .u64 (.var 0))]], .v (.tuple #[.int .i64 0, .int .i64 11]))]
theorem run_neg (ρ : Nat → Int) (aR aS : Addr) : J_neg.map (fun e => (@call (E ρ L_neg) Tryz.prog (glob aR aS) noO 300 60 (.fn e.1) e.2.1 []).map fun r => nrm r.1) = J_neg.map fun e => some e.2.2 := by kernel_rfl
theorem v_neg (aR aS : Addr) (b vk : Int) (h0 : vk < 0) : VIs aR aS vk b 11 11 0 := by
  have hL := ok_neg b vk h0
  intro w hG
  refine ⟨calls_sym hL (noO_ok _ _ aR aS) (run_neg _ aR aS) List.mem_cons_self rfl rfl rfl rfl hG, calls_sym hL (noO_ok _ _ aR aS) (run_neg _ aR aS) (List.mem_cons_of_mem _ List.mem_cons_self) rfl rfl rfl rfl hG, calls_sym hL (noO_ok _ _ aR aS) (run_neg _ aR aS) (List.mem_cons_of_mem _ (List.mem_cons_of_mem _ List.mem_cons_self)) rfl rfl rfl rfl hG, ?_⟩
  intro h
  exact absurd h (by decide)
def L_big : List CF := [⟨.lss, (.var 2), (.lit 0), false⟩,
  ⟨.geq, (.var 2), (.lit 11), true⟩]
theorem ok_big (b vk : Int) (h0 : 11 ≤ vk) : ∀ f ∈ L_big, f.ok (rho b 0 vk 0 0 0) := by
  intro f hf
  simp only [L_big, List.mem_cons, List.not_mem_nil, or_false] at hf
  rcases hf with rfl | rfl
  · exact ⟨rfl, cmp_lss_f (by simp (disch := omega) only [IE.ev, rho_2] <;> omega)⟩
  · exact ⟨rfl, cmp_geq_t (by simp (disch := omega) only [IE.ev, rho_2] <;> omega)⟩
def J_big : List SEntry := [(5, [.agg [.sym (.int .i64 (.var 2)), .sym (.int .u64 (.var 0))]], .v (.int .i64 11)),
  (8, [.agg [.sym (.int .i64 (.var 2)), .sym (.int .u64 (.var 0))]], .v (.int .i64 11)),
  (6, [.agg [.sym (.int .i64 (.var 2)), .sym (.int .u64 (.var 0))]], .v (.tuple #[.int .i64 0, .int .i64 11]))]
theorem run_big (ρ : Nat → Int) (aR aS : Addr) : J_big.map (fun e => (@call (E ρ L_big) Tryz.prog (glob aR aS) noO 300 60 (.fn e.1) e.2.1 []).map fun r => nrm r.1) = J_big.map fun e => some e.2.2 := by kernel_rfl
theorem v_big (aR aS : Addr) (b vk : Int) (h0 : 11 ≤ vk) : VIs aR aS vk b 11 11 0 := by
  have hL := ok_big b vk h0
  intro w hG
  refine ⟨calls_sym hL (noO_ok _ _ aR aS) (run_big _ aR aS) List.mem_cons_self rfl rfl rfl rfl hG, calls_sym hL (noO_ok _ _ aR aS) (run_big _ aR aS) (List.mem_cons_of_mem _ List.mem_cons_self) rfl rfl rfl rfl hG, calls_sym hL (noO_ok _ _ aR aS) (run_big _ aR aS) (List.mem_cons_of_mem _ (List.mem_cons_of_mem _ List.mem_cons_self)) rfl rfl rfl rfl hG, ?_⟩
  intro h
  exact absurd h (by decide)
end
end Go.Proofs.YtljmnbkjhgnaiaaGreatDoor
