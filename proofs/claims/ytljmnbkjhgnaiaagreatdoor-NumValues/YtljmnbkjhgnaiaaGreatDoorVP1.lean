import Derived.Test.YtljmnbkjhgnaiaaGreatDoorVA
namespace Go.Proofs.YtljmnbkjhgnaiaaGreatDoor
noncomputable section
open Go Go.RX
open Go.RowKit (Below)
set_option maxRecDepth 1000000
def L_bool1 : List CF := [⟨.leq, (.var 0), (.lit 1), false⟩,
  ⟨.eql, (.sh .shr .u64 (.var 0) (.lit 1)), (.lit 0), false⟩]
theorem ok_bool1 (b : Int) (hb0 : 0 ≤ b) (hb1 : b < 18446744073709551616) (h0 : 1 < b) : ∀ f ∈ L_bool1, f.ok (rho b 0 0 0 0 0) := by
  intro f hf
  simp only [L_bool1, List.mem_cons, List.not_mem_nil, or_false] at hf
  rcases hf with rfl | rfl
  · exact ⟨rfl, cmp_leq_f (by simp (disch := omega) only [IE.ev, rho_0] <;> omega)⟩
  · exact ⟨rfl, cmp_eql_f (by simp (disch := omega) only [IE.ev, rho_0, shr_u64_1] <;> omega)⟩
def J_bool1 : List SEntry := [(5, [.agg [.v (.int .i64 0), .sym (.int .u64 (.var 0))]], .v (.int .i64 1)),
  (8, [.agg [.v (.int .i64 0), .sym (.int .u64 (.var 0))]], .v (.int .i64 1)),
  (6, [.agg [.v (.int .i64 0), .sym (.int .u64 (.var 0))]], .v (.tuple #[.int .i64 0, .int .i64 1]))]
theorem run_bool1 (ρ : Nat → Int) (aR aS : Addr) : J_bool1.map (fun e => (@call (E ρ L_bool1) Tryz.prog (glob aR aS) noO 300 60 (.fn e.1) e.2.1 []).map fun r => nrm r.1) = J_bool1.map fun e => some e.2.2 := by kernel_rfl
theorem v_bool1 (aR aS : Addr) (b : Int) (hb0 : 0 ≤ b) (hb1 : b < 18446744073709551616) (h0 : 1 < b) : VIs aR aS 0 b 1 1 0 := by
  have hL := ok_bool1 b hb0 hb1 h0
  intro w hG
  refine ⟨calls_sym hL (noO_ok _ _ aR aS) (run_bool1 _ aR aS) List.mem_cons_self rfl rfl rfl rfl hG, calls_sym hL (noO_ok _ _ aR aS) (run_bool1 _ aR aS) (List.mem_cons_of_mem _ List.mem_cons_self) rfl rfl rfl rfl hG, calls_sym hL (noO_ok _ _ aR aS) (run_bool1 _ aR aS) (List.mem_cons_of_mem _ (List.mem_cons_of_mem _ List.mem_cons_self)) rfl rfl rfl rfl hG, ?_⟩
  intro h
  exact absurd h (by decide)
def L_u16bad : List CF := [⟨.leq, (.var 0), (.lit 65535), false⟩,
  ⟨.eql, (.sh .shr .u64 (.var 0) (.lit 16)), (.lit 0), false⟩]
theorem ok_u16bad (b : Int) (hb0 : 0 ≤ b) (hb1 : b < 18446744073709551616) (h0 : 65535 < b) : ∀ f ∈ L_u16bad, f.ok (rho b 0 2 0 0 0) := by
  intro f hf
  simp only [L_u16bad, List.mem_cons, List.not_mem_nil, or_false] at hf
  rcases hf with rfl | rfl
  · exact ⟨rfl, cmp_leq_f (by simp (disch := omega) only [IE.ev, rho_0] <;> omega)⟩
  · exact ⟨rfl, cmp_eql_f (by simp (disch := omega) only [IE.ev, rho_0, shr_u64_16] <;> omega)⟩
def J_u16bad : List SEntry := [(5, [.agg [.v (.int .i64 2), .sym (.int .u64 (.var 0))]], .v (.int .i64 1)),
  (8, [.agg [.v (.int .i64 2), .sym (.int .u64 (.var 0))]], .v (.int .i64 1)),
  (6, [.agg [.v (.int .i64 2), .sym (.int .u64 (.var 0))]], .v (.tuple #[.int .i64 0, .int .i64 1]))]
theorem run_u16bad (ρ : Nat → Int) (aR aS : Addr) : J_u16bad.map (fun e => (@call (E ρ L_u16bad) Tryz.prog (glob aR aS) noO 300 60 (.fn e.1) e.2.1 []).map fun r => nrm r.1) = J_u16bad.map fun e => some e.2.2 := by kernel_rfl
theorem v_u16bad (aR aS : Addr) (b : Int) (hb0 : 0 ≤ b) (hb1 : b < 18446744073709551616) (h0 : 65535 < b) : VIs aR aS 2 b 1 1 0 := by
  have hL := ok_u16bad b hb0 hb1 h0
  intro w hG
  refine ⟨calls_sym hL (noO_ok _ _ aR aS) (run_u16bad _ aR aS) List.mem_cons_self rfl rfl rfl rfl hG, calls_sym hL (noO_ok _ _ aR aS) (run_u16bad _ aR aS) (List.mem_cons_of_mem _ List.mem_cons_self) rfl rfl rfl rfl hG, calls_sym hL (noO_ok _ _ aR aS) (run_u16bad _ aR aS) (List.mem_cons_of_mem _ (List.mem_cons_of_mem _ List.mem_cons_self)) rfl rfl rfl rfl hG, ?_⟩
  intro h
  exact absurd h (by decide)
def L_u64large : List CF := [⟨.leq, (.var 0), (.lit 18446744073709551615), true⟩,
  ⟨.eql, (.sh .shr .u64 (.var 0) (.lit 64)), (.lit 0), true⟩,
  ⟨.lss, (.lit 9223372036854775807), (.var 0), true⟩,
  ⟨.gtr, (.var 0), (.lit 9223372036854775807), true⟩]
theorem ok_u64large (b : Int) (hb0 : 0 ≤ b) (hb1 : b < 18446744073709551616) (h0 : 9223372036854775807 < b) : ∀ f ∈ L_u64large, f.ok (rho b 0 4 0 0 0) := by
  intro f hf
  simp only [L_u64large, List.mem_cons, List.not_mem_nil, or_false] at hf
  rcases hf with rfl | rfl | rfl | rfl
  · exact ⟨rfl, cmp_leq_t (by simp (disch := omega) only [IE.ev, rho_0] <;> omega)⟩
  · exact ⟨rfl, cmp_eql_t (by simp (disch := omega) only [IE.ev, rho_0, shr_u64_64] <;> omega)⟩
  · exact ⟨rfl, cmp_lss_t (by simp (disch := omega) only [IE.ev, rho_0] <;> omega)⟩
  · exact ⟨rfl, cmp_gtr_t (by simp (disch := omega) only [IE.ev, rho_0] <;> omega)⟩
def J_u64large : List SEntry := [(5, [.agg [.v (.int .i64 4), .sym (.int .u64 (.var 0))]], .v (.int .i64 0)),
  (8, [.agg [.v (.int .i64 4), .sym (.int .u64 (.var 0))]], .v (.int .i64 0)),
  (6, [.agg [.v (.int .i64 4), .sym (.int .u64 (.var 0))]], .v (.tuple #[.int .i64 0, .int .i64 4])),
  (7, [.agg [.v (.int .i64 4), .sym (.int .u64 (.var 0))]], .v (.tuple #[.int .i64 0, .int .i64 4]))]
theorem run_u64large (ρ : Nat → Int) (aR aS : Addr) : J_u64large.map (fun e => (@call (E ρ L_u64large) Tryz.prog (glob aR aS) noO 300 60 (.fn e.1) e.2.1 []).map fun r => nrm r.1) = J_u64large.map fun e => some e.2.2 := by kernel_rfl
theorem v_u64large (aR aS : Addr) (b : Int) (hb0 : 0 ≤ b) (hb1 : b < 18446744073709551616) (h0 : 9223372036854775807 < b) : VIs aR aS 4 b 0 4 0 := by
  have hL := ok_u64large b hb0 hb1 h0
  intro w hG
  refine ⟨calls_sym hL (noO_ok _ _ aR aS) (run_u64large _ aR aS) List.mem_cons_self rfl rfl rfl rfl hG, calls_sym hL (noO_ok _ _ aR aS) (run_u64large _ aR aS) (List.mem_cons_of_mem _ List.mem_cons_self) rfl rfl rfl rfl hG, calls_sym hL (noO_ok _ _ aR aS) (run_u64large _ aR aS) (List.mem_cons_of_mem _ (List.mem_cons_of_mem _ List.mem_cons_self)) rfl rfl rfl rfl hG, ?_⟩
  intro _
  exact calls_sym hL (noO_ok _ _ aR aS) (run_u64large _ aR aS) (List.mem_cons_of_mem _ (List.mem_cons_of_mem _ (List.mem_cons_of_mem _ List.mem_cons_self))) rfl rfl rfl rfl hG
def L_i16pos : List CF := [⟨.leq, (.var 0), (.lit 65535), true⟩,
  ⟨.eql, (.sh .shr .u64 (.var 0) (.lit 16)), (.lit 0), true⟩,
  ⟨.neq, (.lit 0), (.cv .u64 (.sh .shr .i64 (.sh .shr .i64 (.cv .i64 (.sh .shl .u64 (.var 0) (.lit 48))) (.lit 48)) (.lit 63))), false⟩,
  ⟨.lss, (.lit 9223372036854775807), (.cv .u64 (.sh .shr .i64 (.cv .i64 (.sh .shl .u64 (.var 0) (.lit 48))) (.lit 48))), false⟩,
  ⟨.gtr, (.var 0), (.lit 32767), false⟩]
theorem ok_i16pos (b : Int) (hb0 : 0 ≤ b) (hb1 : b < 18446744073709551616) (h0 : b ≤ 32767) : ∀ f ∈ L_i16pos, f.ok (rho b 0 6 0 0 0) := by
  intro f hf
  simp only [L_i16pos, List.mem_cons, List.not_mem_nil, or_false] at hf
  rcases hf with rfl | rfl | rfl | rfl | rfl
  · exact ⟨rfl, cmp_leq_t (by simp (disch := omega) only [IE.ev, rho_0] <;> omega)⟩
  · exact ⟨rfl, cmp_eql_t (by simp (disch := omega) only [IE.ev, rho_0, shr_u64_16] <;> omega)⟩
  · exact ⟨rfl, cmp_neq_f (by simp (disch := omega) only [IE.ev, rho_0, shl_u64_48, shr_i64_48, shr_i64_63, wrap_i64, wrap_u64] <;> omega)⟩
  · exact ⟨rfl, cmp_lss_f (by simp (disch := omega) only [IE.ev, rho_0, shl_u64_48, shr_i64_48, wrap_i64, wrap_u64] <;> omega)⟩
  · exact ⟨rfl, cmp_gtr_f (by simp (disch := omega) only [IE.ev, rho_0] <;> omega)⟩
def J_i16pos : List SEntry := [(5, [.agg [.v (.int .i64 6), .sym (.int .u64 (.var 0))]], .v (.int .i64 0)),
  (8, [.agg [.v (.int .i64 6), .sym (.int .u64 (.var 0))]], .v (.int .i64 0)),
  (6, [.agg [.v (.int .i64 6), .sym (.int .u64 (.var 0))]], .tuple [.sym (.int .i64 (.cv .i64 (.cv .u64 (.sh .shr .i64 (.cv .i64 (.sh .shl .u64 (.var 0) (.lit 48))) (.lit 48))))), .v (.int .i64 0)]),
  (7, [.agg [.v (.int .i64 6), .sym (.int .u64 (.var 0))]], .tuple [.sym (.int .i64 (.cv .i64 (.var 0))), .v (.int .i64 0)])]
theorem run_i16pos (ρ : Nat → Int) (aR aS : Addr) : J_i16pos.map (fun e => (@call (E ρ L_i16pos) Tryz.prog (glob aR aS) noO 300 60 (.fn e.1) e.2.1 []).map fun r => nrm r.1) = J_i16pos.map fun e => some e.2.2 := by kernel_rfl
theorem v_i16pos (aR aS : Addr) (b : Int) (hb0 : 0 ≤ b) (hb1 : b < 18446744073709551616) (h0 : b ≤ 32767) : VIs aR aS 6 b 0 0 (IE.ev (rho b 0 6 0 0 0) (.cv .i64 (.cv .u64 (.sh .shr .i64 (.cv .i64 (.sh .shl .u64 (.var 0) (.lit 48))) (.lit 48))))) := by
  have hL := ok_i16pos b hb0 hb1 h0
  have hK : IE.ev (rho b 0 6 0 0 0) (.cv .i64 (.var 0)) = IE.ev (rho b 0 6 0 0 0) (.cv .i64 (.cv .u64 (.sh .shr .i64 (.cv .i64 (.sh .shl .u64 (.var 0) (.lit 48))) (.lit 48)))) := by simp (disch := omega) only [IE.ev, rho_0, shl_u64_48, shr_i64_48, wrap_i64, wrap_u64] <;> omega
  intro w hG
  refine ⟨calls_sym hL (noO_ok _ _ aR aS) (run_i16pos _ aR aS) List.mem_cons_self rfl rfl rfl rfl hG, calls_sym hL (noO_ok _ _ aR aS) (run_i16pos _ aR aS) (List.mem_cons_of_mem _ List.mem_cons_self) rfl rfl rfl rfl hG, calls_sym hL (noO_ok _ _ aR aS) (run_i16pos _ aR aS) (List.mem_cons_of_mem _ (List.mem_cons_of_mem _ List.mem_cons_self)) rfl rfl rfl rfl hG, ?_⟩
  intro _
  rw [← hK]
  exact calls_sym hL (noO_ok _ _ aR aS) (run_i16pos _ aR aS) (List.mem_cons_of_mem _ (List.mem_cons_of_mem _ (List.mem_cons_of_mem _ List.mem_cons_self))) rfl rfl rfl rfl hG
def L_i32neg : List CF := [⟨.leq, (.var 0), (.lit 4294967295), true⟩,
  ⟨.eql, (.sh .shr .u64 (.var 0) (.lit 32)), (.lit 0), true⟩,
  ⟨.neq, (.lit 0), (.cv .u64 (.sh .shr .i64 (.sh .shr .i64 (.cv .i64 (.sh .shl .u64 (.var 0) (.lit 32))) (.lit 32)) (.lit 63))), true⟩,
  ⟨.lss, (.lit 0), (.cv .i64 (.cv .u64 (.sh .shr .i64 (.sh .shr .i64 (.cv .i64 (.sh .shl .u64 (.var 0) (.lit 32))) (.lit 32)) (.lit 63)))), false⟩,
  ⟨.gtr, (.var 0), (.lit 2147483647), true⟩]
theorem ok_i32neg (b : Int) (hb0 : 0 ≤ b) (hb1 : b < 18446744073709551616) (h0 : 2147483647 < b) (h1 : b ≤ 4294967295) : ∀ f ∈ L_i32neg, f.ok (rho b 0 7 0 0 0) := by
  intro f hf
  simp only [L_i32neg, List.mem_cons, List.not_mem_nil, or_false] at hf
  rcases hf with rfl | rfl | rfl | rfl | rfl
  · exact ⟨rfl, cmp_leq_t (by simp (disch := omega) only [IE.ev, rho_0] <;> omega)⟩
  · exact ⟨rfl, cmp_eql_t (by simp (disch := omega) only [IE.ev, rho_0, shr_u64_32] <;> omega)⟩
  · exact ⟨rfl, cmp_neq_t (by simp (disch := omega) only [IE.ev, rho_0, shl_u64_32, shr_i64_32, shr_i64_63, wrap_i64, wrap_u64] <;> omega)⟩
  · exact ⟨rfl, cmp_lss_f (by simp (disch := omega) only [IE.ev, rho_0, shl_u64_32, shr_i64_32, shr_i64_63, wrap_i64, wrap_u64] <;> omega)⟩
  · exact ⟨rfl, cmp_gtr_t (by simp (disch := omega) only [IE.ev, rho_0] <;> omega)⟩
def J_i32neg : List SEntry := [(5, [.agg [.v (.int .i64 7), .sym (.int .u64 (.var 0))]], .v (.int .i64 0)),
  (8, [.agg [.v (.int .i64 7), .sym (.int .u64 (.var 0))]], .v (.int .i64 0)),
  (6, [.agg [.v (.int .i64 7), .sym (.int .u64 (.var 0))]], .tuple [.sym (.int .i64 (.cv .i64 (.cv .u64 (.sh .shr .i64 (.cv .i64 (.sh .shl .u64 (.var 0) (.lit 32))) (.lit 32))))), .v (.int .i64 0)]),
  (7, [.agg [.v (.int .i64 7), .sym (.int .u64 (.var 0))]], .tuple [.sym (.int .i64 (.cv .i64 (.bin .or .u64 (.var 0) (.lit 18446744069414584320)))), .v (.int .i64 0)])]
theorem run_i32neg (ρ : Nat → Int) (aR aS : Addr) : J_i32neg.map (fun e => (@call (E ρ L_i32neg) Tryz.prog (glob aR aS) noO 300 60 (.fn e.1) e.2.1 []).map fun r => nrm r.1) = J_i32neg.map fun e => some e.2.2 := by kernel_rfl
theorem v_i32neg (aR aS : Addr) (b : Int) (hb0 : 0 ≤ b) (hb1 : b < 18446744073709551616) (h0 : 2147483647 < b) (h1 : b ≤ 4294967295) : VIs aR aS 7 b 0 0 (IE.ev (rho b 0 7 0 0 0) (.cv .i64 (.cv .u64 (.sh .shr .i64 (.cv .i64 (.sh .shl .u64 (.var 0) (.lit 32))) (.lit 32))))) := by
  have hL := ok_i32neg b hb0 hb1 h0 h1
  have hK : IE.ev (rho b 0 7 0 0 0) (.cv .i64 (.bin .or .u64 (.var 0) (.lit 18446744069414584320))) = IE.ev (rho b 0 7 0 0 0) (.cv .i64 (.cv .u64 (.sh .shr .i64 (.cv .i64 (.sh .shl .u64 (.var 0) (.lit 32))) (.lit 32)))) := by simp (disch := omega) only [IE.ev, rho_0, or_u64_32, shl_u64_32, shr_i64_32, wrap_i64, wrap_u64] <;> omega
  intro w hG
  refine ⟨calls_sym hL (noO_ok _ _ aR aS) (run_i32neg _ aR aS) List.mem_cons_self rfl rfl rfl rfl hG, calls_sym hL (noO_ok _ _ aR aS) (run_i32neg _ aR aS) (List.mem_cons_of_mem _ List.mem_cons_self) rfl rfl rfl rfl hG, calls_sym hL (noO_ok _ _ aR aS) (run_i32neg _ aR aS) (List.mem_cons_of_mem _ (List.mem_cons_of_mem _ List.mem_cons_self)) rfl rfl rfl rfl hG, ?_⟩
  intro _
  rw [← hK]
  exact calls_sym hL (noO_ok _ _ aR aS) (run_i32neg _ aR aS) (List.mem_cons_of_mem _ (List.mem_cons_of_mem _ (List.mem_cons_of_mem _ List.mem_cons_self))) rfl rfl rfl rfl hG
def L_f32wide : List CF := [⟨.leq, (.var 0), (.lit 4294967295), false⟩,
  ⟨.eql, (.sh .shr .u64 (.var 0) (.lit 32)), (.lit 0), false⟩]
theorem ok_f32wide (b : Int) (hb0 : 0 ≤ b) (hb1 : b < 18446744073709551616) (h0 : 4294967296 ≤ b) : ∀ f ∈ L_f32wide, f.ok (rho b 0 9 0 0 0) := by
  intro f hf
  simp only [L_f32wide, List.mem_cons, List.not_mem_nil, or_false] at hf
  rcases hf with rfl | rfl
  · exact ⟨rfl, cmp_leq_f (by simp (disch := omega) only [IE.ev, rho_0] <;> omega)⟩
  · exact ⟨rfl, cmp_eql_f (by simp (disch := omega) only [IE.ev, rho_0, shr_u64_32] <;> omega)⟩
def J_f32wide : List SEntry := [(5, [.agg [.v (.int .i64 9), .sym (.int .u64 (.var 0))]], .v (.int .i64 1)),
  (8, [.agg [.v (.int .i64 9), .sym (.int .u64 (.var 0))]], .v (.int .i64 1)),
  (6, [.agg [.v (.int .i64 9), .sym (.int .u64 (.var 0))]], .v (.tuple #[.int .i64 0, .int .i64 1]))]
theorem run_f32wide (ρ : Nat → Int) (aR aS : Addr) : J_f32wide.map (fun e => (@call (E ρ L_f32wide) Tryz.prog (glob aR aS) noO 300 60 (.fn e.1) e.2.1 []).map fun r => nrm r.1) = J_f32wide.map fun e => some e.2.2 := by kernel_rfl
theorem v_f32wide (aR aS : Addr) (b : Int) (hb0 : 0 ≤ b) (hb1 : b < 18446744073709551616) (h0 : 4294967296 ≤ b) : VIs aR aS 9 b 1 1 0 := by
  have hL := ok_f32wide b hb0 hb1 h0
  intro w hG
  refine ⟨calls_sym hL (noO_ok _ _ aR aS) (run_f32wide _ aR aS) List.mem_cons_self rfl rfl rfl rfl hG, calls_sym hL (noO_ok _ _ aR aS) (run_f32wide _ aR aS) (List.mem_cons_of_mem _ List.mem_cons_self) rfl rfl rfl rfl hG, calls_sym hL (noO_ok _ _ aR aS) (run_f32wide _ aR aS) (List.mem_cons_of_mem _ (List.mem_cons_of_mem _ List.mem_cons_self)) rfl rfl rfl rfl hG, ?_⟩
  intro h
  exact absurd h (by decide)
def L_c64loexp : List CF := [⟨.leq, (.var 0), (.lit 18446744073709551615), true⟩,
  ⟨.neq, (.bin .rem .u64 (.bin .quo .u64 (.bin .rem .u64 (.var 0) (.lit 4294967296)) (.lit 8388608)) (.lit 256)), (.lit 255), false⟩,
  ⟨.eql, (.sh .shr .u64 (.var 0) (.lit 64)), (.lit 0), true⟩,
  ⟨.neq, (.bin .and .u32 (.cv .u32 (.var 0)) (.lit 2139095040)), (.lit 2139095040), false⟩]
theorem ok_c64loexp (b : Int) (hb0 : 0 ≤ b) (hb1 : b < 18446744073709551616) (h0 : (b % 4294967296) / 8388608 % 256 = 255) : ∀ f ∈ L_c64loexp, f.ok (rho b 0 10 0 0 0) := by
  intro f hf
  simp only [L_c64loexp, List.mem_cons, List.not_mem_nil, or_false] at hf
  rcases hf with rfl | rfl | rfl | rfl
  · exact ⟨rfl, cmp_leq_t (by simp (disch := omega) only [IE.ev, rho_0] <;> omega)⟩
  · exact ⟨rfl, cmp_neq_f (by simp (disch := omega) only [IE.ev, rho_0, quo_u64, rem_u64] <;> omega)⟩
  · exact ⟨rfl, cmp_eql_t (by simp (disch := omega) only [IE.ev, rho_0, shr_u64_64] <;> omega)⟩
  · exact ⟨rfl, cmp_neq_f (by simp (disch := omega) only [IE.ev, rho_0, and_u32_exp, wrap_u32] <;> omega)⟩
def J_c64loexp : List SEntry := [(5, [.agg [.v (.int .i64 10), .sym (.int .u64 (.var 0))]], .v (.int .i64 1)),
  (8, [.agg [.v (.int .i64 10), .sym (.int .u64 (.var 0))]], .v (.int .i64 1)),
  (6, [.agg [.v (.int .i64 10), .sym (.int .u64 (.var 0))]], .v (.tuple #[.int .i64 0, .int .i64 1]))]
theorem run_c64loexp (ρ : Nat → Int) (aR aS : Addr) : J_c64loexp.map (fun e => (@call (E ρ L_c64loexp) Tryz.prog (glob aR aS) noO 300 60 (.fn e.1) e.2.1 []).map fun r => nrm r.1) = J_c64loexp.map fun e => some e.2.2 := by kernel_rfl
theorem v_c64loexp (aR aS : Addr) (b : Int) (hb0 : 0 ≤ b) (hb1 : b < 18446744073709551616) (h0 : (b % 4294967296) / 8388608 % 256 = 255) : VIs aR aS 10 b 1 1 0 := by
  have hL := ok_c64loexp b hb0 hb1 h0
  intro w hG
  refine ⟨calls_sym hL (noO_ok _ _ aR aS) (run_c64loexp _ aR aS) List.mem_cons_self rfl rfl rfl rfl hG, calls_sym hL (noO_ok _ _ aR aS) (run_c64loexp _ aR aS) (List.mem_cons_of_mem _ List.mem_cons_self) rfl rfl rfl rfl hG, calls_sym hL (noO_ok _ _ aR aS) (run_c64loexp _ aR aS) (List.mem_cons_of_mem _ (List.mem_cons_of_mem _ List.mem_cons_self)) rfl rfl rfl rfl hG, ?_⟩
  intro h
  exact absurd h (by decide)
def L_c64ok : List CF := [⟨.leq, (.var 0), (.lit 18446744073709551615), true⟩,
  ⟨.neq, (.bin .rem .u64 (.bin .quo .u64 (.bin .rem .u64 (.var 0) (.lit 4294967296)) (.lit 8388608)) (.lit 256)), (.lit 255), true⟩,
  ⟨.neq, (.bin .rem .u64 (.var 0) (.lit 4294967296)), (.lit 2147483648), true⟩,
  ⟨.neq, (.bin .rem .u64 (.bin .quo .u64 (.bin .quo .u64 (.var 0) (.lit 4294967296)) (.lit 8388608)) (.lit 256)), (.lit 255), true⟩,
  ⟨.neq, (.bin .quo .u64 (.var 0) (.lit 4294967296)), (.lit 2147483648), true⟩,
  ⟨.eql, (.sh .shr .u64 (.var 0) (.lit 64)), (.lit 0), true⟩,
  ⟨.neq, (.bin .and .u32 (.cv .u32 (.var 0)) (.lit 2139095040)), (.lit 2139095040), true⟩,
  ⟨.neq, (.cv .u32 (.var 0)), (.lit 2147483648), true⟩,
  ⟨.neq, (.bin .and .u32 (.cv .u32 (.sh .shr .u64 (.var 0) (.lit 32))) (.lit 2139095040)), (.lit 2139095040), true⟩,
  ⟨.neq, (.cv .u32 (.sh .shr .u64 (.var 0) (.lit 32))), (.lit 2147483648), true⟩]
theorem ok_c64ok (b : Int) (hb0 : 0 ≤ b) (hb1 : b < 18446744073709551616) (h0 : (b % 4294967296) / 8388608 % 256 ≠ 255) (h1 : (b % 4294967296) ≠ 2147483648) (h2 : (b / 4294967296) / 8388608 % 256 ≠ 255) (h3 : (b / 4294967296) ≠ 2147483648) : ∀ f ∈ L_c64ok, f.ok (rho b 0 10 0 0 0) := by
  intro f hf
  simp only [L_c64ok, List.mem_cons, List.not_mem_nil, or_false] at hf
  rcases hf with rfl | rfl | rfl | rfl | rfl | rfl | rfl | rfl | rfl | rfl
  · exact ⟨rfl, cmp_leq_t (by simp (disch := omega) only [IE.ev, rho_0] <;> omega)⟩
  · exact ⟨rfl, cmp_neq_t (by simp (disch := omega) only [IE.ev, rho_0, quo_u64, rem_u64] <;> omega)⟩
  · exact ⟨rfl, cmp_neq_t (by simp (disch := omega) only [IE.ev, rho_0, rem_u64] <;> omega)⟩
  · exact ⟨rfl, cmp_neq_t (by simp (disch := omega) only [IE.ev, rho_0, quo_u64, rem_u64] <;> omega)⟩
  · exact ⟨rfl, cmp_neq_t (by simp (disch := omega) only [IE.ev, rho_0, quo_u64] <;> omega)⟩
  · exact ⟨rfl, cmp_eql_t (by simp (disch := omega) only [IE.ev, rho_0, shr_u64_64] <;> omega)⟩
  · exact ⟨rfl, cmp_neq_t (by simp (disch := omega) only [IE.ev, rho_0, and_u32_exp, wrap_u32] <;> omega)⟩
  · exact ⟨rfl, cmp_neq_t (by simp (disch := omega) only [IE.ev, rho_0, wrap_u32] <;> omega)⟩
  · exact ⟨rfl, cmp_neq_t (by simp (disch := omega) only [IE.ev, rho_0, and_u32_exp, shr_u64_32, wrap_u32] <;> omega)⟩
  · exact ⟨rfl, cmp_neq_t (by simp (disch := omega) only [IE.ev, rho_0, shr_u64_32, wrap_u32] <;> omega)⟩
def J_c64ok : List SEntry := [(5, [.agg [.v (.int .i64 10), .sym (.int .u64 (.var 0))]], .v (.int .i64 0)),
  (8, [.agg [.v (.int .i64 10), .sym (.int .u64 (.var 0))]], .v (.int .i64 0)),
  (6, [.agg [.v (.int .i64 10), .sym (.int .u64 (.var 0))]], .v (.tuple #[.int .i64 0, .int .i64 12])),
  (7, [.agg [.v (.int .i64 10), .sym (.int .u64 (.var 0))]], .v (.tuple #[.int .i64 0, .int .i64 12]))]
theorem run_c64ok (ρ : Nat → Int) (aR aS : Addr) : J_c64ok.map (fun e => (@call (E ρ L_c64ok) Tryz.prog (glob aR aS) noO 300 60 (.fn e.1) e.2.1 []).map fun r => nrm r.1) = J_c64ok.map fun e => some e.2.2 := by kernel_rfl
theorem v_c64ok (aR aS : Addr) (b : Int) (hb0 : 0 ≤ b) (hb1 : b < 18446744073709551616) (h0 : (b % 4294967296) / 8388608 % 256 ≠ 255) (h1 : (b % 4294967296) ≠ 2147483648) (h2 : (b / 4294967296) / 8388608 % 256 ≠ 255) (h3 : (b / 4294967296) ≠ 2147483648) : VIs aR aS 10 b 0 12 0 := by
  have hL := ok_c64ok b hb0 hb1 h0 h1 h2 h3
  intro w hG
  refine ⟨calls_sym hL (noO_ok _ _ aR aS) (run_c64ok _ aR aS) List.mem_cons_self rfl rfl rfl rfl hG, calls_sym hL (noO_ok _ _ aR aS) (run_c64ok _ aR aS) (List.mem_cons_of_mem _ List.mem_cons_self) rfl rfl rfl rfl hG, calls_sym hL (noO_ok _ _ aR aS) (run_c64ok _ aR aS) (List.mem_cons_of_mem _ (List.mem_cons_of_mem _ List.mem_cons_self)) rfl rfl rfl rfl hG, ?_⟩
  intro _
  exact calls_sym hL (noO_ok _ _ aR aS) (run_c64ok _ aR aS) (List.mem_cons_of_mem _ (List.mem_cons_of_mem _ (List.mem_cons_of_mem _ List.mem_cons_self))) rfl rfl rfl rfl hG
end
end Go.Proofs.YtljmnbkjhgnaiaaGreatDoor
