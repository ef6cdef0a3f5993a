import Derived.Test.YtljmnbkjhgnaiaaGreatDoorVA
namespace Go.Proofs.YtljmnbkjhgnaiaaGreatDoor
noncomputable section
open Go Go.RX
open Go.RowKit (Below)
set_option maxRecDepth 1000000
def L_u8ok : List CF := [⟨.leq, (.var 0), (.lit 255), true⟩,
  ⟨.eql, (.sh .shr .u64 (.var 0) (.lit 8)), (.lit 0), true⟩,
  ⟨.lss, (.lit 9223372036854775807), (.var 0), false⟩]
theorem ok_u8ok (b : Int) (hb0 : 0 ≤ b) (hb1 : b < 18446744073709551616) (h0 : b ≤ 255) : ∀ f ∈ L_u8ok, f.ok (rho b 0 1 0 0 0) := by
  intro f hf
  simp only [L_u8ok, List.mem_cons, List.not_mem_nil, or_false] at hf
  rcases hf with rfl | rfl | rfl
  · exact ⟨rfl, cmp_leq_t (by simp (disch := omega) only [IE.ev, rho_0] <;> omega)⟩
  · exact ⟨rfl, cmp_eql_t (by simp (disch := omega) only [IE.ev, rho_0, shr_u64_8] <;> omega)⟩
  · exact ⟨rfl, cmp_lss_f (by simp (disch := omega) only [IE.ev, rho_0] <;> omega)⟩
def J_u8ok : List SEntry := [(5, [.agg [.v (.int .i64 1), .sym (.int .u64 (.var 0))]], .v (.int .i64 0)),
  (8, [.agg [.v (.int .i64 1), .sym (.int .u64 (.var 0))]], .v (.int .i64 0)),
  (6, [.agg [.v (.int .i64 1), .sym (.int .u64 (.var 0))]], .tuple [.sym (.int .i64 (.cv .i64 (.var 0))), .v (.int .i64 0)]),
  (7, [.agg [.v (.int .i64 1), .sym (.int .u64 (.var 0))]], .tuple [.sym (.int .i64 (.cv .i64 (.var 0))), .v (.int .i64 0)])]
theorem run_u8ok (ρ : Nat → Int) (aR aS : Addr) : J_u8ok.map (fun e => (@call (E ρ L_u8ok) Tryz.prog (glob aR aS) noO 300 60 (.fn e.1) e.2.1 []).map fun r => nrm r.1) = J_u8ok.map fun e => some e.2.2 := by kernel_rfl
theorem v_u8ok (aR aS : Addr) (b : Int) (hb0 : 0 ≤ b) (hb1 : b < 18446744073709551616) (h0 : b ≤ 255) : VIs aR aS 1 b 0 0 (IE.ev (rho b 0 1 0 0 0) (.cv .i64 (.var 0))) := by
  have hL := ok_u8ok b hb0 hb1 h0
  intro w hG
  refine ⟨calls_sym hL (noO_ok _ _ aR aS) (run_u8ok _ aR aS) List.mem_cons_self rfl rfl rfl rfl hG, calls_sym hL (noO_ok _ _ aR aS) (run_u8ok _ aR aS) (List.mem_cons_of_mem _ List.mem_cons_self) rfl rfl rfl rfl hG, calls_sym hL (noO_ok _ _ aR aS) (run_u8ok _ aR aS) (List.mem_cons_of_mem _ (List.mem_cons_of_mem _ List.mem_cons_self)) rfl rfl rfl rfl hG, ?_⟩
  intro _
  exact calls_sym hL (noO_ok _ _ aR aS) (run_u8ok _ aR aS) (List.mem_cons_of_mem _ (List.mem_cons_of_mem _ (List.mem_cons_of_mem _ List.mem_cons_self))) rfl rfl rfl rfl hG
def L_u32ok : List CF := [⟨.leq, (.var 0), (.lit 4294967295), true⟩,
  ⟨.eql, (.sh .shr .u64 (.var 0) (.lit 32)), (.lit 0), true⟩,
  ⟨.lss, (.lit 9223372036854775807), (.var 0), false⟩]
theorem ok_u32ok (b : Int) (hb0 : 0 ≤ b) (hb1 : b < 18446744073709551616) (h0 : b ≤ 4294967295) : ∀ f ∈ L_u32ok, f.ok (rho b 0 3 0 0 0) := by
  intro f hf
  simp only [L_u32ok, List.mem_cons, List.not_mem_nil, or_false] at hf
  rcases hf with rfl | rfl | rfl
  · exact ⟨rfl, cmp_leq_t (by simp (disch := omega) only [IE.ev, rho_0] <;> omega)⟩
  · exact ⟨rfl, cmp_eql_t (by simp (disch := omega) only [IE.ev, rho_0, shr_u64_32] <;> omega)⟩
  · exact ⟨rfl, cmp_lss_f (by simp (disch := omega) only [IE.ev, rho_0] <;> omega)⟩
def J_u32ok : List SEntry := [(5, [.agg [.v (.int .i64 3), .sym (.int .u64 (.var 0))]], .v (.int .i64 0)),
  (8, [.agg [.v (.int .i64 3), .sym (.int .u64 (.var 0))]], .v (.int .i64 0)),
  (6, [.agg [.v (.int .i64 3), .sym (.int .u64 (.var 0))]], .tuple [.sym (.int .i64 (.cv .i64 (.var 0))), .v (.int .i64 0)]),
  (7, [.agg [.v (.int .i64 3), .sym (.int .u64 (.var 0))]], .tuple [.sym (.int .i64 (.cv .i64 (.var 0))), .v (.int .i64 0)])]
theorem run_u32ok (ρ : Nat → Int) (aR aS : Addr) : J_u32ok.map (fun e => (@call (E ρ L_u32ok) Tryz.prog (glob aR aS) noO 300 60 (.fn e.1) e.2.1 []).map fun r => nrm r.1) = J_u32ok.map fun e => some e.2.2 := by kernel_rfl
theorem v_u32ok (aR aS : Addr) (b : Int) (hb0 : 0 ≤ b) (hb1 : b < 18446744073709551616) (h0 : b ≤ 4294967295) : VIs aR aS 3 b 0 0 (IE.ev (rho b 0 3 0 0 0) (.cv .i64 (.var 0))) := by
  have hL := ok_u32ok b hb0 hb1 h0
  intro w hG
  refine ⟨calls_sym hL (noO_ok _ _ aR aS) (run_u32ok _ aR aS) List.mem_cons_self rfl rfl rfl rfl hG, calls_sym hL (noO_ok _ _ aR aS) (run_u32ok _ aR aS) (List.mem_cons_of_mem _ List.mem_cons_self) rfl rfl rfl rfl hG, calls_sym hL (noO_ok _ _ aR aS) (run_u32ok _ aR aS) (List.mem_cons_of_mem _ (List.mem_cons_of_mem _ List.mem_cons_self)) rfl rfl rfl rfl hG, ?_⟩
  intro _
  exact calls_sym hL (noO_ok _ _ aR aS) (run_u32ok _ aR aS) (List.mem_cons_of_mem _ (List.mem_cons_of_mem _ (List.mem_cons_of_mem _ List.mem_cons_self))) rfl rfl rfl rfl hG
def L_i8pos : List CF := [⟨.leq, (.var 0), (.lit 255), true⟩,
  ⟨.eql, (.sh .shr .u64 (.var 0) (.lit 8)), (.lit 0), true⟩,
  ⟨.neq, (.lit 0), (.cv .u64 (.sh .shr .i64 (.sh .shr .i64 (.cv .i64 (.sh .shl .u64 (.var 0) (.lit 56))) (.lit 56)) (.lit 63))), false⟩,
  ⟨.lss, (.lit 9223372036854775807), (.cv .u64 (.sh .shr .i64 (.cv .i64 (.sh .shl .u64 (.var 0) (.lit 56))) (.lit 56))), false⟩,
  ⟨.gtr, (.var 0), (.lit 127), false⟩]
theorem ok_i8pos (b : Int) (hb0 : 0 ≤ b) (hb1 : b < 18446744073709551616) (h0 : b ≤ 127) : ∀ f ∈ L_i8pos, f.ok (rho b 0 5 0 0 0) := by
  intro f hf
  simp only [L_i8pos, List.mem_cons, List.not_mem_nil, or_false] at hf
  rcases hf with rfl | rfl | rfl | rfl | rfl
  · exact ⟨rfl, cmp_leq_t (by simp (disch := omega) only [IE.ev, rho_0] <;> omega)⟩
  · exact ⟨rfl, cmp_eql_t (by simp (disch := omega) only [IE.ev, rho_0, shr_u64_8] <;> omega)⟩
  · exact ⟨rfl, cmp_neq_f (by simp (disch := omega) only [IE.ev, rho_0, shl_u64_56, shr_i64_56, shr_i64_63, wrap_i64, wrap_u64] <;> omega)⟩
  · exact ⟨rfl, cmp_lss_f (by simp (disch := omega) only [IE.ev, rho_0, shl_u64_56, shr_i64_56, wrap_i64, wrap_u64] <;> omega)⟩
  · exact ⟨rfl, cmp_gtr_f (by simp (disch := omega) only [IE.ev, rho_0] <;> omega)⟩
def J_i8pos : List SEntry := [(5, [.agg [.v (.int .i64 5), .sym (.int .u64 (.var 0))]], .v (.int .i64 0)),
  (8, [.agg [.v (.int .i64 5), .sym (.int .u64 (.var 0))]], .v (.int .i64 0)),
  (6, [.agg [.v (.int .i64 5), .sym (.int .u64 (.var 0))]], .tuple [.sym (.int .i64 (.cv .i64 (.cv .u64 (.sh .shr .i64 (.cv .i64 (.sh .shl .u64 (.var 0) (.lit 56))) (.lit 56))))), .v (.int .i64 0)]),
  (7, [.agg [.v (.int .i64 5), .sym (.int .u64 (.var 0))]], .tuple [.sym (.int .i64 (.cv .i64 (.var 0))), .v (.int .i64 0)])]
theorem run_i8pos (ρ : Nat → Int) (aR aS : Addr) : J_i8pos.map (fun e => (@call (E ρ L_i8pos) Tryz.prog (glob aR aS) noO 300 60 (.fn e.1) e.2.1 []).map fun r => nrm r.1) = J_i8pos.map fun e => some e.2.2 := by kernel_rfl
theorem v_i8pos (aR aS : Addr) (b : Int) (hb0 : 0 ≤ b) (hb1 : b < 18446744073709551616) (h0 : b ≤ 127) : VIs aR aS 5 b 0 0 (IE.ev (rho b 0 5 0 0 0) (.cv .i64 (.cv .u64 (.sh .shr .i64 (.cv .i64 (.sh .shl .u64 (.var 0) (.lit 56))) (.lit 56))))) := by
  have hL := ok_i8pos b hb0 hb1 h0
  have hK : IE.ev (rho b 0 5 0 0 0) (.cv .i64 (.var 0)) = IE.ev (rho b 0 5 0 0 0) (.cv .i64 (.cv .u64 (.sh .shr .i64 (.cv .i64 (.sh .shl .u64 (.var 0) (.lit 56))) (.lit 56)))) := by simp (disch := omega) only [IE.ev, rho_0, shl_u64_56, shr_i64_56, wrap_i64, wrap_u64] <;> omega
  intro w hG
  refine ⟨calls_sym hL (noO_ok _ _ aR aS) (run_i8pos _ aR aS) List.mem_cons_self rfl rfl rfl rfl hG, calls_sym hL (noO_ok _ _ aR aS) (run_i8pos _ aR aS) (List.mem_cons_of_mem _ List.mem_cons_self) rfl rfl rfl rfl hG, calls_sym hL (noO_ok _ _ aR aS) (run_i8pos _ aR aS) (List.mem_cons_of_mem _ (List.mem_cons_of_mem _ List.mem_cons_self)) rfl rfl rfl rfl hG, ?_⟩
  intro _
  rw [← hK]
  exact calls_sym hL (noO_ok _ _ aR aS) (run_i8pos _ aR aS) (List.mem_cons_of_mem _ (List.mem_cons_of_mem _ (List.mem_cons_of_mem _ List.mem_cons_self))) rfl rfl rfl rfl hG
def L_i16neg : List CF := [⟨.leq, (.var 0), (.lit 65535), true⟩,
  ⟨.eql, (.sh .shr .u64 (.var 0) (.lit 16)), (.lit 0), true⟩,
  ⟨.neq, (.lit 0), (.cv .u64 (.sh .shr .i64 (.sh .shr .i64 (.cv .i64 (.sh .shl .u64 (.var 0) (.lit 48))) (.lit 48)) (.lit 63))), true⟩,
  ⟨.lss, (.lit 0), (.cv .i64 (.cv .u64 (.sh .shr .i64 (.sh .shr .i64 (.cv .i64 (.sh .shl .u64 (.var 0) (.lit 48))) (.lit 48)) (.lit 63)))), false⟩,
  ⟨.gtr, (.var 0), (.lit 32767), true⟩]
theorem ok_i16neg (b : Int) (hb0 : 0 ≤ b) (hb1 : b < 18446744073709551616) (h0 : 32767 < b) (h1 : b ≤ 65535) : ∀ f ∈ L_i16neg, f.ok (rho b 0 6 0 0 0) := by
  intro f hf
  simp only [L_i16neg, List.mem_cons, List.not_mem_nil, or_false] at hf
  rcases hf with rfl | rfl | rfl | rfl | rfl
  · exact ⟨rfl, cmp_leq_t (by simp (disch := omega) only [IE.ev, rho_0] <;> omega)⟩
  · exact ⟨rfl, cmp_eql_t (by simp (disch := omega) only [IE.ev, rho_0, shr_u64_16] <;> omega)⟩
  · exact ⟨rfl, cmp_neq_t (by simp (disch := omega) only [IE.ev, rho_0, shl_u64_48, shr_i64_48, shr_i64_63, wrap_i64, wrap_u64] <;> omega)⟩
  · exact ⟨rfl, cmp_lss_f (by simp (disch := omega) only [IE.ev, rho_0, shl_u64_48, shr_i64_48, shr_i64_63, wrap_i64, wrap_u64] <;> omega)⟩
  · exact ⟨rfl, cmp_gtr_t (by simp (disch := omega) only [IE.ev, rho_0] <;> omega)⟩
def J_i16neg : List SEntry := [(5, [.agg [.v (.int .i64 6), .sym (.int .u64 (.var 0))]], .v (.int .i64 0)),
  (8, [.agg [.v (.int .i64 6), .sym (.int .u64 (.var 0))]], .v (.int .i64 0)),
  (6, [.agg [.v (.int .i64 6), .sym (.int .u64 (.var 0))]], .tuple [.sym (.int .i64 (.cv .i64 (.cv .u64 (.sh .shr .i64 (.cv .i64 (.sh .shl .u64 (.var 0) (.lit 48))) (.lit 48))))), .v (.int .i64 0)]),
  (7, [.agg [.v (.int .i64 6), .sym (.int .u64 (.var 0))]], .tuple [.sym (.int .i64 (.cv .i64 (.bin .or .u64 (.var 0) (.lit 18446744073709486080)))), .v (.int .i64 0)])]
theorem run_i16neg (ρ : Nat → Int) (aR aS : Addr) : J_i16neg.map (fun e => (@call (E ρ L_i16neg) Tryz.prog (glob aR aS) noO 300 60 (.fn e.1) e.2.1 []).map fun r => nrm r.1) = J_i16neg.map fun e => some e.2.2 := by kernel_rfl
theorem v_i16neg (aR aS : Addr) (b : Int) (hb0 : 0 ≤ b) (hb1 : b < 18446744073709551616) (h0 : 32767 < b) (h1 : b ≤ 65535) : VIs aR aS 6 b 0 0 (IE.ev (rho b 0 6 0 0 0) (.cv .i64 (.cv .u64 (.sh .shr .i64 (.cv .i64 (.sh .shl .u64 (.var 0) (.lit 48))) (.lit 48))))) := by
  have hL := ok_i16neg b hb0 hb1 h0 h1
  have hK : IE.ev (rho b 0 6 0 0 0) (.cv .i64 (.bin .or .u64 (.var 0) (.lit 18446744073709486080))) = IE.ev (rho b 0 6 0 0 0) (.cv .i64 (.cv .u64 (.sh .shr .i64 (.cv .i64 (.sh .shl .u64 (.var 0) (.lit 48))) (.lit 48)))) := by simp (disch := omega) only [IE.ev, rho_0, or_u64_16, shl_u64_48, shr_i64_48, wrap_i64, wrap_u64] <;> omega
  intro w hG
  refine ⟨calls_sym hL (noO_ok _ _ aR aS) (run_i16neg _ aR aS) List.mem_cons_self rfl rfl rfl rfl hG, calls_sym hL (noO_ok _ _ aR aS) (run_i16neg _ aR aS) (List.mem_cons_of_mem _ List.mem_cons_self) rfl rfl rfl rfl hG, calls_sym hL (noO_ok _ _ aR aS) (run_i16neg _ aR aS) (List.mem_cons_of_mem _ (List.mem_cons_of_mem _ List.mem_cons_self)) rfl rfl rfl rfl hG, ?_⟩
  intro _
  rw [← hK]
  exact calls_sym hL (noO_ok _ _ aR aS) (run_i16neg _ aR aS) (List.mem_cons_of_mem _ (List.mem_cons_of_mem _ (List.mem_cons_of_mem _ List.mem_cons_self))) rfl rfl rfl rfl hG
def L_i32bad : List CF := [⟨.leq, (.var 0), (.lit 4294967295), false⟩,
  ⟨.eql, (.sh .shr .u64 (.var 0) (.lit 32)), (.lit 0), false⟩]
theorem ok_i32bad (b : Int) (hb0 : 0 ≤ b) (hb1 : b < 18446744073709551616) (h0 : 4294967295 < b) : ∀ f ∈ L_i32bad, f.ok (rho b 0 7 0 0 0) := by
  intro f hf
  simp only [L_i32bad, List.mem_cons, List.not_mem_nil, or_false] at hf
  rcases hf with rfl | rfl
  · exact ⟨rfl, cmp_leq_f (by simp (disch := omega) only [IE.ev, rho_0] <;> omega)⟩
  · exact ⟨rfl, cmp_eql_f (by simp (disch := omega) only [IE.ev, rho_0, shr_u64_32] <;> omega)⟩
def J_i32bad : List SEntry := [(5, [.agg [.v (.int .i64 7), .sym (.int .u64 (.var 0))]], .v (.int .i64 1)),
  (8, [.agg [.v (.int .i64 7), .sym (.int .u64 (.var 0))]], .v (.int .i64 1)),
  (6, [.agg [.v (.int .i64 7), .sym (.int .u64 (.var 0))]], .v (.tuple #[.int .i64 0, .int .i64 1]))]
theorem run_i32bad (ρ : Nat → Int) (aR aS : Addr) : J_i32bad.map (fun e => (@call (E ρ L_i32bad) Tryz.prog (glob aR aS) noO 300 60 (.fn e.1) e.2.1 []).map fun r => nrm r.1) = J_i32bad.map fun e => some e.2.2 := by kernel_rfl
theorem v_i32bad (aR aS : Addr) (b : Int) (hb0 : 0 ≤ b) (hb1 : b < 18446744073709551616) (h0 : 4294967295 < b) : VIs aR aS 7 b 1 1 0 := by
  have hL := ok_i32bad b hb0 hb1 h0
  intro w hG
  refine ⟨calls_sym hL (noO_ok _ _ aR aS) (run_i32bad _ aR aS) List.mem_cons_self rfl rfl rfl rfl hG, calls_sym hL (noO_ok _ _ aR aS) (run_i32bad _ aR aS) (List.mem_cons_of_mem _ List.mem_cons_self) rfl rfl rfl rfl hG, calls_sym hL (noO_ok _ _ aR aS) (run_i32bad _ aR aS) (List.mem_cons_of_mem _ (List.mem_cons_of_mem _ List.mem_cons_self)) rfl rfl rfl rfl hG, ?_⟩
  intro h
  exact absurd h (by decide)
def L_f32exp : List CF := [⟨.leq, (.var 0), (.lit 4294967295), true⟩,
  ⟨.neq, (.bin .rem .u64 (.bin .quo .u64 (.var 0) (.lit 8388608)) (.lit 256)), (.lit 255), false⟩,
  ⟨.eql, (.sh .shr .u64 (.var 0) (.lit 32)), (.lit 0), true⟩,
  ⟨.neq, (.bin .and .u32 (.cv .u32 (.var 0)) (.lit 2139095040)), (.lit 2139095040), false⟩]
theorem ok_f32exp (b : Int) (hb0 : 0 ≤ b) (hb1 : b < 18446744073709551616) (h0 : b < 4294967296) (h1 : b / 8388608 % 256 = 255) : ∀ f ∈ L_f32exp, f.ok (rho b 0 9 0 0 0) := by
  intro f hf
  simp only [L_f32exp, List.mem_cons, List.not_mem_nil, or_false] at hf
  rcases hf with rfl | rfl | rfl | rfl
  · exact ⟨rfl, cmp_leq_t (by simp (disch := omega) only [IE.ev, rho_0] <;> omega)⟩
  · exact ⟨rfl, cmp_neq_f (by simp (disch := omega) only [IE.ev, rho_0, quo_u64, rem_u64] <;> omega)⟩
  · exact ⟨rfl, cmp_eql_t (by simp (disch := omega) only [IE.ev, rho_0, shr_u64_32] <;> omega)⟩
  · exact ⟨rfl, cmp_neq_f (by simp (disch := omega) only [IE.ev, rho_0, and_u32_exp, wrap_u32] <;> omega)⟩
def J_f32exp : List SEntry := [(5, [.agg [.v (.int .i64 9), .sym (.int .u64 (.var 0))]], .v (.int .i64 1)),
  (8, [.agg [.v (.int .i64 9), .sym (.int .u64 (.var 0))]], .v (.int .i64 1)),
  (6, [.agg [.v (.int .i64 9), .sym (.int .u64 (.var 0))]], .v (.tuple #[.int .i64 0, .int .i64 1]))]
theorem run_f32exp (ρ : Nat → Int) (aR aS : Addr) : J_f32exp.map (fun e => (@call (E ρ L_f32exp) Tryz.prog (glob aR aS) noO 300 60 (.fn e.1) e.2.1 []).map fun r => nrm r.1) = J_f32exp.map fun e => some e.2.2 := by kernel_rfl
theorem v_f32exp (aR aS : Addr) (b : Int) (hb0 : 0 ≤ b) (hb1 : b < 18446744073709551616) (h0 : b < 4294967296) (h1 : b / 8388608 % 256 = 255) : VIs aR aS 9 b 1 1 0 := by
  have hL := ok_f32exp b hb0 hb1 h0 h1
  intro w hG
  refine ⟨calls_sym hL (noO_ok _ _ aR aS) (run_f32exp _ aR aS) List.mem_cons_self rfl rfl rfl rfl hG, calls_sym hL (noO_ok _ _ aR aS) (run_f32exp _ aR aS) (List.mem_cons_of_mem _ List.mem_cons_self) rfl rfl rfl rfl hG, calls_sym hL (noO_ok _ _ aR aS) (run_f32exp _ aR aS) (List.mem_cons_of_mem _ (List.mem_cons_of_mem _ List.mem_cons_self)) rfl rfl rfl rfl hG, ?_⟩
  intro h
  exact absurd h (by decide)
def L_c64lozero : List CF := [⟨.leq, (.var 0), (.lit 18446744073709551615), true⟩,
  ⟨.neq, (.bin .rem .u64 (.bin .quo .u64 (.bin .rem .u64 (.var 0) (.lit 4294967296)) (.lit 8388608)) (.lit 256)), (.lit 255), true⟩,
  ⟨.neq, (.bin .rem .u64 (.var 0) (.lit 4294967296)), (.lit 2147483648), false⟩,
  ⟨.eql, (.sh .shr .u64 (.var 0) (.lit 64)), (.lit 0), true⟩,
  ⟨.neq, (.bin .and .u32 (.cv .u32 (.var 0)) (.lit 2139095040)), (.lit 2139095040), true⟩,
  ⟨.neq, (.cv .u32 (.var 0)), (.lit 2147483648), false⟩]
theorem ok_c64lozero (b : Int) (hb0 : 0 ≤ b) (hb1 : b < 18446744073709551616) (h0 : (b % 4294967296) = 2147483648) : ∀ f ∈ L_c64lozero, f.ok (rho b 0 10 0 0 0) := by
  intro f hf
  simp only [L_c64lozero, List.mem_cons, List.not_mem_nil, or_false] at hf
  rcases hf with rfl | rfl | rfl | rfl | rfl | rfl
  · exact ⟨rfl, cmp_leq_t (by simp (disch := omega) only [IE.ev, rho_0] <;> omega)⟩
  · exact ⟨rfl, cmp_neq_t (by simp (disch := omega) only [IE.ev, rho_0, quo_u64, rem_u64] <;> omega)⟩
  · exact ⟨rfl, cmp_neq_f (by simp (disch := omega) only [IE.ev, rho_0, rem_u64] <;> omega)⟩
  · exact ⟨rfl, cmp_eql_t (by simp (disch := omega) only [IE.ev, rho_0, shr_u64_64] <;> omega)⟩
  · exact ⟨rfl, cmp_neq_t (by simp (disch := omega) only [IE.ev, rho_0, and_u32_exp, wrap_u32] <;> omega)⟩
  · exact ⟨rfl, cmp_neq_f (by simp (disch := omega) only [IE.ev, rho_0, wrap_u32] <;> omega)⟩
def J_c64lozero : List SEntry := [(5, [.agg [.v (.int .i64 10), .sym (.int .u64 (.var 0))]], .v (.int .i64 1)),
  (8, [.agg [.v (.int .i64 10), .sym (.int .u64 (.var 0))]], .v (.int .i64 1)),
  (6, [.agg [.v (.int .i64 10), .sym (.int .u64 (.var 0))]], .v (.tuple #[.int .i64 0, .int .i64 1]))]
theorem run_c64lozero (ρ : Nat → Int) (aR aS : Addr) : J_c64lozero.map (fun e => (@call (E ρ L_c64lozero) Tryz.prog (glob aR aS) noO 300 60 (.fn e.1) e.2.1 []).map fun r => nrm r.1) = J_c64lozero.map fun e => some e.2.2 := by kernel_rfl
theorem v_c64lozero (aR aS : Addr) (b : Int) (hb0 : 0 ≤ b) (hb1 : b < 18446744073709551616) (h0 : (b % 4294967296) = 2147483648) : VIs aR aS 10 b 1 1 0 := by
  have hL := ok_c64lozero b hb0 hb1 h0
  intro w hG
  refine ⟨calls_sym hL (noO_ok _ _ aR aS) (run_c64lozero _ aR aS) List.mem_cons_self rfl rfl rfl rfl hG, calls_sym hL (noO_ok _ _ aR aS) (run_c64lozero _ aR aS) (List.mem_cons_of_mem _ List.mem_cons_self) rfl rfl rfl rfl hG, calls_sym hL (noO_ok _ _ aR aS) (run_c64lozero _ aR aS) (List.mem_cons_of_mem _ (List.mem_cons_of_mem _ List.mem_cons_self)) rfl rfl rfl rfl hG, ?_⟩
  intro h
  exact absurd h (by decide)
end
end Go.Proofs.YtljmnbkjhgnaiaaGreatDoor
