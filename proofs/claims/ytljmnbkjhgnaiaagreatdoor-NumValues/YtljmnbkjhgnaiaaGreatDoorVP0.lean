import Derived.Test.YtljmnbkjhgnaiaaGreatDoorVA
namespace Go.Proofs.YtljmnbkjhgnaiaaGreatDoor
noncomputable section
open Go Go.RX
open Go.RowKit (Below)
set_option maxRecDepth 1000000
def L_bool0 : List CF := [⟨.leq, (.var 0), (.lit 1), true⟩,
  ⟨.eql, (.sh .shr .u64 (.var 0) (.lit 1)), (.lit 0), true⟩,
  ⟨.lss, (.lit 9223372036854775807), (.var 0), false⟩]
theorem ok_bool0 (b : Int) (hb0 : 0 ≤ b) (hb1 : b < 18446744073709551616) (h0 : b ≤ 1) : ∀ f ∈ L_bool0, f.ok (rho b 0 0 0 0 0) := by
  intro f hf
  simp only [L_bool0, List.mem_cons, List.not_mem_nil, or_false] at hf
  rcases hf with rfl | rfl | rfl
  · exact ⟨rfl, cmp_leq_t (by simp (disch := omega) only [IE.ev, rho_0] <;> omega)⟩
  · exact ⟨rfl, cmp_eql_t (by simp (disch := omega) only [IE.ev, rho_0, shr_u64_1] <;> omega)⟩
  · exact ⟨rfl, cmp_lss_f (by simp (disch := omega) only [IE.ev, rho_0] <;> omega)⟩
def J_bool0 : List SEntry := [(5, [.agg [.v (.int .i64 0), .sym (.int .u64 (.var 0))]], .v (.int .i64 0)),
  (8, [.agg [.v (.int .i64 0), .sym (.int .u64 (.var 0))]], .v (.int .i64 0)),
  (6, [.agg [.v (.int .i64 0), .sym (.int .u64 (.var 0))]], .tuple [.sym (.int .i64 (.cv .i64 (.var 0))), .v (.int .i64 0)]),
  (7, [.agg [.v (.int .i64 0), .sym (.int .u64 (.var 0))]], .tuple [.sym (.int .i64 (.cv .i64 (.var 0))), .v (.int .i64 0)])]
theorem run_bool0 (ρ : Nat → Int) (aR aS : Addr) : J_bool0.map (fun e => (@call (E ρ L_bool0) Tryz.prog (glob aR aS) noO 300 60 (.fn e.1) e.2.1 []).map fun r => nrm r.1) = J_bool0.map fun e => some e.2.2 := by kernel_rfl
theorem v_bool0 (aR aS : Addr) (b : Int) (hb0 : 0 ≤ b) (hb1 : b < 18446744073709551616) (h0 : b ≤ 1) : VIs aR aS 0 b 0 0 (IE.ev (rho b 0 0 0 0 0) (.cv .i64 (.var 0))) := by
  have hL := ok_bool0 b hb0 hb1 h0
  intro w hG
  refine ⟨calls_sym hL (noO_ok _ _ aR aS) (run_bool0 _ aR aS) List.mem_cons_self rfl rfl rfl rfl hG, calls_sym hL (noO_ok _ _ aR aS) (run_bool0 _ aR aS) (List.mem_cons_of_mem _ List.mem_cons_self) rfl rfl rfl rfl hG, calls_sym hL (noO_ok _ _ aR aS) (run_bool0 _ aR aS) (List.mem_cons_of_mem _ (List.mem_cons_of_mem _ List.mem_cons_self)) rfl rfl rfl rfl hG, ?_⟩
  intro _
  exact calls_sym hL (noO_ok _ _ aR aS) (run_bool0 _ aR aS) (List.mem_cons_of_mem _ (List.mem_cons_of_mem _ (List.mem_cons_of_mem _ List.mem_cons_self))) rfl rfl rfl rfl hG
def L_u16ok : List CF := [⟨.leq, (.var 0), (.lit 65535), true⟩,
  ⟨.eql, (.sh .shr .u64 (.var 0) (.lit 16)), (.lit 0), true⟩,
  ⟨.lss, (.lit 9223372036854775807), (.var 0), false⟩]
theorem ok_u16ok (b : Int) (hb0 : 0 ≤ b) (hb1 : b < 18446744073709551616) (h0 : b ≤ 65535) : ∀ f ∈ L_u16ok, f.ok (rho b 0 2 0 0 0) := by
  intro f hf
  simp only [L_u16ok, List.mem_cons, List.not_mem_nil, or_false] at hf
  rcases hf with rfl | rfl | rfl
  · exact ⟨rfl, cmp_leq_t (by simp (disch := omega) only [IE.ev, rho_0] <;> omega)⟩
  · exact ⟨rfl, cmp_eql_t (by simp (disch := omega) only [IE.ev, rho_0, shr_u64_16] <;> omega)⟩
  · exact ⟨rfl, cmp_lss_f (by simp (disch := omega) only [IE.ev, rho_0] <;> omega)⟩
def J_u16ok : List SEntry := [(5, [.agg [.v (.int .i64 2), .sym (.int .u64 (.var 0))]], .v (.int .i64 0)),
  (8, [.agg [.v (.int .i64 2), .sym (.int .u64 (.var 0))]], .v (.int .i64 0)),
  (6, [.agg [.v (.int .i64 2), .sym (.int .u64 (.var 0))]], .tuple [.sym (.int .i64 (.cv .i64 (.var 0))), .v (.int .i64 0)]),
  (7, [.agg [.v (.int .i64 2), .sym (.int .u64 (.var 0))]], .tuple [.sym (.int .i64 (.cv .i64 (.var 0))), .v (.int .i64 0)])]
theorem run_u16ok (ρ : Nat → Int) (aR aS : Addr) : J_u16ok.map (fun e => (@call (E ρ L_u16ok) Tryz.prog (glob aR aS) noO 300 60 (.fn e.1) e.2.1 []).map fun r => nrm r.1) = J_u16ok.map fun e => some e.2.2 := by kernel_rfl
theorem v_u16ok (aR aS : Addr) (b : Int) (hb0 : 0 ≤ b) (hb1 : b < 18446744073709551616) (h0 : b ≤ 65535) : VIs aR aS 2 b 0 0 (IE.ev (rho b 0 2 0 0 0) (.cv .i64 (.var 0))) := by
  have hL := ok_u16ok b hb0 hb1 h0
  intro w hG
  refine ⟨calls_sym hL (noO_ok _ _ aR aS) (run_u16ok _ aR aS) List.mem_cons_self rfl rfl rfl rfl hG, calls_sym hL (noO_ok _ _ aR aS) (run_u16ok _ aR aS) (List.mem_cons_of_mem _ List.mem_cons_self) rfl rfl rfl rfl hG, calls_sym hL (noO_ok _ _ aR aS) (run_u16ok _ aR aS) (List.mem_cons_of_mem _ (List.mem_cons_of_mem _ List.mem_cons_self)) rfl rfl rfl rfl hG, ?_⟩
  intro _
  exact calls_sym hL (noO_ok _ _ aR aS) (run_u16ok _ aR aS) (List.mem_cons_of_mem _ (List.mem_cons_of_mem _ (List.mem_cons_of_mem _ List.mem_cons_self))) rfl rfl rfl rfl hG
def L_u64ok : List CF := [⟨.leq, (.var 0), (.lit 18446744073709551615), true⟩,
  ⟨.eql, (.sh .shr .u64 (.var 0) (.lit 64)), (.lit 0), true⟩,
  ⟨.lss, (.lit 9223372036854775807), (.var 0), false⟩,
  ⟨.gtr, (.var 0), (.lit 9223372036854775807), false⟩]
theorem ok_u64ok (b : Int) (hb0 : 0 ≤ b) (hb1 : b < 18446744073709551616) (h0 : b ≤ 9223372036854775807) : ∀ f ∈ L_u64ok, f.ok (rho b 0 4 0 0 0) := by
  intro f hf
  simp only [L_u64ok, List.mem_cons, List.not_mem_nil, or_false] at hf
  rcases hf with rfl | rfl | rfl | rfl
  · exact ⟨rfl, cmp_leq_t (by simp (disch := omega) only [IE.ev, rho_0] <;> omega)⟩
  · exact ⟨rfl, cmp_eql_t (by simp (disch := omega) only [IE.ev, rho_0, shr_u64_64] <;> omega)⟩
  · exact ⟨rfl, cmp_lss_f (by simp (disch := omega) only [IE.ev, rho_0] <;> omega)⟩
  · exact ⟨rfl, cmp_gtr_f (by simp (disch := omega) only [IE.ev, rho_0] <;> omega)⟩
def J_u64ok : List SEntry := [(5, [.agg [.v (.int .i64 4), .sym (.int .u64 (.var 0))]], .v (.int .i64 0)),
  (8, [.agg [.v (.int .i64 4), .sym (.int .u64 (.var 0))]], .v (.int .i64 0)),
  (6, [.agg [.v (.int .i64 4), .sym (.int .u64 (.var 0))]], .tuple [.sym (.int .i64 (.cv .i64 (.var 0))), .v (.int .i64 0)]),
  (7, [.agg [.v (.int .i64 4), .sym (.int .u64 (.var 0))]], .tuple [.sym (.int .i64 (.cv .i64 (.var 0))), .v (.int .i64 0)])]
theorem run_u64ok (ρ : Nat → Int) (aR aS : Addr) : J_u64ok.map (fun e => (@call (E ρ L_u64ok) Tryz.prog (glob aR aS) noO 300 60 (.fn e.1) e.2.1 []).map fun r => nrm r.1) = J_u64ok.map fun e => some e.2.2 := by kernel_rfl
theorem v_u64ok (aR aS : Addr) (b : Int) (hb0 : 0 ≤ b) (hb1 : b < 18446744073709551616) (h0 : b ≤ 9223372036854775807) : VIs aR aS 4 b 0 0 (IE.ev (rho b 0 4 0 0 0) (.cv .i64 (.var 0))) := by
  have hL := ok_u64ok b hb0 hb1 h0
  intro w hG
  refine ⟨calls_sym hL (noO_ok _ _ aR aS) (run_u64ok _ aR aS) List.mem_cons_self rfl rfl rfl rfl hG, calls_sym hL (noO_ok _ _ aR aS) (run_u64ok _ aR aS) (List.mem_cons_of_mem _ List.mem_cons_self) rfl rfl rfl rfl hG, calls_sym hL (noO_ok _ _ aR aS) (run_u64ok _ aR aS) (List.mem_cons_of_mem _ (List.mem_cons_of_mem _ List.mem_cons_self)) rfl rfl rfl rfl hG, ?_⟩
  intro _
  exact calls_sym hL (noO_ok _ _ aR aS) (run_u64ok _ aR aS) (List.mem_cons_of_mem _ (List.mem_cons_of_mem _ (List.mem_cons_of_mem _ List.mem_cons_self))) rfl rfl rfl rfl hG
def L_i8bad : List CF := [⟨.leq, (.var 0), (.lit 255), false⟩,
  ⟨.eql, (.sh .shr .u64 (.var 0) (.lit 8)), (.lit 0), false⟩]
theorem ok_i8bad (b : Int) (hb0 : 0 ≤ b) (hb1 : b < 18446744073709551616) (h0 : 255 < b) : ∀ f ∈ L_i8bad, f.ok (rho b 0 5 0 0 0) := by
  intro f hf
  simp only [L_i8bad, List.mem_cons, List.not_mem_nil, or_false] at hf
  rcases hf with rfl | rfl
  · exact ⟨rfl, cmp_leq_f (by simp (disch := omega) only [IE.ev, rho_0] <;> omega)⟩
  · exact ⟨rfl, cmp_eql_f (by simp (disch := omega) only [IE.ev, rho_0, shr_u64_8] <;> omega)⟩
def J_i8bad : List SEntry := [(5, [.agg [.v (.int .i64 5), .sym (.int .u64 (.var 0))]], .v (.int .i64 1)),
  (8, [.agg [.v (.int .i64 5), .sym (.int .u64 (.var 0))]], .v (.int .i64 1)),
  (6, [.agg [.v (.int .i64 5), .sym (.int .u64 (.var 0))]], .v (.tuple #[.int .i64 0, .int .i64 1]))]
theorem run_i8bad (ρ : Nat → Int) (aR aS : Addr) : J_i8bad.map (fun e => (@call (E ρ L_i8bad) Tryz.prog (glob aR aS) noO 300 60 (.fn e.1) e.2.1 []).map fun r => nrm r.1) = J_i8bad.map fun e => some e.2.2 := by kernel_rfl
theorem v_i8bad (aR aS : Addr) (b : Int) (hb0 : 0 ≤ b) (hb1 : b < 18446744073709551616) (h0 : 255 < b) : VIs aR aS 5 b 1 1 0 := by
  have hL := ok_i8bad b hb0 hb1 h0
  intro w hG
  refine ⟨calls_sym hL (noO_ok _ _ aR aS) (run_i8bad _ aR aS) List.mem_cons_self rfl rfl rfl rfl hG, calls_sym hL (noO_ok _ _ aR aS) (run_i8bad _ aR aS) (List.mem_cons_of_mem _ List.mem_cons_self) rfl rfl rfl rfl hG, calls_sym hL (noO_ok _ _ aR aS) (run_i8bad _ aR aS) (List.mem_cons_of_mem _ (List.mem_cons_of_mem _ List.mem_cons_self)) rfl rfl rfl rfl hG, ?_⟩
  intro h
  exact absurd h (by decide)
def L_i32pos : List CF := [⟨.leq, (.var 0), (.lit 4294967295), true⟩,
  ⟨.eql, (.sh .shr .u64 (.var 0) (.lit 32)), (.lit 0), true⟩,
  ⟨.neq, (.lit 0), (.cv .u64 (.sh .shr .i64 (.sh .shr .i64 (.cv .i64 (.sh .shl .u64 (.var 0) (.lit 32))) (.lit 32)) (.lit 63))), false⟩,
  ⟨.lss, (.lit 9223372036854775807), (.cv .u64 (.sh .shr .i64 (.cv .i64 (.sh .shl .u64 (.var 0) (.lit 32))) (.lit 32))), false⟩,
  ⟨.gtr, (.var 0), (.lit 2147483647), false⟩]
theorem ok_i32pos (b : Int) (hb0 : 0 ≤ b) (hb1 : b < 18446744073709551616) (h0 : b ≤ 2147483647) : ∀ f ∈ L_i32pos, f.ok (rho b 0 7 0 0 0) := by
  intro f hf
  simp only [L_i32pos, List.mem_cons, List.not_mem_nil, or_false] at hf
  rcases hf with rfl | rfl | rfl | rfl | rfl
  · exact ⟨rfl, cmp_leq_t (by simp (disch := omega) only [IE.ev, rho_0] <;> omega)⟩
  · exact ⟨rfl, cmp_eql_t (by simp (disch := omega) only [IE.ev, rho_0, shr_u64_32] <;> omega)⟩
  · exact ⟨rfl, cmp_neq_f (by simp (disch := omega) only [IE.ev, rho_0, shl_u64_32, shr_i64_32, shr_i64_63, wrap_i64, wrap_u64] <;> omega)⟩
  · exact ⟨rfl, cmp_lss_f (by simp (disch := omega) only [IE.ev, rho_0, shl_u64_32, shr_i64_32, wrap_i64, wrap_u64] <;> omega)⟩
  · exact ⟨rfl, cmp_gtr_f (by simp (disch := omega) only [IE.ev, rho_0] <;> omega)⟩
def J_i32pos : List SEntry := [(5, [.agg [.v (.int .i64 7), .sym (.int .u64 (.var 0))]], .v (.int .i64 0)),
  (8, [.agg [.v (.int .i64 7), .sym (.int .u64 (.var 0))]], .v (.int .i64 0)),
  (6, [.agg [.v (.int .i64 7), .sym (.int .u64 (.var 0))]], .tuple [.sym (.int .i64 (.cv .i64 (.cv .u64 (.sh .shr .i64 (.cv .i64 (.sh .shl .u64 (.var 0) (.lit 32))) (.lit 32))))), .v (.int .i64 0)]),
  (7, [.agg [.v (.int .i64 7), .sym (.int .u64 (.var 0))]], .tuple [.sym (.int .i64 (.cv .i64 (.var 0))), .v (.int .i64 0)])]
theorem run_i32pos (ρ : Nat → Int) (aR aS : Addr) : J_i32pos.map (fun e => (@call (E ρ L_i32pos) Tryz.prog (glob aR aS) noO 300 60 (.fn e.1) e.2.1 []).map fun r => nrm r.1) = J_i32pos.map fun e => some e.2.2 := by kernel_rfl
theorem v_i32pos (aR aS : Addr) (b : Int) (hb0 : 0 ≤ b) (hb1 : b < 18446744073709551616) (h0 : b ≤ 2147483647) : VIs aR aS 7 b 0 0 (IE.ev (rho b 0 7 0 0 0) (.cv .i64 (.cv .u64 (.sh .shr .i64 (.cv .i64 (.sh .shl .u64 (.var 0) (.lit 32))) (.lit 32))))) := by
  have hL := ok_i32pos b hb0 hb1 h0
  have hK : IE.ev (rho b 0 7 0 0 0) (.cv .i64 (.var 0)) = IE.ev (rho b 0 7 0 0 0) (.cv .i64 (.cv .u64 (.sh .shr .i64 (.cv .i64 (.sh .shl .u64 (.var 0) (.lit 32))) (.lit 32)))) := by simp (disch := omega) only [IE.ev, rho_0, shl_u64_32, shr_i64_32, wrap_i64, wrap_u64] <;> omega
  intro w hG
  refine ⟨calls_sym hL (noO_ok _ _ aR aS) (run_i32pos _ aR aS) List.mem_cons_self rfl rfl rfl rfl hG, calls_sym hL (noO_ok _ _ aR aS) (run_i32pos _ aR aS) (List.mem_cons_of_mem _ List.mem_cons_self) rfl rfl rfl rfl hG, calls_sym hL (noO_ok _ _ aR aS) (run_i32pos _ aR aS) (List.mem_cons_of_mem _ (List.mem_cons_of_mem _ List.mem_cons_self)) rfl rfl rfl rfl hG, ?_⟩
  intro _
  rw [← hK]
  exact calls_sym hL (noO_ok _ _ aR aS) (run_i32pos _ aR aS) (List.mem_cons_of_mem _ (List.mem_cons_of_mem _ (List.mem_cons_of_mem _ List.mem_cons_self))) rfl rfl rfl rfl hG
def L_i64neg : List CF := [⟨.leq, (.var 0), (.lit 18446744073709551615), true⟩,
  ⟨.eql, (.sh .shr .u64 (.var 0) (.lit 64)), (.lit 0), true⟩,
  ⟨.neq, (.lit 0), (.cv .u64 (.sh .shr .i64 (.sh .shr .i64 (.cv .i64 (.sh .shl .u64 (.var 0) (.lit 0))) (.lit 0)) (.lit 63))), true⟩,
  ⟨.lss, (.lit 0), (.cv .i64 (.cv .u64 (.sh .shr .i64 (.sh .shr .i64 (.cv .i64 (.sh .shl .u64 (.var 0) (.lit 0))) (.lit 0)) (.lit 63)))), false⟩,
  ⟨.gtr, (.var 0), (.lit 9223372036854775807), true⟩]
theorem ok_i64neg (b : Int) (hb0 : 0 ≤ b) (hb1 : b < 18446744073709551616) (h0 : 9223372036854775807 < b) : ∀ f ∈ L_i64neg, f.ok (rho b 0 8 0 0 0) := by
  intro f hf
  simp only [L_i64neg, List.mem_cons, List.not_mem_nil, or_false] at hf
  rcases hf with rfl | rfl | rfl | rfl | rfl
  · exact ⟨rfl, cmp_leq_t (by simp (disch := omega) only [IE.ev, rho_0] <;> omega)⟩
  · exact ⟨rfl, cmp_eql_t (by simp (disch := omega) only [IE.ev, rho_0, shr_u64_64] <;> omega)⟩
  · exact ⟨rfl, cmp_neq_t (by simp (disch := omega) only [IE.ev, rho_0, shl_u64_0, shr_i64_0, shr_i64_63, wrap_i64, wrap_u64] <;> omega)⟩
  · exact ⟨rfl, cmp_lss_f (by simp (disch := omega) only [IE.ev, rho_0, shl_u64_0, shr_i64_0, shr_i64_63, wrap_i64, wrap_u64] <;> omega)⟩
  · exact ⟨rfl, cmp_gtr_t (by simp (disch := omega) only [IE.ev, rho_0] <;> omega)⟩
def J_i64neg : List SEntry := [(5, [.agg [.v (.int .i64 8), .sym (.int .u64 (.var 0))]], .v (.int .i64 0)),
  (8, [.agg [.v (.int .i64 8), .sym (.int .u64 (.var 0))]], .v (.int .i64 0)),
  (6, [.agg [.v (.int .i64 8), .sym (.int .u64 (.var 0))]], .tuple [.sym (.int .i64 (.cv .i64 (.cv .u64 (.sh .shr .i64 (.cv .i64 (.sh .shl .u64 (.var 0) (.lit 0))) (.lit 0))))), .v (.int .i64 0)]),
  (7, [.agg [.v (.int .i64 8), .sym (.int .u64 (.var 0))]], .tuple [.sym (.int .i64 (.cv .i64 (.bin .or .u64 (.var 0) (.lit 0)))), .v (.int .i64 0)])]
theorem run_i64neg (ρ : Nat → Int) (aR aS : Addr) : J_i64neg.map (fun e => (@call (E ρ L_i64neg) Tryz.prog (glob aR aS) noO 300 60 (.fn e.1) e.2.1 []).map fun r => nrm r.1) = J_i64neg.map fun e => some e.2.2 := by kernel_rfl
theorem v_i64neg (aR aS : Addr) (b : Int) (hb0 : 0 ≤ b) (hb1 : b < 18446744073709551616) (h0 : 9223372036854775807 < b) : VIs aR aS 8 b 0 0 (IE.ev (rho b 0 8 0 0 0) (.cv .i64 (.cv .u64 (.sh .shr .i64 (.cv .i64 (.sh .shl .u64 (.var 0) (.lit 0))) (.lit 0))))) := by
  have hL := ok_i64neg b hb0 hb1 h0
  have hK : IE.ev (rho b 0 8 0 0 0) (.cv .i64 (.bin .or .u64 (.var 0) (.lit 0))) = IE.ev (rho b 0 8 0 0 0) (.cv .i64 (.cv .u64 (.sh .shr .i64 (.cv .i64 (.sh .shl .u64 (.var 0) (.lit 0))) (.lit 0)))) := by simp (disch := omega) only [IE.ev, rho_0, or_u64_64, shl_u64_0, shr_i64_0, wrap_i64, wrap_u64] <;> omega
  intro w hG
  refine ⟨calls_sym hL (noO_ok _ _ aR aS) (run_i64neg _ aR aS) List.mem_cons_self rfl rfl rfl rfl hG, calls_sym hL (noO_ok _ _ aR aS) (run_i64neg _ aR aS) (List.mem_cons_of_mem _ List.mem_cons_self) rfl rfl rfl rfl hG, calls_sym hL (noO_ok _ _ aR aS) (run_i64neg _ aR aS) (List.mem_cons_of_mem _ (List.mem_cons_of_mem _ List.mem_cons_self)) rfl rfl rfl rfl hG, ?_⟩
  intro _
  rw [← hK]
  exact calls_sym hL (noO_ok _ _ aR aS) (run_i64neg _ aR aS) (List.mem_cons_of_mem _ (List.mem_cons_of_mem _ (List.mem_cons_of_mem _ List.mem_cons_self))) rfl rfl rfl rfl hG
def L_f32ok : List CF := [⟨.leq, (.var 0), (.lit 4294967295), true⟩,
  ⟨.neq, (.bin .rem .u64 (.bin .quo .u64 (.var 0) (.lit 8388608)) (.lit 256)), (.lit 255), true⟩,
  ⟨.neq, (.var 0), (.lit 2147483648), true⟩,
  ⟨.eql, (.sh .shr .u64 (.var 0) (.lit 32)), (.lit 0), true⟩,
  ⟨.neq, (.bin .and .u32 (.cv .u32 (.var 0)) (.lit 2139095040)), (.lit 2139095040), true⟩,
  ⟨.neq, (.cv .u32 (.var 0)), (.lit 2147483648), true⟩]
theorem ok_f32ok (b : Int) (hb0 : 0 ≤ b) (hb1 : b < 18446744073709551616) (h0 : b < 4294967296) (h1 : b / 8388608 % 256 ≠ 255) (h2 : b ≠ 2147483648) : ∀ f ∈ L_f32ok, f.ok (rho b 0 9 0 0 0) := by
  intro f hf
  simp only [L_f32ok, List.mem_cons, List.not_mem_nil, or_false] at hf
  rcases hf with rfl | rfl | rfl | rfl | rfl | rfl
  · exact ⟨rfl, cmp_leq_t (by simp (disch := omega) only [IE.ev, rho_0] <;> omega)⟩
  · exact ⟨rfl, cmp_neq_t (by simp (disch := omega) only [IE.ev, rho_0, quo_u64, rem_u64] <;> omega)⟩
  · exact ⟨rfl, cmp_neq_t (by simp (disch := omega) only [IE.ev, rho_0] <;> omega)⟩
  · exact ⟨rfl, cmp_eql_t (by simp (disch := omega) only [IE.ev, rho_0, shr_u64_32] <;> omega)⟩
  · exact ⟨rfl, cmp_neq_t (by simp (disch := omega) only [IE.ev, rho_0, and_u32_exp, wrap_u32] <;> omega)⟩
  · exact ⟨rfl, cmp_neq_t (by simp (disch := omega) only [IE.ev, rho_0, wrap_u32] <;> omega)⟩
def J_f32ok : List SEntry := [(5, [.agg [.v (.int .i64 9), .sym (.int .u64 (.var 0))]], .v (.int .i64 0)),
  (8, [.agg [.v (.int .i64 9), .sym (.int .u64 (.var 0))]], .v (.int .i64 0)),
  (6, [.agg [.v (.int .i64 9), .sym (.int .u64 (.var 0))]], .v (.tuple #[.int .i64 0, .int .i64 12])),
  (7, [.agg [.v (.int .i64 9), .sym (.int .u64 (.var 0))]], .v (.tuple #[.int .i64 0, .int .i64 12]))]
theorem run_f32ok (ρ : Nat → Int) (aR aS : Addr) : J_f32ok.map (fun e => (@call (E ρ L_f32ok) Tryz.prog (glob aR aS) noO 300 60 (.fn e.1) e.2.1 []).map fun r => nrm r.1) = J_f32ok.map fun e => some e.2.2 := by kernel_rfl
theorem v_f32ok (aR aS : Addr) (b : Int) (hb0 : 0 ≤ b) (hb1 : b < 18446744073709551616) (h0 : b < 4294967296) (h1 : b / 8388608 % 256 ≠ 255) (h2 : b ≠ 2147483648) : VIs aR aS 9 b 0 12 0 := by
  have hL := ok_f32ok b hb0 hb1 h0 h1 h2
  intro w hG
  refine ⟨calls_sym hL (noO_ok _ _ aR aS) (run_f32ok _ aR aS) List.mem_cons_self rfl rfl rfl rfl hG, calls_sym hL (noO_ok _ _ aR aS) (run_f32ok _ aR aS) (List.mem_cons_of_mem _ List.mem_cons_self) rfl rfl rfl rfl hG, calls_sym hL (noO_ok _ _ aR aS) (run_f32ok _ aR aS) (List.mem_cons_of_mem _ (List.mem_cons_of_mem _ List.mem_cons_self)) rfl rfl rfl rfl hG, ?_⟩
  intro _
  exact calls_sym hL (noO_ok _ _ aR aS) (run_f32ok _ aR aS) (List.mem_cons_of_mem _ (List.mem_cons_of_mem _ (List.mem_cons_of_mem _ List.mem_cons_self))) rfl rfl rfl rfl hG
def L_c64hizero : List CF := [⟨.leq, (.var 0), (.lit 18446744073709551615), true⟩,
  ⟨.neq, (.bin .rem .u64 (.bin .quo .u64 (.bin .rem .u64 (.var 0) (.lit 4294967296)) (.lit 8388608)) (.lit 256)), (.lit 255), true⟩,
  ⟨.neq, (.bin .rem .u64 (.var 0) (.lit 4294967296)), (.lit 2147483648), true⟩,
  ⟨.neq, (.bin .rem .u64 (.bin .quo .u64 (.bin .quo .u64 (.var 0) (.lit 4294967296)) (.lit 8388608)) (.lit 256)), (.lit 255), true⟩,
  ⟨.neq, (.bin .quo .u64 (.var 0) (.lit 4294967296)), (.lit 2147483648), false⟩,
  ⟨.eql, (.sh .shr .u64 (.var 0) (.lit 64)), (.lit 0), true⟩,
  ⟨.neq, (.bin .and .u32 (.cv .u32 (.var 0)) (.lit 2139095040)), (.lit 2139095040), true⟩,
  ⟨.neq, (.cv .u32 (.var 0)), (.lit 2147483648), true⟩,
  ⟨.neq, (.bin .and .u32 (.cv .u32 (.sh .shr .u64 (.var 0) (.lit 32))) (.lit 2139095040)), (.lit 2139095040), true⟩,
  ⟨.neq, (.cv .u32 (.sh .shr .u64 (.var 0) (.lit 32))), (.lit 2147483648), false⟩]
theorem ok_c64hizero (b : Int) (hb0 : 0 ≤ b) (hb1 : b < 18446744073709551616) (h0 : (b % 4294967296) / 8388608 % 256 ≠ 255) (h1 : (b % 4294967296) ≠ 2147483648) (h2 : (b / 4294967296) = 2147483648) : ∀ f ∈ L_c64hizero, f.ok (rho b 0 10 0 0 0) := by
  intro f hf
  simp only [L_c64hizero, List.mem_cons, List.not_mem_nil, or_false] at hf
  rcases hf with rfl | rfl | rfl | rfl | rfl | rfl | rfl | rfl | rfl | rfl
  · exact ⟨rfl, cmp_leq_t (by simp (disch := omega) only [IE.ev, rho_0] <;> omega)⟩
  · exact ⟨rfl, cmp_neq_t (by simp (disch := omega) only [IE.ev, rho_0, quo_u64, rem_u64] <;> omega)⟩
  · exact ⟨rfl, cmp_neq_t (by simp (disch := omega) only [IE.ev, rho_0, rem_u64] <;> omega)⟩
  · exact ⟨rfl, cmp_neq_t (by simp (disch := omega) only [IE.ev, rho_0, quo_u64, rem_u64] <;> omega)⟩
  · exact ⟨rfl, cmp_neq_f (by simp (disch := omega) only [IE.ev, rho_0, quo_u64] <;> omega)⟩
  · exact ⟨rfl, cmp_eql_t (by simp (disch := omega) only [IE.ev, rho_0, shr_u64_64] <;> omega)⟩
  · exact ⟨rfl, cmp_neq_t (by simp (disch := omega) only [IE.ev, rho_0, and_u32_exp, wrap_u32] <;> omega)⟩
  · exact ⟨rfl, cmp_neq_t (by simp (disch := omega) only [IE.ev, rho_0, wrap_u32] <;> omega)⟩
  · exact ⟨rfl, cmp_neq_t (by simp (disch := omega) only [IE.ev, rho_0, and_u32_exp, shr_u64_32, wrap_u32] <;> omega)⟩
  · exact ⟨rfl, cmp_neq_f (by simp (disch := omega) only [IE.ev, rho_0, shr_u64_32, wrap_u32] <;> omega)⟩
def J_c64hizero : List SEntry := [(5, [.agg [.v (.int .i64 10), .sym (.int .u64 (.var 0))]], .v (.int .i64 1)),
  (8, [.agg [.v (.int .i64 10), .sym (.int .u64 (.var 0))]], .v (.int .i64 1)),
  (6, [.agg [.v (.int .i64 10), .sym (.int .u64 (.var 0))]], .v (.tuple #[.int .i64 0, .int .i64 1]))]
theorem run_c64hizero (ρ : Nat → Int) (aR aS : Addr) : J_c64hizero.map (fun e => (@call (E ρ L_c64hizero) Tryz.prog (glob aR aS) noO 300 60 (.fn e.1) e.2.1 []).map fun r => nrm r.1) = J_c64hizero.map fun e => some e.2.2 := by kernel_rfl
theorem v_c64hizero (aR aS : Addr) (b : Int) (hb0 : 0 ≤ b) (hb1 : b < 18446744073709551616) (h0 : (b % 4294967296) / 8388608 % 256 ≠ 255) (h1 : (b % 4294967296) ≠ 2147483648) (h2 : (b / 4294967296) = 2147483648) : VIs aR aS 10 b 1 1 0 := by
  have hL := ok_c64hizero b hb0 hb1 h0 h1 h2
  intro w hG
  refine ⟨calls_sym hL (noO_ok _ _ aR aS) (run_c64hizero _ aR aS) List.mem_cons_self rfl rfl rfl rfl hG, calls_sym hL (noO_ok _ _ aR aS) (run_c64hizero _ aR aS) (List.mem_cons_of_mem _ List.mem_cons_self) rfl rfl rfl rfl hG, calls_sym hL (noO_ok _ _ aR aS) (run_c64hizero _ aR aS) (List.mem_cons_of_mem _ (List.mem_cons_of_mem _ List.mem_cons_self)) rfl rfl rfl rfl hG, ?_⟩
  intro h
  exact absurd h (by decide)
end
end Go.Proofs.YtljmnbkjhgnaiaaGreatDoor
