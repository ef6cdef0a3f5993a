import Derived.Test.YtedbnohkkepajaaGreatDoorGE
namespace Go.Proofs.YtedbnohkkepajaaGreatDoor
noncomputable section
open Go Go.RX
open Go.RowKit (Below)
set_option maxRecDepth 1000000
set_option maxHeartbeats 4000000
def L_5_8_0 : List CF := [⟨.eql, (.sh .shr .u64 (.var 0) (.lit 8)), (.lit 0), true⟩,
  ⟨.eql, (.sh .shr .u64 (.var 1) (.lit 8)), (.lit 0), true⟩]
def J_5_8_0 : List SEntry := [(5, [.v (.int .i64 8), .agg [.v (.int .i64 5), .sym (.int .u64 (.var 0))], .agg [.v (.int .i64 5), .sym (.int .u64 (.var 1))]], .tuple [.agg [.v (.int .i64 5), .sym (.int .u64 (.sh .shr .u64 (.sh .shl .u64 (.bin .mul .u64 (.cv .u64 (.sh .shr .i64 (.cv .i64 (.sh .shl .u64 (.var 0) (.lit 56))) (.lit 56))) (.cv .u64 (.sh .shr .i64 (.cv .i64 (.sh .shl .u64 (.var 1) (.lit 56))) (.lit 56)))) (.lit 56)) (.lit 56)))], .v (.int .i64 0)]),
  (7, [.v (.int .i64 8), .sym (.int .i64 (.var 2)), .sym (.int .i64 (.var 3))], .tuple [.sym (.int .i64 (.bin .mul .i64 (.var 2) (.var 3))), .v (.bool true)])]
theorem run_5_8_0 (ρ : Nat → Int) (aR aS : Addr) : J_5_8_0.map (fun e => (@call (E ρ (knowL L_5_8_0) []) Tryz.prog (glob aR aS) noO 300 60 (.fn e.1) e.2.1 []).map fun r => nrm r.1) = J_5_8_0.map fun e => some e.2.2 := by kernel_rfl
theorem good_5_8 (aR aS : Addr) (x y : Int) (hx0 : (-128) ≤ x) (hx1 : x ≤ 127) (hy0 : (-128) ≤ y) (hy1 : y ≤ 127) : Good aR aS 8 5 5 (-128) 127 x y := by
  have hx : x < 0 ∨ 0 ≤ x := by omega
  rcases hx with hx | hx
  · have hy : y < 0 ∨ 0 ≤ y := by omega
    rcases hy with hy | hy
    · have a0 := eix_n x y (by omega) (by omega)
      have a1 := eHx_n x y (by omega) (by omega)
      have a2 := ehx_n x y (by omega) (by omega)
      have a3 := eNx_n x y (by omega) (by omega)
      have a4 := eSx_n x y (by omega) (by omega)
      have a5 := esx_n x y (by omega) (by omega)
      have a6 := eVx_n x y (by omega) (by omega)
      have a7 := eiy_n x y (by omega) (by omega)
      have a8 := eHy_n x y (by omega) (by omega)
      have a9 := ehy_n x y (by omega) (by omega)
      have a10 := eNy_n x y (by omega) (by omega)
      have a11 := eSy_n x y (by omega) (by omega)
      have a12 := esy_n x y (by omega) (by omega)
      have a13 := eVy_n x y (by omega) (by omega)
      have hL : ∀ f ∈ L_5_8_0, f.ok (rho (x % 256) (y % 256) x y) := by
        intro f hf
        simp only [L_5_8_0, List.mem_cons, List.not_mem_nil, or_false] at hf
        rcases hf with rfl | rfl
        · exact ⟨rfl, cmp_eql_t (by (simp (disch := omega) only [↓a6, IE.ev, shr_u64_8] <;> try simp only [wrap_i64, wrap_u64]) <;> omega)⟩
        · exact ⟨rfl, cmp_eql_t (by (simp (disch := omega) only [↓a13, IE.ev, shr_u64_8] <;> try simp only [wrap_i64, wrap_u64]) <;> omega)⟩
      have ht : toldI 8 y = true := by simp [toldI]
      refine ⟨(IE.ev (rho (x % 256) (y % 256) x y) (.sh .shr .u64 (.sh .shl .u64 (.bin .mul .u64 (.cv .u64 (.sh .shr .i64 (.cv .i64 (.sh .shl .u64 (.var 0) (.lit 56))) (.lit 56))) (.cv .u64 (.sh .shr .i64 (.cv .i64 (.sh .shl .u64 (.var 1) (.lit 56))) (.lit 56)))) (.lit 56)) (.lit 56))), (IE.ev (rho (x % 256) (y % 256) x y) (.bin .mul .i64 (.var 2) (.var 3))), fun w hG => ⟨calls_sym hL (run_5_8_0 _ aR aS) List.mem_cons_self rfl rfl rfl rfl hG, ?_⟩, ?_⟩
      · rw [ht]
        exact calls_sym hL (run_5_8_0 _ aR aS) (List.mem_cons_of_mem _ List.mem_cons_self) rfl rfl rfl rfl hG
      · intro _
        clear hL
        unfold clampI
        rw [if_neg (by decide)]
        (simp (disch := omega) only [↓a4, ↓a11, IE.ev, rho_2, rho_3, shl_u64_56, shr_u64_56, ev_mul, wmul_1, wmul_2] <;> try simp only [wrap_i64, wrap_u64])
        generalize x * y = p
        omega
    · have a0 := eix_n x y (by omega) (by omega)
      have a1 := eHx_n x y (by omega) (by omega)
      have a2 := ehx_n x y (by omega) (by omega)
      have a3 := eNx_n x y (by omega) (by omega)
      have a4 := eSx_n x y (by omega) (by omega)
      have a5 := esx_n x y (by omega) (by omega)
      have a6 := eVx_n x y (by omega) (by omega)
      have a7 := eiy_p x y (by omega) (by omega)
      have a8 := eHy_p x y (by omega) (by omega)
      have a9 := ehy_p x y (by omega) (by omega)
      have a10 := eSy_p x y (by omega) (by omega)
      have a11 := esy_p x y (by omega) (by omega)
      have a12 := eVy_p x y (by omega) (by omega)
      have hL : ∀ f ∈ L_5_8_0, f.ok (rho (x % 256) (y % 256) x y) := by
        intro f hf
        simp only [L_5_8_0, List.mem_cons, List.not_mem_nil, or_false] at hf
        rcases hf with rfl | rfl
        · exact ⟨rfl, cmp_eql_t (by (simp (disch := omega) only [↓a6, IE.ev, shr_u64_8] <;> try simp only [wrap_i64, wrap_u64]) <;> omega)⟩
        · exact ⟨rfl, cmp_eql_t (by (simp (disch := omega) only [↓a12, IE.ev, shr_u64_8] <;> try simp only [wrap_i64, wrap_u64]) <;> omega)⟩
      have ht : toldI 8 y = true := by simp [toldI]
      refine ⟨(IE.ev (rho (x % 256) (y % 256) x y) (.sh .shr .u64 (.sh .shl .u64 (.bin .mul .u64 (.cv .u64 (.sh .shr .i64 (.cv .i64 (.sh .shl .u64 (.var 0) (.lit 56))) (.lit 56))) (.cv .u64 (.sh .shr .i64 (.cv .i64 (.sh .shl .u64 (.var 1) (.lit 56))) (.lit 56)))) (.lit 56)) (.lit 56))), (IE.ev (rho (x % 256) (y % 256) x y) (.bin .mul .i64 (.var 2) (.var 3))), fun w hG => ⟨calls_sym hL (run_5_8_0 _ aR aS) List.mem_cons_self rfl rfl rfl rfl hG, ?_⟩, ?_⟩
      · rw [ht]
        exact calls_sym hL (run_5_8_0 _ aR aS) (List.mem_cons_of_mem _ List.mem_cons_self) rfl rfl rfl rfl hG
      · intro _
        clear hL
        unfold clampI
        rw [if_neg (by decide)]
        (simp (disch := omega) only [↓a4, ↓a10, IE.ev, rho_2, rho_3, shl_u64_56, shr_u64_56, ev_mul, wmul_1] <;> try simp only [wrap_i64, wrap_u64])
        generalize x * y = p
        omega
  · have hy : y < 0 ∨ 0 ≤ y := by omega
    rcases hy with hy | hy
    · have a0 := eix_p x y (by omega) (by omega)
      have a1 := eHx_p x y (by omega) (by omega)
      have a2 := ehx_p x y (by omega) (by omega)
      have a3 := eSx_p x y (by omega) (by omega)
      have a4 := esx_p x y (by omega) (by omega)
      have a5 := eVx_p x y (by omega) (by omega)
      have a6 := eiy_n x y (by omega) (by omega)
      have a7 := eHy_n x y (by omega) (by omega)
      have a8 := ehy_n x y (by omega) (by omega)
      have a9 := eNy_n x y (by omega) (by omega)
      have a10 := eSy_n x y (by omega) (by omega)
      have a11 := esy_n x y (by omega) (by omega)
      have a12 := eVy_n x y (by omega) (by omega)
      have hL : ∀ f ∈ L_5_8_0, f.ok (rho (x % 256) (y % 256) x y) := by
        intro f hf
        simp only [L_5_8_0, List.mem_cons, List.not_mem_nil, or_false] at hf
        rcases hf with rfl | rfl
        · exact ⟨rfl, cmp_eql_t (by (simp (disch := omega) only [↓a5, IE.ev, shr_u64_8] <;> try simp only [wrap_i64, wrap_u64]) <;> omega)⟩
        · exact ⟨rfl, cmp_eql_t (by (simp (disch := omega) only [↓a12, IE.ev, shr_u64_8] <;> try simp only [wrap_i64, wrap_u64]) <;> omega)⟩
      have ht : toldI 8 y = true := by simp [toldI]
      refine ⟨(IE.ev (rho (x % 256) (y % 256) x y) (.sh .shr .u64 (.sh .shl .u64 (.bin .mul .u64 (.cv .u64 (.sh .shr .i64 (.cv .i64 (.sh .shl .u64 (.var 0) (.lit 56))) (.lit 56))) (.cv .u64 (.sh .shr .i64 (.cv .i64 (.sh .shl .u64 (.var 1) (.lit 56))) (.lit 56)))) (.lit 56)) (.lit 56))), (IE.ev (rho (x % 256) (y % 256) x y) (.bin .mul .i64 (.var 2) (.var 3))), fun w hG => ⟨calls_sym hL (run_5_8_0 _ aR aS) List.mem_cons_self rfl rfl rfl rfl hG, ?_⟩, ?_⟩
      · rw [ht]
        exact calls_sym hL (run_5_8_0 _ aR aS) (List.mem_cons_of_mem _ List.mem_cons_self) rfl rfl rfl rfl hG
      · intro _
        clear hL
        unfold clampI
        rw [if_neg (by decide)]
        (simp (disch := omega) only [↓a3, ↓a10, IE.ev, rho_2, rho_3, shl_u64_56, shr_u64_56, ev_mul, wmul_2] <;> try simp only [wrap_i64, wrap_u64])
        generalize x * y = p
        omega
    · have a0 := eix_p x y (by omega) (by omega)
      have a1 := eHx_p x y (by omega) (by omega)
      have a2 := ehx_p x y (by omega) (by omega)
      have a3 := eSx_p x y (by omega) (by omega)
      have a4 := esx_p x y (by omega) (by omega)
      have a5 := eVx_p x y (by omega) (by omega)
      have a6 := eiy_p x y (by omega) (by omega)
      have a7 := eHy_p x y (by omega) (by omega)
      have a8 := ehy_p x y (by omega) (by omega)
      have a9 := eSy_p x y (by omega) (by omega)
      have a10 := esy_p x y (by omega) (by omega)
      have a11 := eVy_p x y (by omega) (by omega)
      have hL : ∀ f ∈ L_5_8_0, f.ok (rho (x % 256) (y % 256) x y) := by
        intro f hf
        simp only [L_5_8_0, List.mem_cons, List.not_mem_nil, or_false] at hf
        rcases hf with rfl | rfl
        · exact ⟨rfl, cmp_eql_t (by (simp (disch := omega) only [↓a5, IE.ev, shr_u64_8] <;> try simp only [wrap_i64, wrap_u64]) <;> omega)⟩
        · exact ⟨rfl, cmp_eql_t (by (simp (disch := omega) only [↓a11, IE.ev, shr_u64_8] <;> try simp only [wrap_i64, wrap_u64]) <;> omega)⟩
      have ht : toldI 8 y = true := by simp [toldI]
      refine ⟨(IE.ev (rho (x % 256) (y % 256) x y) (.sh .shr .u64 (.sh .shl .u64 (.bin .mul .u64 (.cv .u64 (.sh .shr .i64 (.cv .i64 (.sh .shl .u64 (.var 0) (.lit 56))) (.lit 56))) (.cv .u64 (.sh .shr .i64 (.cv .i64 (.sh .shl .u64 (.var 1) (.lit 56))) (.lit 56)))) (.lit 56)) (.lit 56))), (IE.ev (rho (x % 256) (y % 256) x y) (.bin .mul .i64 (.var 2) (.var 3))), fun w hG => ⟨calls_sym hL (run_5_8_0 _ aR aS) List.mem_cons_self rfl rfl rfl rfl hG, ?_⟩, ?_⟩
      · rw [ht]
        exact calls_sym hL (run_5_8_0 _ aR aS) (List.mem_cons_of_mem _ List.mem_cons_self) rfl rfl rfl rfl hG
      · intro _
        clear hL
        unfold clampI
        rw [if_neg (by decide)]
        (simp (disch := omega) only [↓a3, ↓a9, IE.ev, rho_2, rho_3, shl_u64_56, shr_u64_56, ev_mul] <;> try simp only [wrap_i64, wrap_u64])
        generalize x * y = p
        omega
def L_5_16_0 : List CF := [⟨.eql, (.sh .shr .u64 (.var 0) (.lit 8)), (.lit 0), true⟩,
  ⟨.eql, (.sh .shr .u64 (.var 1) (.lit 8)), (.lit 0), true⟩,
  ⟨.lss, (.cv .i64 (.cv .u64 (.sh .shr .i64 (.sh .shr .i64 (.cv .i64 (.sh .shl .u64 (.var 1) (.lit 56))) (.lit 56)) (.lit 63)))), (.lit 0), false⟩,
  ⟨.geq, (.cv .u64 (.sh .shr .i64 (.cv .i64 (.sh .shl .u64 (.var 1) (.lit 56))) (.lit 56))), (.lit 64), false⟩,
  ⟨.geq, (.cv .u64 (.sh .shr .i64 (.cv .i64 (.sh .shl .u64 (.var 1) (.lit 56))) (.lit 56))), (.lit 0), true⟩,
  ⟨.geq, (.bin .rem .i64 (.bin .and .i64 (.var 3) (.lit 255)) (.lit 64)), (.lit 0), true⟩,
  ⟨.lss, (.bin .and .i64 (.var 3) (.lit 255)), (.lit 24), true⟩]
def J_5_16_0 : List SEntry := [(5, [.v (.int .i64 16), .agg [.v (.int .i64 5), .sym (.int .u64 (.var 0))], .agg [.v (.int .i64 5), .sym (.int .u64 (.var 1))]], .tuple [.agg [.v (.int .i64 5), .sym (.int .u64 (.sh .shr .u64 (.sh .shl .u64 (.sh .shl .u64 (.cv .u64 (.sh .shr .i64 (.cv .i64 (.sh .shl .u64 (.var 0) (.lit 56))) (.lit 56))) (.cv .u64 (.sh .shr .i64 (.cv .i64 (.sh .shl .u64 (.var 1) (.lit 56))) (.lit 56)))) (.lit 56)) (.lit 56)))], .v (.int .i64 0)]),
  (7, [.v (.int .i64 16), .sym (.int .i64 (.var 2)), .sym (.int .i64 (.var 3))], .tuple [.sym (.int .i64 (.bin .and .i64 (.sh .shl .i64 (.var 2) (.bin .rem .i64 (.bin .and .i64 (.var 3) (.lit 255)) (.lit 64))) (.lit 4294967295))), .v (.bool true)])]
theorem run_5_16_0 (ρ : Nat → Int) (aR aS : Addr) : J_5_16_0.map (fun e => (@call (E ρ (knowL L_5_16_0) []) Tryz.prog (glob aR aS) noO 300 60 (.fn e.1) e.2.1 []).map fun r => nrm r.1) = J_5_16_0.map fun e => some e.2.2 := by kernel_rfl
def L_5_16_1 : List CF := [⟨.eql, (.sh .shr .u64 (.var 0) (.lit 8)), (.lit 0), true⟩,
  ⟨.eql, (.sh .shr .u64 (.var 1) (.lit 8)), (.lit 0), true⟩,
  ⟨.lss, (.cv .i64 (.cv .u64 (.sh .shr .i64 (.sh .shr .i64 (.cv .i64 (.sh .shl .u64 (.var 1) (.lit 56))) (.lit 56)) (.lit 63)))), (.lit 0), true⟩,
  ⟨.geq, (.bin .rem .i64 (.bin .and .i64 (.var 3) (.lit 255)) (.lit 64)), (.lit 0), true⟩,
  ⟨.lss, (.bin .and .i64 (.var 3) (.lit 255)), (.lit 24), false⟩]
def J_5_16_1 : List SEntry := [(5, [.v (.int .i64 16), .agg [.v (.int .i64 5), .sym (.int .u64 (.var 0))], .agg [.v (.int .i64 5), .sym (.int .u64 (.var 1))]], .v (.tuple #[.agg #[.int .i64 5, .int .u64 0], .int .i64 0])),
  (7, [.v (.int .i64 16), .sym (.int .i64 (.var 2)), .sym (.int .i64 (.var 3))], .tuple [.sym (.int .i64 (.bin .and .i64 (.sh .shl .i64 (.var 2) (.bin .rem .i64 (.bin .and .i64 (.var 3) (.lit 255)) (.lit 64))) (.lit 4294967295))), .v (.bool false)])]
theorem run_5_16_1 (ρ : Nat → Int) (aR aS : Addr) : J_5_16_1.map (fun e => (@call (E ρ (knowL L_5_16_1) []) Tryz.prog (glob aR aS) noO 300 60 (.fn e.1) e.2.1 []).map fun r => nrm r.1) = J_5_16_1.map fun e => some e.2.2 := by kernel_rfl
def L_5_16_2 : List CF := [⟨.eql, (.sh .shr .u64 (.var 0) (.lit 8)), (.lit 0), true⟩,
  ⟨.eql, (.sh .shr .u64 (.var 1) (.lit 8)), (.lit 0), true⟩,
  ⟨.lss, (.cv .i64 (.cv .u64 (.sh .shr .i64 (.sh .shr .i64 (.cv .i64 (.sh .shl .u64 (.var 1) (.lit 56))) (.lit 56)) (.lit 63)))), (.lit 0), false⟩,
  ⟨.geq, (.cv .u64 (.sh .shr .i64 (.cv .i64 (.sh .shl .u64 (.var 1) (.lit 56))) (.lit 56))), (.lit 64), true⟩,
  ⟨.geq, (.bin .rem .i64 (.bin .and .i64 (.var 3) (.lit 255)) (.lit 64)), (.lit 0), true⟩,
  ⟨.lss, (.bin .and .i64 (.var 3) (.lit 255)), (.lit 24), false⟩]
def J_5_16_2 : List SEntry := [(5, [.v (.int .i64 16), .agg [.v (.int .i64 5), .sym (.int .u64 (.var 0))], .agg [.v (.int .i64 5), .sym (.int .u64 (.var 1))]], .v (.tuple #[.agg #[.int .i64 5, .int .u64 0], .int .i64 0])),
  (7, [.v (.int .i64 16), .sym (.int .i64 (.var 2)), .sym (.int .i64 (.var 3))], .tuple [.sym (.int .i64 (.bin .and .i64 (.sh .shl .i64 (.var 2) (.bin .rem .i64 (.bin .and .i64 (.var 3) (.lit 255)) (.lit 64))) (.lit 4294967295))), .v (.bool false)])]
theorem run_5_16_2 (ρ : Nat → Int) (aR aS : Addr) : J_5_16_2.map (fun e => (@call (E ρ (knowL L_5_16_2) []) Tryz.prog (glob aR aS) noO 300 60 (.fn e.1) e.2.1 []).map fun r => nrm r.1) = J_5_16_2.map fun e => some e.2.2 := by kernel_rfl
def L_5_16_3 : List CF := [⟨.eql, (.sh .shr .u64 (.var 0) (.lit 8)), (.lit 0), true⟩,
  ⟨.eql, (.sh .shr .u64 (.var 1) (.lit 8)), (.lit 0), true⟩,
  ⟨.lss, (.cv .i64 (.cv .u64 (.sh .shr .i64 (.sh .shr .i64 (.cv .i64 (.sh .shl .u64 (.var 1) (.lit 56))) (.lit 56)) (.lit 63)))), (.lit 0), false⟩,
  ⟨.geq, (.cv .u64 (.sh .shr .i64 (.cv .i64 (.sh .shl .u64 (.var 1) (.lit 56))) (.lit 56))), (.lit 64), false⟩,
  ⟨.geq, (.cv .u64 (.sh .shr .i64 (.cv .i64 (.sh .shl .u64 (.var 1) (.lit 56))) (.lit 56))), (.lit 0), true⟩,
  ⟨.geq, (.bin .rem .i64 (.bin .and .i64 (.var 3) (.lit 255)) (.lit 64)), (.lit 0), true⟩,
  ⟨.lss, (.bin .and .i64 (.var 3) (.lit 255)), (.lit 24), false⟩]
def J_5_16_3 : List SEntry := [(5, [.v (.int .i64 16), .agg [.v (.int .i64 5), .sym (.int .u64 (.var 0))], .agg [.v (.int .i64 5), .sym (.int .u64 (.var 1))]], .tuple [.agg [.v (.int .i64 5), .sym (.int .u64 (.sh .shr .u64 (.sh .shl .u64 (.sh .shl .u64 (.cv .u64 (.sh .shr .i64 (.cv .i64 (.sh .shl .u64 (.var 0) (.lit 56))) (.lit 56))) (.cv .u64 (.sh .shr .i64 (.cv .i64 (.sh .shl .u64 (.var 1) (.lit 56))) (.lit 56)))) (.lit 56)) (.lit 56)))], .v (.int .i64 0)]),
  (7, [.v (.int .i64 16), .sym (.int .i64 (.var 2)), .sym (.int .i64 (.var 3))], .tuple [.sym (.int .i64 (.bin .and .i64 (.sh .shl .i64 (.var 2) (.bin .rem .i64 (.bin .and .i64 (.var 3) (.lit 255)) (.lit 64))) (.lit 4294967295))), .v (.bool false)])]
theorem run_5_16_3 (ρ : Nat → Int) (aR aS : Addr) : J_5_16_3.map (fun e => (@call (E ρ (knowL L_5_16_3) []) Tryz.prog (glob aR aS) noO 300 60 (.fn e.1) e.2.1 []).map fun r => nrm r.1) = J_5_16_3.map fun e => some e.2.2 := by kernel_rfl
theorem good_5_16 (aR aS : Addr) (x y : Int) (hx0 : (-128) ≤ x) (hx1 : x ≤ 127) (hy0 : (-128) ≤ y) (hy1 : y ≤ 127) : Good aR aS 16 5 5 (-128) 127 x y := by
  have hx : x < 0 ∨ 0 ≤ x := by omega
  rcases hx with hx | hx
  · have hy : y < 0 ∨ 0 ≤ y := by omega
    rcases hy with hy | hy
    · have a0 := eix_n x y (by omega) (by omega)
      have a1 := eHx_n x y (by omega) (by omega)
      have a2 := ehx_n x y (by omega) (by omega)
      have a3 := eNx_n x y (by omega) (by omega)
      have a4 := eSx_n x y (by omega) (by omega)
      have a5 := esx_n x y (by omega) (by omega)
      have a6 := eVx_n x y (by omega) (by omega)
      have a7 := eiy_n x y (by omega) (by omega)
      have a8 := eHy_n x y (by omega) (by omega)
      have a9 := ehy_n x y (by omega) (by omega)
      have a10 := eNy_n x y (by omega) (by omega)
      have a11 := eSy_n x y (by omega) (by omega)
      have a12 := esy_n x y (by omega) (by omega)
      have a13 := eVy_n x y (by omega) (by omega)
      by_cases c2 : IE.ev (rho (x % 256) (y % 256) x y) (.cv .i64 (.cv .u64 (.sh .shr .i64 (.sh .shr .i64 (.cv .i64 (.sh .shl .u64 (.var 1) (.lit 56))) (.lit 56)) (.lit 63)))) < IE.ev (rho (x % 256) (y % 256) x y) (.lit 0)
      · have c2' := c2
        try (simp (disch := omega) only [↓a7, IE.ev] at c2' <;> try simp only [wrap_i64, wrap_u64] at c2')
        have hL : ∀ f ∈ L_5_16_1, f.ok (rho (x % 256) (y % 256) x y) := by
          intro f hf
          simp only [L_5_16_1, List.mem_cons, List.not_mem_nil, or_false] at hf
          rcases hf with rfl | rfl | rfl | rfl | rfl
          · exact ⟨rfl, cmp_eql_t (by (simp (disch := omega) only [↓a6, IE.ev, shr_u64_8] <;> try simp only [wrap_i64, wrap_u64]) <;> omega)⟩
          · exact ⟨rfl, cmp_eql_t (by (simp (disch := omega) only [↓a13, IE.ev, shr_u64_8] <;> try simp only [wrap_i64, wrap_u64]) <;> omega)⟩
          · exact ⟨rfl, cmp_lss_t c2⟩
          · exact ⟨rfl, cmp_geq_t (by (simp (disch := omega) only [IE.ev, rho_3, and_i64_8, ri_p] <;> try simp only [wrap_i64, wrap_u64]) <;> omega)⟩
          · exact ⟨rfl, cmp_lss_f (by (simp (disch := omega) only [IE.ev, rho_3, and_i64_8] <;> try simp only [wrap_i64, wrap_u64]) <;> omega)⟩
        have ht : toldI 16 y = false := by simp only [toldI, if_true]; exact decide_eq_false (by omega)
        refine ⟨0, (IE.ev (rho (x % 256) (y % 256) x y) (.bin .and .i64 (.sh .shl .i64 (.var 2) (.bin .rem .i64 (.bin .and .i64 (.var 3) (.lit 255)) (.lit 64))) (.lit 4294967295))), fun w hG => ⟨calls_sym hL (run_5_16_1 _ aR aS) List.mem_cons_self rfl rfl rfl rfl hG, ?_⟩, ?_⟩
        · rw [ht]
          exact calls_sym hL (run_5_16_1 _ aR aS) (List.mem_cons_of_mem _ List.mem_cons_self) rfl rfl rfl rfl hG
        · intro h
          rw [ht] at h
          cases h
      · exact absurd (by (simp (disch := omega) only [↓a7, IE.ev] <;> try simp only [wrap_i64, wrap_u64]) <;> omega) c2
    · have a0 := eix_n x y (by omega) (by omega)
      have a1 := eHx_n x y (by omega) (by omega)
      have a2 := ehx_n x y (by omega) (by omega)
      have a3 := eNx_n x y (by omega) (by omega)
      have a4 := eSx_n x y (by omega) (by omega)
      have a5 := esx_n x y (by omega) (by omega)
      have a6 := eVx_n x y (by omega) (by omega)
      have a7 := eiy_p x y (by omega) (by omega)
      have a8 := eHy_p x y (by omega) (by omega)
      have a9 := ehy_p x y (by omega) (by omega)
      have a10 := eSy_p x y (by omega) (by omega)
      have a11 := esy_p x y (by omega) (by omega)
      have a12 := eVy_p x y (by omega) (by omega)
      by_cases c2 : IE.ev (rho (x % 256) (y % 256) x y) (.cv .i64 (.cv .u64 (.sh .shr .i64 (.sh .shr .i64 (.cv .i64 (.sh .shl .u64 (.var 1) (.lit 56))) (.lit 56)) (.lit 63)))) < IE.ev (rho (x % 256) (y % 256) x y) (.lit 0)
      · exact absurd c2 (by (simp (disch := omega) only [↓a7, IE.ev] <;> try simp only [wrap_i64, wrap_u64]) <;> omega)
      · have c2' := c2
        try (simp (disch := omega) only [↓a7, IE.ev] at c2' <;> try simp only [wrap_i64, wrap_u64] at c2')
        by_cases c3 : IE.ev (rho (x % 256) (y % 256) x y) (.cv .u64 (.sh .shr .i64 (.cv .i64 (.sh .shl .u64 (.var 1) (.lit 56))) (.lit 56))) ≥ IE.ev (rho (x % 256) (y % 256) x y) (.lit 64)
        · have c3' := c3
          try (simp (disch := omega) only [↓a10, IE.ev] at c3' <;> try simp only [wrap_i64, wrap_u64] at c3')
          have hL : ∀ f ∈ L_5_16_2, f.ok (rho (x % 256) (y % 256) x y) := by
            intro f hf
            simp only [L_5_16_2, List.mem_cons, List.not_mem_nil, or_false] at hf
            rcases hf with rfl | rfl | rfl | rfl | rfl | rfl
            · exact ⟨rfl, cmp_eql_t (by (simp (disch := omega) only [↓a6, IE.ev, shr_u64_8] <;> try simp only [wrap_i64, wrap_u64]) <;> omega)⟩
            · exact ⟨rfl, cmp_eql_t (by (simp (disch := omega) only [↓a12, IE.ev, shr_u64_8] <;> try simp only [wrap_i64, wrap_u64]) <;> omega)⟩
            · exact ⟨rfl, cmp_lss_n c2⟩
            · exact ⟨rfl, cmp_geq_t c3⟩
            · exact ⟨rfl, cmp_geq_t (by (simp (disch := omega) only [IE.ev, rho_3, and_i64_8, ri_p] <;> try simp only [wrap_i64, wrap_u64]) <;> omega)⟩
            · exact ⟨rfl, cmp_lss_f (by (simp (disch := omega) only [IE.ev, rho_3, and_i64_8] <;> try simp only [wrap_i64, wrap_u64]) <;> omega)⟩
          have ht : toldI 16 y = false := by simp only [toldI, if_true]; exact decide_eq_false (by omega)
          refine ⟨0, (IE.ev (rho (x % 256) (y % 256) x y) (.bin .and .i64 (.sh .shl .i64 (.var 2) (.bin .rem .i64 (.bin .and .i64 (.var 3) (.lit 255)) (.lit 64))) (.lit 4294967295))), fun w hG => ⟨calls_sym hL (run_5_16_2 _ aR aS) List.mem_cons_self rfl rfl rfl rfl hG, ?_⟩, ?_⟩
          · rw [ht]
            exact calls_sym hL (run_5_16_2 _ aR aS) (List.mem_cons_of_mem _ List.mem_cons_self) rfl rfl rfl rfl hG
          · intro h
            rw [ht] at h
            cases h
        · have c3' := c3
          try (simp (disch := omega) only [↓a10, IE.ev] at c3' <;> try simp only [wrap_i64, wrap_u64] at c3')
          by_cases c6 : IE.ev (rho (x % 256) (y % 256) x y) (.bin .and .i64 (.var 3) (.lit 255)) < IE.ev (rho (x % 256) (y % 256) x y) (.lit 24)
          · have c6' := c6
            try (simp (disch := omega) only [IE.ev, rho_3, and_i64_8] at c6' <;> try simp only [wrap_i64, wrap_u64] at c6')
            have hL : ∀ f ∈ L_5_16_0, f.ok (rho (x % 256) (y % 256) x y) := by
              intro f hf
              simp only [L_5_16_0, List.mem_cons, List.not_mem_nil, or_false] at hf
              rcases hf with rfl | rfl | rfl | rfl | rfl | rfl | rfl
              · exact ⟨rfl, cmp_eql_t (by (simp (disch := omega) only [↓a6, IE.ev, shr_u64_8] <;> try simp only [wrap_i64, wrap_u64]) <;> omega)⟩
              · exact ⟨rfl, cmp_eql_t (by (simp (disch := omega) only [↓a12, IE.ev, shr_u64_8] <;> try simp only [wrap_i64, wrap_u64]) <;> omega)⟩
              · exact ⟨rfl, cmp_lss_n c2⟩
              · exact ⟨rfl, cmp_geq_n c3⟩
              · exact ⟨rfl, cmp_geq_t (by (simp (disch := omega) only [↓a10, IE.ev] <;> try simp only [wrap_i64, wrap_u64]) <;> omega)⟩
              · exact ⟨rfl, cmp_geq_t (by (simp (disch := omega) only [IE.ev, rho_3, and_i64_8, ri_p] <;> try simp only [wrap_i64, wrap_u64]) <;> omega)⟩
              · exact ⟨rfl, cmp_lss_t c6⟩
            have ht : toldI 16 y = true := by simp only [toldI, if_true]; exact decide_eq_true (by omega)
            refine ⟨(IE.ev (rho (x % 256) (y % 256) x y) (.sh .shr .u64 (.sh .shl .u64 (.sh .shl .u64 (.cv .u64 (.sh .shr .i64 (.cv .i64 (.sh .shl .u64 (.var 0) (.lit 56))) (.lit 56))) (.cv .u64 (.sh .shr .i64 (.cv .i64 (.sh .shl .u64 (.var 1) (.lit 56))) (.lit 56)))) (.lit 56)) (.lit 56))), (IE.ev (rho (x % 256) (y % 256) x y) (.bin .and .i64 (.sh .shl .i64 (.var 2) (.bin .rem .i64 (.bin .and .i64 (.var 3) (.lit 255)) (.lit 64))) (.lit 4294967295))), fun w hG => ⟨calls_sym hL (run_5_16_0 _ aR aS) List.mem_cons_self rfl rfl rfl rfl hG, ?_⟩, ?_⟩
            · rw [ht]
              exact calls_sym hL (run_5_16_0 _ aR aS) (List.mem_cons_of_mem _ List.mem_cons_self) rfl rfl rfl rfl hG
            · intro _
              clear hL
              unfold clampI
              rw [if_neg (by decide)]
              have hy : y = 0 ∨ y = 1 ∨ y = 2 ∨ y = 3 ∨ y = 4 ∨ y = 5 ∨ y = 6 ∨ y = 7 ∨ y = 8 ∨ y = 9 ∨ y = 10 ∨ y = 11 ∨ y = 12 ∨ y = 13 ∨ y = 14 ∨ y = 15 ∨ y = 16 ∨ y = 17 ∨ y = 18 ∨ y = 19 ∨ y = 20 ∨ y = 21 ∨ y = 22 ∨ y = 23 := by omega
              rcases hy with rfl | rfl | rfl | rfl | rfl | rfl | rfl | rfl | rfl | rfl | rfl | rfl | rfl | rfl | rfl | rfl | rfl | rfl | rfl | rfl | rfl | rfl | rfl | rfl
              all_goals (simp (disch := omega) only [↓a4, ↓a10, IE.ev, rho_2, rho_3, shl_u64_56, shr_u64_56, and_i64_8, and_i64_32, ri_p, shl_u64_0, shl_u64_1, shl_u64_2, shl_u64_3, shl_u64_4, shl_u64_5, shl_u64_6, shl_u64_7, shl_u64_8, shl_u64_9, shl_u64_10, shl_u64_11, shl_u64_12, shl_u64_13, shl_u64_14, shl_u64_15, shl_u64_16, shl_u64_17, shl_u64_18, shl_u64_19, shl_u64_20, shl_u64_21, shl_u64_22, shl_u64_23, shl_i64_0, shl_i64_1, shl_i64_2, shl_i64_3, shl_i64_4, shl_i64_5, shl_i64_6, shl_i64_7, shl_i64_8, shl_i64_9, shl_i64_10, shl_i64_11, shl_i64_12, shl_i64_13, shl_i64_14, shl_i64_15, shl_i64_16, shl_i64_17, shl_i64_18, shl_i64_19, shl_i64_20, shl_i64_21, shl_i64_22, shl_i64_23, Int.reduceMod, wrapi_id, wrapu_id] <;> try simp only [wrap_u64]) <;> omega
          · have c6' := c6
            try (simp (disch := omega) only [IE.ev, rho_3, and_i64_8] at c6' <;> try simp only [wrap_i64, wrap_u64] at c6')
            have hL : ∀ f ∈ L_5_16_3, f.ok (rho (x % 256) (y % 256) x y) := by
              intro f hf
              simp only [L_5_16_3, List.mem_cons, List.not_mem_nil, or_false] at hf
              rcases hf with rfl | rfl | rfl | rfl | rfl | rfl | rfl
              · exact ⟨rfl, cmp_eql_t (by (simp (disch := omega) only [↓a6, IE.ev, shr_u64_8] <;> try simp only [wrap_i64, wrap_u64]) <;> omega)⟩
              · exact ⟨rfl, cmp_eql_t (by (simp (disch := omega) only [↓a12, IE.ev, shr_u64_8] <;> try simp only [wrap_i64, wrap_u64]) <;> omega)⟩
              · exact ⟨rfl, cmp_lss_n c2⟩
              · exact ⟨rfl, cmp_geq_n c3⟩
              · exact ⟨rfl, cmp_geq_t (by (simp (disch := omega) only [↓a10, IE.ev] <;> try simp only [wrap_i64, wrap_u64]) <;> omega)⟩
              · exact ⟨rfl, cmp_geq_t (by (simp (disch := omega) only [IE.ev, rho_3, and_i64_8, ri_p] <;> try simp only [wrap_i64, wrap_u64]) <;> omega)⟩
              · exact ⟨rfl, cmp_lss_n c6⟩
            have ht : toldI 16 y = false := by simp only [toldI, if_true]; exact decide_eq_false (by omega)
            refine ⟨(IE.ev (rho (x % 256) (y % 256) x y) (.sh .shr .u64 (.sh .shl .u64 (.sh .shl .u64 (.cv .u64 (.sh .shr .i64 (.cv .i64 (.sh .shl .u64 (.var 0) (.lit 56))) (.lit 56))) (.cv .u64 (.sh .shr .i64 (.cv .i64 (.sh .shl .u64 (.var 1) (.lit 56))) (.lit 56)))) (.lit 56)) (.lit 56))), (IE.ev (rho (x % 256) (y % 256) x y) (.bin .and .i64 (.sh .shl .i64 (.var 2) (.bin .rem .i64 (.bin .and .i64 (.var 3) (.lit 255)) (.lit 64))) (.lit 4294967295))), fun w hG => ⟨calls_sym hL (run_5_16_3 _ aR aS) List.mem_cons_self rfl rfl rfl rfl hG, ?_⟩, ?_⟩
            · rw [ht]
              exact calls_sym hL (run_5_16_3 _ aR aS) (List.mem_cons_of_mem _ List.mem_cons_self) rfl rfl rfl rfl hG
            · intro h
              rw [ht] at h
              cases h
  · have hy : y < 0 ∨ 0 ≤ y := by omega
    rcases hy with hy | hy
    · have a0 := eix_p x y (by omega) (by omega)
      have a1 := eHx_p x y (by omega) (by omega)
      have a2 := ehx_p x y (by omega) (by omega)
      have a3 := eSx_p x y (by omega) (by omega)
      have a4 := esx_p x y (by omega) (by omega)
      have a5 := eVx_p x y (by omega) (by omega)
      have a6 := eiy_n x y (by omega) (by omega)
      have a7 := eHy_n x y (by omega) (by omega)
      have a8 := ehy_n x y (by omega) (by omega)
      have a9 := eNy_n x y (by omega) (by omega)
      have a10 := eSy_n x y (by omega) (by omega)
      have a11 := esy_n x y (by omega) (by omega)
      have a12 := eVy_n x y (by omega) (by omega)
      by_cases c2 : IE.ev (rho (x % 256) (y % 256) x y) (.cv .i64 (.cv .u64 (.sh .shr .i64 (.sh .shr .i64 (.cv .i64 (.sh .shl .u64 (.var 1) (.lit 56))) (.lit 56)) (.lit 63)))) < IE.ev (rho (x % 256) (y % 256) x y) (.lit 0)
      · have c2' := c2
        try (simp (disch := omega) only [↓a6, IE.ev] at c2' <;> try simp only [wrap_i64, wrap_u64] at c2')
        have hL : ∀ f ∈ L_5_16_1, f.ok (rho (x % 256) (y % 256) x y) := by
          intro f hf
          simp only [L_5_16_1, List.mem_cons, List.not_mem_nil, or_false] at hf
          rcases hf with rfl | rfl | rfl | rfl | rfl
          · exact ⟨rfl, cmp_eql_t (by (simp (disch := omega) only [↓a5, IE.ev, shr_u64_8] <;> try simp only [wrap_i64, wrap_u64]) <;> omega)⟩
          · exact ⟨rfl, cmp_eql_t (by (simp (disch := omega) only [↓a12, IE.ev, shr_u64_8] <;> try simp only [wrap_i64, wrap_u64]) <;> omega)⟩
          · exact ⟨rfl, cmp_lss_t c2⟩
          · exact ⟨rfl, cmp_geq_t (by (simp (disch := omega) only [IE.ev, rho_3, and_i64_8, ri_p] <;> try simp only [wrap_i64, wrap_u64]) <;> omega)⟩
          · exact ⟨rfl, cmp_lss_f (by (simp (disch := omega) only [IE.ev, rho_3, and_i64_8] <;> try simp only [wrap_i64, wrap_u64]) <;> omega)⟩
        have ht : toldI 16 y = false := by simp only [toldI, if_true]; exact decide_eq_false (by omega)
        refine ⟨0, (IE.ev (rho (x % 256) (y % 256) x y) (.bin .and .i64 (.sh .shl .i64 (.var 2) (.bin .rem .i64 (.bin .and .i64 (.var 3) (.lit 255)) (.lit 64))) (.lit 4294967295))), fun w hG => ⟨calls_sym hL (run_5_16_1 _ aR aS) List.mem_cons_self rfl rfl rfl rfl hG, ?_⟩, ?_⟩
        · rw [ht]
          exact calls_sym hL (run_5_16_1 _ aR aS) (List.mem_cons_of_mem _ List.mem_cons_self) rfl rfl rfl rfl hG
        · intro h
          rw [ht] at h
          cases h
      · exact absurd (by (simp (disch := omega) only [↓a6, IE.ev] <;> try simp only [wrap_i64, wrap_u64]) <;> omega) c2
    · have a0 := eix_p x y (by omega) (by omega)
      have a1 := eHx_p x y (by omega) (by omega)
      have a2 := ehx_p x y (by omega) (by omega)
      have a3 := eSx_p x y (by omega) (by omega)
      have a4 := esx_p x y (by omega) (by omega)
      have a5 := eVx_p x y (by omega) (by omega)
      have a6 := eiy_p x y (by omega) (by omega)
      have a7 := eHy_p x y (by omega) (by omega)
      have a8 := ehy_p x y (by omega) (by omega)
      have a9 := eSy_p x y (by omega) (by omega)
      have a10 := esy_p x y (by omega) (by omega)
      have a11 := eVy_p x y (by omega) (by omega)
      by_cases c2 : IE.ev (rho (x % 256) (y % 256) x y) (.cv .i64 (.cv .u64 (.sh .shr .i64 (.sh .shr .i64 (.cv .i64 (.sh .shl .u64 (.var 1) (.lit 56))) (.lit 56)) (.lit 63)))) < IE.ev (rho (x % 256) (y % 256) x y) (.lit 0)
      · exact absurd c2 (by (simp (disch := omega) only [↓a6, IE.ev] <;> try simp only [wrap_i64, wrap_u64]) <;> omega)
      · have c2' := c2
        try (simp (disch := omega) only [↓a6, IE.ev] at c2' <;> try simp only [wrap_i64, wrap_u64] at c2')
        by_cases c3 : IE.ev (rho (x % 256) (y % 256) x y) (.cv .u64 (.sh .shr .i64 (.cv .i64 (.sh .shl .u64 (.var 1) (.lit 56))) (.lit 56))) ≥ IE.ev (rho (x % 256) (y % 256) x y) (.lit 64)
        · have c3' := c3
          try (simp (disch := omega) only [↓a9, IE.ev] at c3' <;> try simp only [wrap_i64, wrap_u64] at c3')
          have hL : ∀ f ∈ L_5_16_2, f.ok (rho (x % 256) (y % 256) x y) := by
            intro f hf
            simp only [L_5_16_2, List.mem_cons, List.not_mem_nil, or_false] at hf
            rcases hf with rfl | rfl | rfl | rfl | rfl | rfl
            · exact ⟨rfl, cmp_eql_t (by (simp (disch := omega) only [↓a5, IE.ev, shr_u64_8] <;> try simp only [wrap_i64, wrap_u64]) <;> omega)⟩
            · exact ⟨rfl, cmp_eql_t (by (simp (disch := omega) only [↓a11, IE.ev, shr_u64_8] <;> try simp only [wrap_i64, wrap_u64]) <;> omega)⟩
            · exact ⟨rfl, cmp_lss_n c2⟩
            · exact ⟨rfl, cmp_geq_t c3⟩
            · exact ⟨rfl, cmp_geq_t (by (simp (disch := omega) only [IE.ev, rho_3, and_i64_8, ri_p] <;> try simp only [wrap_i64, wrap_u64]) <;> omega)⟩
            · exact ⟨rfl, cmp_lss_f (by (simp (disch := omega) only [IE.ev, rho_3, and_i64_8] <;> try simp only [wrap_i64, wrap_u64]) <;> omega)⟩
          have ht : toldI 16 y = false := by simp only [toldI, if_true]; exact decide_eq_false (by omega)
          refine ⟨0, (IE.ev (rho (x % 256) (y % 256) x y) (.bin .and .i64 (.sh .shl .i64 (.var 2) (.bin .rem .i64 (.bin .and .i64 (.var 3) (.lit 255)) (.lit 64))) (.lit 4294967295))), fun w hG => ⟨calls_sym hL (run_5_16_2 _ aR aS) List.mem_cons_self rfl rfl rfl rfl hG, ?_⟩, ?_⟩
          · rw [ht]
            exact calls_sym hL (run_5_16_2 _ aR aS) (List.mem_cons_of_mem _ List.mem_cons_self) rfl rfl rfl rfl hG
          · intro h
            rw [ht] at h
            cases h
        · have c3' := c3
          try (simp (disch := omega) only [↓a9, IE.ev] at c3' <;> try simp only [wrap_i64, wrap_u64] at c3')
          by_cases c6 : IE.ev (rho (x % 256) (y % 256) x y) (.bin .and .i64 (.var 3) (.lit 255)) < IE.ev (rho (x % 256) (y % 256) x y) (.lit 24)
          · have c6' := c6
            try (simp (disch := omega) only [IE.ev, rho_3, and_i64_8] at c6' <;> try simp only [wrap_i64, wrap_u64] at c6')
            have hL : ∀ f ∈ L_5_16_0, f.ok (rho (x % 256) (y % 256) x y) := by
              intro f hf
              simp only [L_5_16_0, List.mem_cons, List.not_mem_nil, or_false] at hf
              rcases hf with rfl | rfl | rfl | rfl | rfl | rfl | rfl
              · exact ⟨rfl, cmp_eql_t (by (simp (disch := omega) only [↓a5, IE.ev, shr_u64_8] <;> try simp only [wrap_i64, wrap_u64]) <;> omega)⟩
              · exact ⟨rfl, cmp_eql_t (by (simp (disch := omega) only [↓a11, IE.ev, shr_u64_8] <;> try simp only [wrap_i64, wrap_u64]) <;> omega)⟩
              · exact ⟨rfl, cmp_lss_n c2⟩
              · exact ⟨rfl, cmp_geq_n c3⟩
              · exact ⟨rfl, cmp_geq_t (by (simp (disch := omega) only [↓a9, IE.ev] <;> try simp only [wrap_i64, wrap_u64]) <;> omega)⟩
              · exact ⟨rfl, cmp_geq_t (by (simp (disch := omega) only [IE.ev, rho_3, and_i64_8, ri_p] <;> try simp only [wrap_i64, wrap_u64]) <;> omega)⟩
              · exact ⟨rfl, cmp_lss_t c6⟩
            have ht : toldI 16 y = true := by simp only [toldI, if_true]; exact decide_eq_true (by omega)
            refine ⟨(IE.ev (rho (x % 256) (y % 256) x y) (.sh .shr .u64 (.sh .shl .u64 (.sh .shl .u64 (.cv .u64 (.sh .shr .i64 (.cv .i64 (.sh .shl .u64 (.var 0) (.lit 56))) (.lit 56))) (.cv .u64 (.sh .shr .i64 (.cv .i64 (.sh .shl .u64 (.var 1) (.lit 56))) (.lit 56)))) (.lit 56)) (.lit 56))), (IE.ev (rho (x % 256) (y % 256) x y) (.bin .and .i64 (.sh .shl .i64 (.var 2) (.bin .rem .i64 (.bin .and .i64 (.var 3) (.lit 255)) (.lit 64))) (.lit 4294967295))), fun w hG => ⟨calls_sym hL (run_5_16_0 _ aR aS) List.mem_cons_self rfl rfl rfl rfl hG, ?_⟩, ?_⟩
            · rw [ht]
              exact calls_sym hL (run_5_16_0 _ aR aS) (List.mem_cons_of_mem _ List.mem_cons_self) rfl rfl rfl rfl hG
            · intro _
              clear hL
              unfold clampI
              rw [if_neg (by decide)]
              have hy : y = 0 ∨ y = 1 ∨ y = 2 ∨ y = 3 ∨ y = 4 ∨ y = 5 ∨ y = 6 ∨ y = 7 ∨ y = 8 ∨ y = 9 ∨ y = 10 ∨ y = 11 ∨ y = 12 ∨ y = 13 ∨ y = 14 ∨ y = 15 ∨ y = 16 ∨ y = 17 ∨ y = 18 ∨ y = 19 ∨ y = 20 ∨ y = 21 ∨ y = 22 ∨ y = 23 := by omega
              rcases hy with rfl | rfl | rfl | rfl | rfl | rfl | rfl | rfl | rfl | rfl | rfl | rfl | rfl | rfl | rfl | rfl | rfl | rfl | rfl | rfl | rfl | rfl | rfl | rfl
              all_goals (simp (disch := omega) only [↓a3, ↓a9, IE.ev, rho_2, rho_3, shl_u64_56, shr_u64_56, and_i64_8, and_i64_32, ri_p, shl_u64_0, shl_u64_1, shl_u64_2, shl_u64_3, shl_u64_4, shl_u64_5, shl_u64_6, shl_u64_7, shl_u64_8, shl_u64_9, shl_u64_10, shl_u64_11, shl_u64_12, shl_u64_13, shl_u64_14, shl_u64_15, shl_u64_16, shl_u64_17, shl_u64_18, shl_u64_19, shl_u64_20, shl_u64_21, shl_u64_22, shl_u64_23, shl_i64_0, shl_i64_1, shl_i64_2, shl_i64_3, shl_i64_4, shl_i64_5, shl_i64_6, shl_i64_7, shl_i64_8, shl_i64_9, shl_i64_10, shl_i64_11, shl_i64_12, shl_i64_13, shl_i64_14, shl_i64_15, shl_i64_16, shl_i64_17, shl_i64_18, shl_i64_19, shl_i64_20, shl_i64_21, shl_i64_22, shl_i64_23, Int.reduceMod, wrapi_id, wrapu_id] <;> try simp only [wrap_u64]) <;> omega
          · have c6' := c6
            try (simp (disch := omega) only [IE.ev, rho_3, and_i64_8] at c6' <;> try simp only [wrap_i64, wrap_u64] at c6')
            have hL : ∀ f ∈ L_5_16_3, f.ok (rho (x % 256) (y % 256) x y) := by
              intro f hf
              simp only [L_5_16_3, List.mem_cons, List.not_mem_nil, or_false] at hf
              rcases hf with rfl | rfl | rfl | rfl | rfl | rfl | rfl
              · exact ⟨rfl, cmp_eql_t (by (simp (disch := omega) only [↓a5, IE.ev, shr_u64_8] <;> try simp only [wrap_i64, wrap_u64]) <;> omega)⟩
              · exact ⟨rfl, cmp_eql_t (by (simp (disch := omega) only [↓a11, IE.ev, shr_u64_8] <;> try simp only [wrap_i64, wrap_u64]) <;> omega)⟩
              · exact ⟨rfl, cmp_lss_n c2⟩
              · exact ⟨rfl, cmp_geq_n c3⟩
              · exact ⟨rfl, cmp_geq_t (by (simp (disch := omega) only [↓a9, IE.ev] <;> try simp only [wrap_i64, wrap_u64]) <;> omega)⟩
              · exact ⟨rfl, cmp_geq_t (by (simp (disch := omega) only [IE.ev, rho_3, and_i64_8, ri_p] <;> try simp only [wrap_i64, wrap_u64]) <;> omega)⟩
              · exact ⟨rfl, cmp_lss_n c6⟩
            have ht : toldI 16 y = false := by simp only [toldI, if_true]; exact decide_eq_false (by omega)
            refine ⟨(IE.ev (rho (x % 256) (y % 256) x y) (.sh .shr .u64 (.sh .shl .u64 (.sh .shl .u64 (.cv .u64 (.sh .shr .i64 (.cv .i64 (.sh .shl .u64 (.var 0) (.lit 56))) (.lit 56))) (.cv .u64 (.sh .shr .i64 (.cv .i64 (.sh .shl .u64 (.var 1) (.lit 56))) (.lit 56)))) (.lit 56)) (.lit 56))), (IE.ev (rho (x % 256) (y % 256) x y) (.bin .and .i64 (.sh .shl .i64 (.var 2) (.bin .rem .i64 (.bin .and .i64 (.var 3) (.lit 255)) (.lit 64))) (.lit 4294967295))), fun w hG => ⟨calls_sym hL (run_5_16_3 _ aR aS) List.mem_cons_self rfl rfl rfl rfl hG, ?_⟩, ?_⟩
            · rw [ht]
              exact calls_sym hL (run_5_16_3 _ aR aS) (List.mem_cons_of_mem _ List.mem_cons_self) rfl rfl rfl rfl hG
            · intro h
              rw [ht] at h
              cases h
end
end Go.Proofs.YtedbnohkkepajaaGreatDoor
