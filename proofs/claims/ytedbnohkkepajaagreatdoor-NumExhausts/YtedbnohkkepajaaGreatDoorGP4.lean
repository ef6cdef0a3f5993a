import Derived.Test.YtedbnohkkepajaaGreatDoorGE
namespace Go.Proofs.YtedbnohkkepajaaGreatDoor
noncomputable section
open Go Go.RX
open Go.RowKit (Below)
set_option maxRecDepth 1000000
set_option maxHeartbeats 4000000
def L_1_13_0 : List CF := [⟨.eql, (.sh .shr .u64 (.var 0) (.lit 8)), (.lit 0), true⟩,
  ⟨.eql, (.sh .shr .u64 (.var 1) (.lit 8)), (.lit 0), true⟩]
def J_1_13_0 : List SEntry := [(5, [.v (.int .i64 13), .agg [.v (.int .i64 1), .sym (.int .u64 (.var 0))], .agg [.v (.int .i64 1), .sym (.int .u64 (.var 1))]], .tuple [.agg [.v (.int .i64 1), .sym (.int .u64 (.sh .shr .u64 (.sh .shl .u64 (.bin .and .u64 (.var 0) (.var 1)) (.lit 56)) (.lit 56)))], .v (.int .i64 0)]),
  (7, [.v (.int .i64 13), .sym (.int .i64 (.var 2)), .sym (.int .i64 (.var 3))], .v (.tuple #[.int .i64 0, .bool false]))]
theorem run_1_13_0 (ρ : Nat → Int) (aR aS : Addr) : J_1_13_0.map (fun e => (@call (E ρ (knowL L_1_13_0) []) Tryz.prog (glob aR aS) noO 300 60 (.fn e.1) e.2.1 []).map fun r => nrm r.1) = J_1_13_0.map fun e => some e.2.2 := by kernel_rfl
theorem good_1_13 (aR aS : Addr) (x y : Int) (hx0 : 0 ≤ x) (hx1 : x ≤ 255) (hy0 : 0 ≤ y) (hy1 : y ≤ 255) : Good aR aS 13 1 1 0 255 x y := by
  have a0 := eVx_u x y hx0 hx1
  have a1 := eVy_u x y hy0 hy1
  have hL : ∀ f ∈ L_1_13_0, f.ok (rho (x % 256) (y % 256) x y) := by
    intro f hf
    simp only [L_1_13_0, List.mem_cons, List.not_mem_nil, or_false] at hf
    rcases hf with rfl | rfl
    · exact ⟨rfl, cmp_eql_t (by (simp (disch := omega) only [↓a0, IE.ev, shr_u64_8] <;> try simp only [wrap_i64, wrap_u64]) <;> omega)⟩
    · exact ⟨rfl, cmp_eql_t (by (simp (disch := omega) only [↓a1, IE.ev, shr_u64_8] <;> try simp only [wrap_i64, wrap_u64]) <;> omega)⟩
  have ht : toldI 13 y = false := by simp [toldI]
  refine ⟨(IE.ev (rho (x % 256) (y % 256) x y) (.sh .shr .u64 (.sh .shl .u64 (.bin .and .u64 (.var 0) (.var 1)) (.lit 56)) (.lit 56))), 0, fun w hG => ⟨calls_sym hL (run_1_13_0 _ aR aS) List.mem_cons_self rfl rfl rfl rfl hG, ?_⟩, ?_⟩
  · rw [ht]
    exact calls_sym hL (run_1_13_0 _ aR aS) (List.mem_cons_of_mem _ List.mem_cons_self) rfl rfl rfl rfl hG
  · intro h
    rw [ht] at h
    cases h
def L_1_22_0 : List CF := [⟨.eql, (.sh .shr .u64 (.var 0) (.lit 8)), (.lit 0), true⟩,
  ⟨.eql, (.sh .shr .u64 (.var 1) (.lit 8)), (.lit 0), true⟩,
  ⟨.eql, (.var 0), (.var 1), true⟩]
def J_1_22_0 : List SEntry := [(5, [.v (.int .i64 22), .agg [.v (.int .i64 1), .sym (.int .u64 (.var 0))], .agg [.v (.int .i64 1), .sym (.int .u64 (.var 1))]], .v (.tuple #[.agg #[.int .i64 0, .int .u64 1], .int .i64 0])),
  (7, [.v (.int .i64 22), .sym (.int .i64 (.var 2)), .sym (.int .i64 (.var 3))], .v (.tuple #[.int .i64 0, .bool false]))]
theorem run_1_22_0 (ρ : Nat → Int) (aR aS : Addr) : J_1_22_0.map (fun e => (@call (E ρ (knowL L_1_22_0) []) Tryz.prog (glob aR aS) noO 300 60 (.fn e.1) e.2.1 []).map fun r => nrm r.1) = J_1_22_0.map fun e => some e.2.2 := by kernel_rfl
def L_1_22_1 : List CF := [⟨.eql, (.sh .shr .u64 (.var 0) (.lit 8)), (.lit 0), true⟩,
  ⟨.eql, (.sh .shr .u64 (.var 1) (.lit 8)), (.lit 0), true⟩,
  ⟨.eql, (.var 0), (.var 1), false⟩]
def J_1_22_1 : List SEntry := [(5, [.v (.int .i64 22), .agg [.v (.int .i64 1), .sym (.int .u64 (.var 0))], .agg [.v (.int .i64 1), .sym (.int .u64 (.var 1))]], .v (.tuple #[.agg #[.int .i64 0, .int .u64 0], .int .i64 0])),
  (7, [.v (.int .i64 22), .sym (.int .i64 (.var 2)), .sym (.int .i64 (.var 3))], .v (.tuple #[.int .i64 0, .bool false]))]
theorem run_1_22_1 (ρ : Nat → Int) (aR aS : Addr) : J_1_22_1.map (fun e => (@call (E ρ (knowL L_1_22_1) []) Tryz.prog (glob aR aS) noO 300 60 (.fn e.1) e.2.1 []).map fun r => nrm r.1) = J_1_22_1.map fun e => some e.2.2 := by kernel_rfl
theorem good_1_22 (aR aS : Addr) (x y : Int) (hx0 : 0 ≤ x) (hx1 : x ≤ 255) (hy0 : 0 ≤ y) (hy1 : y ≤ 255) : Good aR aS 22 1 0 0 255 x y := by
  have a0 := eVx_u x y hx0 hx1
  have a1 := eVy_u x y hy0 hy1
  by_cases c2 : IE.ev (rho (x % 256) (y % 256) x y) (.var 0) = IE.ev (rho (x % 256) (y % 256) x y) (.var 1)
  · have c2' := c2
    try (simp (disch := omega) only [↓a0, ↓a1] at c2' <;> try simp only [wrap_i64, wrap_u64] at c2')
    have hL : ∀ f ∈ L_1_22_0, f.ok (rho (x % 256) (y % 256) x y) := by
      intro f hf
      simp only [L_1_22_0, List.mem_cons, List.not_mem_nil, or_false] at hf
      rcases hf with rfl | rfl | rfl
      · exact ⟨rfl, cmp_eql_t (by (simp (disch := omega) only [↓a0, IE.ev, shr_u64_8] <;> try simp only [wrap_i64, wrap_u64]) <;> omega)⟩
      · exact ⟨rfl, cmp_eql_t (by (simp (disch := omega) only [↓a1, IE.ev, shr_u64_8] <;> try simp only [wrap_i64, wrap_u64]) <;> omega)⟩
      · exact ⟨rfl, cmp_eql_t c2⟩
    have ht : toldI 22 y = false := by simp [toldI]
    refine ⟨1, 0, fun w hG => ⟨calls_sym hL (run_1_22_0 _ aR aS) List.mem_cons_self rfl rfl rfl rfl hG, ?_⟩, ?_⟩
    · rw [ht]
      exact calls_sym hL (run_1_22_0 _ aR aS) (List.mem_cons_of_mem _ List.mem_cons_self) rfl rfl rfl rfl hG
    · intro h
      rw [ht] at h
      cases h
  · have c2' := c2
    try (simp (disch := omega) only [↓a0, ↓a1] at c2' <;> try simp only [wrap_i64, wrap_u64] at c2')
    have hL : ∀ f ∈ L_1_22_1, f.ok (rho (x % 256) (y % 256) x y) := by
      intro f hf
      simp only [L_1_22_1, List.mem_cons, List.not_mem_nil, or_false] at hf
      rcases hf with rfl | rfl | rfl
      · exact ⟨rfl, cmp_eql_t (by (simp (disch := omega) only [↓a0, IE.ev, shr_u64_8] <;> try simp only [wrap_i64, wrap_u64]) <;> omega)⟩
      · exact ⟨rfl, cmp_eql_t (by (simp (disch := omega) only [↓a1, IE.ev, shr_u64_8] <;> try simp only [wrap_i64, wrap_u64]) <;> omega)⟩
      · exact ⟨rfl, cmp_eql_n c2⟩
    have ht : toldI 22 y = false := by simp [toldI]
    refine ⟨0, 0, fun w hG => ⟨calls_sym hL (run_1_22_1 _ aR aS) List.mem_cons_self rfl rfl rfl rfl hG, ?_⟩, ?_⟩
    · rw [ht]
      exact calls_sym hL (run_1_22_1 _ aR aS) (List.mem_cons_of_mem _ List.mem_cons_self) rfl rfl rfl rfl hG
    · intro h
      rw [ht] at h
      cases h
def L_5_13_0 : List CF := [⟨.eql, (.sh .shr .u64 (.var 0) (.lit 8)), (.lit 0), true⟩,
  ⟨.eql, (.sh .shr .u64 (.var 1) (.lit 8)), (.lit 0), true⟩]
def J_5_13_0 : List SEntry := [(5, [.v (.int .i64 13), .agg [.v (.int .i64 5), .sym (.int .u64 (.var 0))], .agg [.v (.int .i64 5), .sym (.int .u64 (.var 1))]], .tuple [.agg [.v (.int .i64 5), .sym (.int .u64 (.sh .shr .u64 (.sh .shl .u64 (.bin .and .u64 (.cv .u64 (.sh .shr .i64 (.cv .i64 (.sh .shl .u64 (.var 0) (.lit 56))) (.lit 56))) (.cv .u64 (.sh .shr .i64 (.cv .i64 (.sh .shl .u64 (.var 1) (.lit 56))) (.lit 56)))) (.lit 56)) (.lit 56)))], .v (.int .i64 0)]),
  (7, [.v (.int .i64 13), .sym (.int .i64 (.var 2)), .sym (.int .i64 (.var 3))], .v (.tuple #[.int .i64 0, .bool false]))]
theorem run_5_13_0 (ρ : Nat → Int) (aR aS : Addr) : J_5_13_0.map (fun e => (@call (E ρ (knowL L_5_13_0) []) Tryz.prog (glob aR aS) noO 300 60 (.fn e.1) e.2.1 []).map fun r => nrm r.1) = J_5_13_0.map fun e => some e.2.2 := by kernel_rfl
theorem good_5_13 (aR aS : Addr) (x y : Int) (hx0 : (-128) ≤ x) (hx1 : x ≤ 127) (hy0 : (-128) ≤ y) (hy1 : y ≤ 127) : Good aR aS 13 5 5 (-128) 127 x y := by
  have hx : x < 0 ∨ 0 ≤ x := by omega
  rcases hx with hx | hx
  · have hy : y < 0 ∨ 0 ≤ y := by omega
    rcases hy with hy | hy
    · have a0 := eix_n x y (by omega) (by omega)
      have a1 := eHx_n x y (by omega) (by omega)
      have a2 := ehx_n x y (by omega) (by omega)
      have a3 := eNx_n x y (by omega) (by omega)
      have a4 := eSx_n x y (by omega) (by omega)
      have a5 := esx_n x y (by omega) (by omega)
      have a6 := eVx_n x y (by omega) (by omega)
      have a7 := eiy_n x y (by omega) (by omega)
      have a8 := eHy_n x y (by omega) (by omega)
      have a9 := ehy_n x y (by omega) (by omega)
      have a10 := eNy_n x y (by omega) (by omega)
      have a11 := eSy_n x y (by omega) (by omega)
      have a12 := esy_n x y (by omega) (by omega)
      have a13 := eVy_n x y (by omega) (by omega)
      have hL : ∀ f ∈ L_5_13_0, f.ok (rho (x % 256) (y % 256) x y) := by
        intro f hf
        simp only [L_5_13_0, List.mem_cons, List.not_mem_nil, or_false] at hf
        rcases hf with rfl | rfl
        · exact ⟨rfl, cmp_eql_t (by (simp (disch := omega) only [↓a6, IE.ev, shr_u64_8] <;> try simp only [wrap_i64, wrap_u64]) <;> omega)⟩
        · exact ⟨rfl, cmp_eql_t (by (simp (disch := omega) only [↓a13, IE.ev, shr_u64_8] <;> try simp only [wrap_i64, wrap_u64]) <;> omega)⟩
      have ht : toldI 13 y = false := by simp [toldI]
      refine ⟨(IE.ev (rho (x % 256) (y % 256) x y) (.sh .shr .u64 (.sh .shl .u64 (.bin .and .u64 (.cv .u64 (.sh .shr .i64 (.cv .i64 (.sh .shl .u64 (.var 0) (.lit 56))) (.lit 56))) (.cv .u64 (.sh .shr .i64 (.cv .i64 (.sh .shl .u64 (.var 1) (.lit 56))) (.lit 56)))) (.lit 56)) (.lit 56))), 0, fun w hG => ⟨calls_sym hL (run_5_13_0 _ aR aS) List.mem_cons_self rfl rfl rfl rfl hG, ?_⟩, ?_⟩
      · rw [ht]
        exact calls_sym hL (run_5_13_0 _ aR aS) (List.mem_cons_of_mem _ List.mem_cons_self) rfl rfl rfl rfl hG
      · intro h
        rw [ht] at h
        cases h
    · have a0 := eix_n x y (by omega) (by omega)
      have a1 := eHx_n x y (by omega) (by omega)
      have a2 := ehx_n x y (by omega) (by omega)
      have a3 := eNx_n x y (by omega) (by omega)
      have a4 := eSx_n x y (by omega) (by omega)
      have a5 := esx_n x y (by omega) (by omega)
      have a6 := eVx_n x y (by omega) (by omega)
      have a7 := eiy_p x y (by omega) (by omega)
      have a8 := eHy_p x y (by omega) (by omega)
      have a9 := ehy_p x y (by omega) (by omega)
      have a10 := eSy_p x y (by omega) (by omega)
      have a11 := esy_p x y (by omega) (by omega)
      have a12 := eVy_p x y (by omega) (by omega)
      have hL : ∀ f ∈ L_5_13_0, f.ok (rho (x % 256) (y % 256) x y) := by
        intro f hf
        simp only [L_5_13_0, List.mem_cons, List.not_mem_nil, or_false] at hf
        rcases hf with rfl | rfl
        · exact ⟨rfl, cmp_eql_t (by (simp (disch := omega) only [↓a6, IE.ev, shr_u64_8] <;> try simp only [wrap_i64, wrap_u64]) <;> omega)⟩
        · exact ⟨rfl, cmp_eql_t (by (simp (disch := omega) only [↓a12, IE.ev, shr_u64_8] <;> try simp only [wrap_i64, wrap_u64]) <;> omega)⟩
      have ht : toldI 13 y = false := by simp [toldI]
      refine ⟨(IE.ev (rho (x % 256) (y % 256) x y) (.sh .shr .u64 (.sh .shl .u64 (.bin .and .u64 (.cv .u64 (.sh .shr .i64 (.cv .i64 (.sh .shl .u64 (.var 0) (.lit 56))) (.lit 56))) (.cv .u64 (.sh .shr .i64 (.cv .i64 (.sh .shl .u64 (.var 1) (.lit 56))) (.lit 56)))) (.lit 56)) (.lit 56))), 0, fun w hG => ⟨calls_sym hL (run_5_13_0 _ aR aS) List.mem_cons_self rfl rfl rfl rfl hG, ?_⟩, ?_⟩
      · rw [ht]
        exact calls_sym hL (run_5_13_0 _ aR aS) (List.mem_cons_of_mem _ List.mem_cons_self) rfl rfl rfl rfl hG
      · intro h
        rw [ht] at h
        cases h
  · have hy : y < 0 ∨ 0 ≤ y := by omega
    rcases hy with hy | hy
    · have a0 := eix_p x y (by omega) (by omega)
      have a1 := eHx_p x y (by omega) (by omega)
      have a2 := ehx_p x y (by omega) (by omega)
      have a3 := eSx_p x y (by omega) (by omega)
      have a4 := esx_p x y (by omega) (by omega)
      have a5 := eVx_p x y (by omega) (by omega)
      have a6 := eiy_n x y (by omega) (by omega)
      have a7 := eHy_n x y (by omega) (by omega)
      have a8 := ehy_n x y (by omega) (by omega)
      have a9 := eNy_n x y (by omega) (by omega)
      have a10 := eSy_n x y (by omega) (by omega)
      have a11 := esy_n x y (by omega) (by omega)
      have a12 := eVy_n x y (by omega) (by omega)
      have hL : ∀ f ∈ L_5_13_0, f.ok (rho (x % 256) (y % 256) x y) := by
        intro f hf
        simp only [L_5_13_0, List.mem_cons, List.not_mem_nil, or_false] at hf
        rcases hf with rfl | rfl
        · exact ⟨rfl, cmp_eql_t (by (simp (disch := omega) only [↓a5, IE.ev, shr_u64_8] <;> try simp only [wrap_i64, wrap_u64]) <;> omega)⟩
        · exact ⟨rfl, cmp_eql_t (by (simp (disch := omega) only [↓a12, IE.ev, shr_u64_8] <;> try simp only [wrap_i64, wrap_u64]) <;> omega)⟩
      have ht : toldI 13 y = false := by simp [toldI]
      refine ⟨(IE.ev (rho (x % 256) (y % 256) x y) (.sh .shr .u64 (.sh .shl .u64 (.bin .and .u64 (.cv .u64 (.sh .shr .i64 (.cv .i64 (.sh .shl .u64 (.var 0) (.lit 56))) (.lit 56))) (.cv .u64 (.sh .shr .i64 (.cv .i64 (.sh .shl .u64 (.var 1) (.lit 56))) (.lit 56)))) (.lit 56)) (.lit 56))), 0, fun w hG => ⟨calls_sym hL (run_5_13_0 _ aR aS) List.mem_cons_self rfl rfl rfl rfl hG, ?_⟩, ?_⟩
      · rw [ht]
        exact calls_sym hL (run_5_13_0 _ aR aS) (List.mem_cons_of_mem _ List.mem_cons_self) rfl rfl rfl rfl hG
      · intro h
        rw [ht] at h
        cases h
    · have a0 := eix_p x y (by omega) (by omega)
      have a1 := eHx_p x y (by omega) (by omega)
      have a2 := ehx_p x y (by omega) (by omega)
      have a3 := eSx_p x y (by omega) (by omega)
      have a4 := esx_p x y (by omega) (by omega)
      have a5 := eVx_p x y (by omega) (by omega)
      have a6 := eiy_p x y (by omega) (by omega)
      have a7 := eHy_p x y (by omega) (by omega)
      have a8 := ehy_p x y (by omega) (by omega)
      have a9 := eSy_p x y (by omega) (by omega)
      have a10 := esy_p x y (by omega) (by omega)
      have a11 := eVy_p x y (by omega) (by omega)
      have hL : ∀ f ∈ L_5_13_0, f.ok (rho (x % 256) (y % 256) x y) := by
        intro f hf
        simp only [L_5_13_0, List.mem_cons, List.not_mem_nil, or_false] at hf
        rcases hf with rfl | rfl
        · exact ⟨rfl, cmp_eql_t (by (simp (disch := omega) only [↓a5, IE.ev, shr_u64_8] <;> try simp only [wrap_i64, wrap_u64]) <;> omega)⟩
        · exact ⟨rfl, cmp_eql_t (by (simp (disch := omega) only [↓a11, IE.ev, shr_u64_8] <;> try simp only [wrap_i64, wrap_u64]) <;> omega)⟩
      have ht : toldI 13 y = false := by simp [toldI]
      refine ⟨(IE.ev (rho (x % 256) (y % 256) x y) (.sh .shr .u64 (.sh .shl .u64 (.bin .and .u64 (.cv .u64 (.sh .shr .i64 (.cv .i64 (.sh .shl .u64 (.var 0) (.lit 56))) (.lit 56))) (.cv .u64 (.sh .shr .i64 (.cv .i64 (.sh .shl .u64 (.var 1) (.lit 56))) (.lit 56)))) (.lit 56)) (.lit 56))), 0, fun w hG => ⟨calls_sym hL (run_5_13_0 _ aR aS) List.mem_cons_self rfl rfl rfl rfl hG, ?_⟩, ?_⟩
      · rw [ht]
        exact calls_sym hL (run_5_13_0 _ aR aS) (List.mem_cons_of_mem _ List.mem_cons_self) rfl rfl rfl rfl hG
      · intro h
        rw [ht] at h
        cases h
def L_5_22_0 : List CF := [⟨.eql, (.sh .shr .u64 (.var 0) (.lit 8)), (.lit 0), true⟩,
  ⟨.eql, (.sh .shr .u64 (.var 1) (.lit 8)), (.lit 0), true⟩,
  ⟨.eql, (.var 0), (.var 1), false⟩]
def J_5_22_0 : List SEntry := [(5, [.v (.int .i64 22), .agg [.v (.int .i64 5), .sym (.int .u64 (.var 0))], .agg [.v (.int .i64 5), .sym (.int .u64 (.var 1))]], .v (.tuple #[.agg #[.int .i64 0, .int .u64 0], .int .i64 0])),
  (7, [.v (.int .i64 22), .sym (.int .i64 (.var 2)), .sym (.int .i64 (.var 3))], .v (.tuple #[.int .i64 0, .bool false]))]
theorem run_5_22_0 (ρ : Nat → Int) (aR aS : Addr) : J_5_22_0.map (fun e => (@call (E ρ (knowL L_5_22_0) []) Tryz.prog (glob aR aS) noO 300 60 (.fn e.1) e.2.1 []).map fun r => nrm r.1) = J_5_22_0.map fun e => some e.2.2 := by kernel_rfl
def L_5_22_1 : List CF := [⟨.eql, (.sh .shr .u64 (.var 0) (.lit 8)), (.lit 0), true⟩,
  ⟨.eql, (.sh .shr .u64 (.var 1) (.lit 8)), (.lit 0), true⟩,
  ⟨.eql, (.var 0), (.var 1), true⟩]
def J_5_22_1 : List SEntry := [(5, [.v (.int .i64 22), .agg [.v (.int .i64 5), .sym (.int .u64 (.var 0))], .agg [.v (.int .i64 5), .sym (.int .u64 (.var 1))]], .v (.tuple #[.agg #[.int .i64 0, .int .u64 1], .int .i64 0])),
  (7, [.v (.int .i64 22), .sym (.int .i64 (.var 2)), .sym (.int .i64 (.var 3))], .v (.tuple #[.int .i64 0, .bool false]))]
theorem run_5_22_1 (ρ : Nat → Int) (aR aS : Addr) : J_5_22_1.map (fun e => (@call (E ρ (knowL L_5_22_1) []) Tryz.prog (glob aR aS) noO 300 60 (.fn e.1) e.2.1 []).map fun r => nrm r.1) = J_5_22_1.map fun e => some e.2.2 := by kernel_rfl
theorem good_5_22 (aR aS : Addr) (x y : Int) (hx0 : (-128) ≤ x) (hx1 : x ≤ 127) (hy0 : (-128) ≤ y) (hy1 : y ≤ 127) : Good aR aS 22 5 0 (-128) 127 x y := by
  have hx : x < 0 ∨ 0 ≤ x := by omega
  rcases hx with hx | hx
  · have hy : y < 0 ∨ 0 ≤ y := by omega
    rcases hy with hy | hy
    · have a0 := eix_n x y (by omega) (by omega)
      have a1 := eHx_n x y (by omega) (by omega)
      have a2 := ehx_n x y (by omega) (by omega)
      have a3 := eNx_n x y (by omega) (by omega)
      have a4 := eSx_n x y (by omega) (by omega)
      have a5 := esx_n x y (by omega) (by omega)
      have a6 := eVx_n x y (by omega) (by omega)
      have a7 := eiy_n x y (by omega) (by omega)
      have a8 := eHy_n x y (by omega) (by omega)
      have a9 := ehy_n x y (by omega) (by omega)
      have a10 := eNy_n x y (by omega) (by omega)
      have a11 := eSy_n x y (by omega) (by omega)
      have a12 := esy_n x y (by omega) (by omega)
      have a13 := eVy_n x y (by omega) (by omega)
      by_cases c2 : IE.ev (rho (x % 256) (y % 256) x y) (.var 0) = IE.ev (rho (x % 256) (y % 256) x y) (.var 1)
      · have c2' := c2
        try (simp (disch := omega) only [↓a6, ↓a13] at c2' <;> try simp only [wrap_i64, wrap_u64] at c2')
        have hL : ∀ f ∈ L_5_22_1, f.ok (rho (x % 256) (y % 256) x y) := by
          intro f hf
          simp only [L_5_22_1, List.mem_cons, List.not_mem_nil, or_false] at hf
          rcases hf with rfl | rfl | rfl
          · exact ⟨rfl, cmp_eql_t (by (simp (disch := omega) only [↓a6, IE.ev, shr_u64_8] <;> try simp only [wrap_i64, wrap_u64]) <;> omega)⟩
          · exact ⟨rfl, cmp_eql_t (by (simp (disch := omega) only [↓a13, IE.ev, shr_u64_8] <;> try simp only [wrap_i64, wrap_u64]) <;> omega)⟩
          · exact ⟨rfl, cmp_eql_t c2⟩
        have ht : toldI 22 y = false := by simp [toldI]
        refine ⟨1, 0, fun w hG => ⟨calls_sym hL (run_5_22_1 _ aR aS) List.mem_cons_self rfl rfl rfl rfl hG, ?_⟩, ?_⟩
        · rw [ht]
          exact calls_sym hL (run_5_22_1 _ aR aS) (List.mem_cons_of_mem _ List.mem_cons_self) rfl rfl rfl rfl hG
        · intro h
          rw [ht] at h
          cases h
      · have c2' := c2
        try (simp (disch := omega) only [↓a6, ↓a13] at c2' <;> try simp only [wrap_i64, wrap_u64] at c2')
        have hL : ∀ f ∈ L_5_22_0, f.ok (rho (x % 256) (y % 256) x y) := by
          intro f hf
          simp only [L_5_22_0, List.mem_cons, List.not_mem_nil, or_false] at hf
          rcases hf with rfl | rfl | rfl
          · exact ⟨rfl, cmp_eql_t (by (simp (disch := omega) only [↓a6, IE.ev, shr_u64_8] <;> try simp only [wrap_i64, wrap_u64]) <;> omega)⟩
          · exact ⟨rfl, cmp_eql_t (by (simp (disch := omega) only [↓a13, IE.ev, shr_u64_8] <;> try simp only [wrap_i64, wrap_u64]) <;> omega)⟩
          · exact ⟨rfl, cmp_eql_n c2⟩
        have ht : toldI 22 y = false := by simp [toldI]
        refine ⟨0, 0, fun w hG => ⟨calls_sym hL (run_5_22_0 _ aR aS) List.mem_cons_self rfl rfl rfl rfl hG, ?_⟩, ?_⟩
        · rw [ht]
          exact calls_sym hL (run_5_22_0 _ aR aS) (List.mem_cons_of_mem _ List.mem_cons_self) rfl rfl rfl rfl hG
        · intro h
          rw [ht] at h
          cases h
    · have a0 := eix_n x y (by omega) (by omega)
      have a1 := eHx_n x y (by omega) (by omega)
      have a2 := ehx_n x y (by omega) (by omega)
      have a3 := eNx_n x y (by omega) (by omega)
      have a4 := eSx_n x y (by omega) (by omega)
      have a5 := esx_n x y (by omega) (by omega)
      have a6 := eVx_n x y (by omega) (by omega)
      have a7 := eiy_p x y (by omega) (by omega)
      have a8 := eHy_p x y (by omega) (by omega)
      have a9 := ehy_p x y (by omega) (by omega)
      have a10 := eSy_p x y (by omega) (by omega)
      have a11 := esy_p x y (by omega) (by omega)
      have a12 := eVy_p x y (by omega) (by omega)
      by_cases c2 : IE.ev (rho (x % 256) (y % 256) x y) (.var 0) = IE.ev (rho (x % 256) (y % 256) x y) (.var 1)
      · exact absurd c2 (by (simp (disch := omega) only [↓a6, ↓a12] <;> try simp only [wrap_i64, wrap_u64]) <;> omega)
      · have c2' := c2
        try (simp (disch := omega) only [↓a6, ↓a12] at c2' <;> try simp only [wrap_i64, wrap_u64] at c2')
        have hL : ∀ f ∈ L_5_22_0, f.ok (rho (x % 256) (y % 256) x y) := by
          intro f hf
          simp only [L_5_22_0, List.mem_cons, List.not_mem_nil, or_false] at hf
          rcases hf with rfl | rfl | rfl
          · exact ⟨rfl, cmp_eql_t (by (simp (disch := omega) only [↓a6, IE.ev, shr_u64_8] <;> try simp only [wrap_i64, wrap_u64]) <;> omega)⟩
          · exact ⟨rfl, cmp_eql_t (by (simp (disch := omega) only [↓a12, IE.ev, shr_u64_8] <;> try simp only [wrap_i64, wrap_u64]) <;> omega)⟩
          · exact ⟨rfl, cmp_eql_n c2⟩
        have ht : toldI 22 y = false := by simp [toldI]
        refine ⟨0, 0, fun w hG => ⟨calls_sym hL (run_5_22_0 _ aR aS) List.mem_cons_self rfl rfl rfl rfl hG, ?_⟩, ?_⟩
        · rw [ht]
          exact calls_sym hL (run_5_22_0 _ aR aS) (List.mem_cons_of_mem _ List.mem_cons_self) rfl rfl rfl rfl hG
        · intro h
          rw [ht] at h
          cases h
  · have hy : y < 0 ∨ 0 ≤ y := by omega
    rcases hy with hy | hy
    · have a0 := eix_p x y (by omega) (by omega)
      have a1 := eHx_p x y (by omega) (by omega)
      have a2 := ehx_p x y (by omega) (by omega)
      have a3 := eSx_p x y (by omega) (by omega)
      have a4 := esx_p x y (by omega) (by omega)
      have a5 := eVx_p x y (by omega) (by omega)
      have a6 := eiy_n x y (by omega) (by omega)
      have a7 := eHy_n x y (by omega) (by omega)
      have a8 := ehy_n x y (by omega) (by omega)
      have a9 := eNy_n x y (by omega) (by omega)
      have a10 := eSy_n x y (by omega) (by omega)
      have a11 := esy_n x y (by omega) (by omega)
      have a12 := eVy_n x y (by omega) (by omega)
      by_cases c2 : IE.ev (rho (x % 256) (y % 256) x y) (.var 0) = IE.ev (rho (x % 256) (y % 256) x y) (.var 1)
      · exact absurd c2 (by (simp (disch := omega) only [↓a5, ↓a12] <;> try simp only [wrap_i64, wrap_u64]) <;> omega)
      · have c2' := c2
        try (simp (disch := omega) only [↓a5, ↓a12] at c2' <;> try simp only [wrap_i64, wrap_u64] at c2')
        have hL : ∀ f ∈ L_5_22_0, f.ok (rho (x % 256) (y % 256) x y) := by
          intro f hf
          simp only [L_5_22_0, List.mem_cons, List.not_mem_nil, or_false] at hf
          rcases hf with rfl | rfl | rfl
          · exact ⟨rfl, cmp_eql_t (by (simp (disch := omega) only [↓a5, IE.ev, shr_u64_8] <;> try simp only [wrap_i64, wrap_u64]) <;> omega)⟩
          · exact ⟨rfl, cmp_eql_t (by (simp (disch := omega) only [↓a12, IE.ev, shr_u64_8] <;> try simp only [wrap_i64, wrap_u64]) <;> omega)⟩
          · exact ⟨rfl, cmp_eql_n c2⟩
        have ht : toldI 22 y = false := by simp [toldI]
        refine ⟨0, 0, fun w hG => ⟨calls_sym hL (run_5_22_0 _ aR aS) List.mem_cons_self rfl rfl rfl rfl hG, ?_⟩, ?_⟩
        · rw [ht]
          exact calls_sym hL (run_5_22_0 _ aR aS) (List.mem_cons_of_mem _ List.mem_cons_self) rfl rfl rfl rfl hG
        · intro h
          rw [ht] at h
          cases h
    · have a0 := eix_p x y (by omega) (by omega)
      have a1 := eHx_p x y (by omega) (by omega)
      have a2 := ehx_p x y (by omega) (by omega)
      have a3 := eSx_p x y (by omega) (by omega)
      have a4 := esx_p x y (by omega) (by omega)
      have a5 := eVx_p x y (by omega) (by omega)
      have a6 := eiy_p x y (by omega) (by omega)
      have a7 := eHy_p x y (by omega) (by omega)
      have a8 := ehy_p x y (by omega) (by omega)
      have a9 := eSy_p x y (by omega) (by omega)
      have a10 := esy_p x y (by omega) (by omega)
      have a11 := eVy_p x y (by omega) (by omega)
      by_cases c2 : IE.ev (rho (x % 256) (y % 256) x y) (.var 0) = IE.ev (rho (x % 256) (y % 256) x y) (.var 1)
      · have c2' := c2
        try (simp (disch := omega) only [↓a5, ↓a11] at c2' <;> try simp only [wrap_i64, wrap_u64] at c2')
        have hL : ∀ f ∈ L_5_22_1, f.ok (rho (x % 256) (y % 256) x y) := by
          intro f hf
          simp only [L_5_22_1, List.mem_cons, List.not_mem_nil, or_false] at hf
          rcases hf with rfl | rfl | rfl
          · exact ⟨rfl, cmp_eql_t (by (simp (disch := omega) only [↓a5, IE.ev, shr_u64_8] <;> try simp only [wrap_i64, wrap_u64]) <;> omega)⟩
          · exact ⟨rfl, cmp_eql_t (by (simp (disch := omega) only [↓a11, IE.ev, shr_u64_8] <;> try simp only [wrap_i64, wrap_u64]) <;> omega)⟩
          · exact ⟨rfl, cmp_eql_t c2⟩
        have ht : toldI 22 y = false := by simp [toldI]
        refine ⟨1, 0, fun w hG => ⟨calls_sym hL (run_5_22_1 _ aR aS) List.mem_cons_self rfl rfl rfl rfl hG, ?_⟩, ?_⟩
        · rw [ht]
          exact calls_sym hL (run_5_22_1 _ aR aS) (List.mem_cons_of_mem _ List.mem_cons_self) rfl rfl rfl rfl hG
        · intro h
          rw [ht] at h
          cases h
      · have c2' := c2
        try (simp (disch := omega) only [↓a5, ↓a11] at c2' <;> try simp only [wrap_i64, wrap_u64] at c2')
        have hL : ∀ f ∈ L_5_22_0, f.ok (rho (x % 256) (y % 256) x y) := by
          intro f hf
          simp only [L_5_22_0, List.mem_cons, List.not_mem_nil, or_false] at hf
          rcases hf with rfl | rfl | rfl
          · exact ⟨rfl, cmp_eql_t (by (simp (disch := omega) only [↓a5, IE.ev, shr_u64_8] <;> try simp only [wrap_i64, wrap_u64]) <;> omega)⟩
          · exact ⟨rfl, cmp_eql_t (by (simp (disch := omega) only [↓a11, IE.ev, shr_u64_8] <;> try simp only [wrap_i64, wrap_u64]) <;> omega)⟩
          · exact ⟨rfl, cmp_eql_n c2⟩
        have ht : toldI 22 y = false := by simp [toldI]
        refine ⟨0, 0, fun w hG => ⟨calls_sym hL (run_5_22_0 _ aR aS) List.mem_cons_self rfl rfl rfl rfl hG, ?_⟩, ?_⟩
        · rw [ht]
          exact calls_sym hL (run_5_22_0 _ aR aS) (List.mem_cons_of_mem _ List.mem_cons_self) rfl rfl rfl rfl hG
        · intro h
          rw [ht] at h
          cases h
end
end Go.Proofs.YtedbnohkkepajaaGreatDoor
