import Derived.Test.YtedbnohkkepajaaGreatDoorGE
namespace Go.Proofs.YtedbnohkkepajaaGreatDoor
noncomputable section
open Go Go.RX
open Go.RowKit (Below)
set_option maxRecDepth 1000000
set_option maxHeartbeats 4000000
def L_1_11_0 : List CF := [⟨.eql, (.sh .shr .u64 (.var 0) (.lit 8)), (.lit 0), true⟩,
  ⟨.eql, (.sh .shr .u64 (.var 1) (.lit 8)), (.lit 0), true⟩,
  ⟨.lss, (.var 1), (.var 0), false⟩]
def J_1_11_0 : List SEntry := [(5, [.v (.int .i64 11), .agg [.v (.int .i64 1), .sym (.int .u64 (.var 0))], .agg [.v (.int .i64 1), .sym (.int .u64 (.var 1))]], .tuple [.agg [.v (.int .i64 1), .sym (.int .u64 (.sh .shr .u64 (.sh .shl .u64 (.var 0) (.lit 56)) (.lit 56)))], .v (.int .i64 0)]),
  (7, [.v (.int .i64 11), .sym (.int .i64 (.var 2)), .sym (.int .i64 (.var 3))], .tuple [.sym (.int .i64 (.tri 3 (.var 2) (.var 3) (.lit 0))), .v (.bool true)])]
theorem run_1_11_0 (ρ : Nat → Int) (aR aS : Addr) : J_1_11_0.map (fun e => (@call (E ρ (knowL L_1_11_0) []) Tryz.prog (glob aR aS) noO 300 60 (.fn e.1) e.2.1 []).map fun r => nrm r.1) = J_1_11_0.map fun e => some e.2.2 := by kernel_rfl
def L_1_11_1 : List CF := [⟨.eql, (.sh .shr .u64 (.var 0) (.lit 8)), (.lit 0), true⟩,
  ⟨.eql, (.sh .shr .u64 (.var 1) (.lit 8)), (.lit 0), true⟩,
  ⟨.lss, (.var 1), (.var 0), true⟩]
def J_1_11_1 : List SEntry := [(5, [.v (.int .i64 11), .agg [.v (.int .i64 1), .sym (.int .u64 (.var 0))], .agg [.v (.int .i64 1), .sym (.int .u64 (.var 1))]], .tuple [.agg [.v (.int .i64 1), .sym (.int .u64 (.sh .shr .u64 (.sh .shl .u64 (.var 1) (.lit 56)) (.lit 56)))], .v (.int .i64 0)]),
  (7, [.v (.int .i64 11), .sym (.int .i64 (.var 2)), .sym (.int .i64 (.var 3))], .tuple [.sym (.int .i64 (.tri 3 (.var 2) (.var 3) (.lit 0))), .v (.bool true)])]
theorem run_1_11_1 (ρ : Nat → Int) (aR aS : Addr) : J_1_11_1.map (fun e => (@call (E ρ (knowL L_1_11_1) []) Tryz.prog (glob aR aS) noO 300 60 (.fn e.1) e.2.1 []).map fun r => nrm r.1) = J_1_11_1.map fun e => some e.2.2 := by kernel_rfl
theorem good_1_11 (aR aS : Addr) (x y : Int) (hx0 : 0 ≤ x) (hx1 : x ≤ 255) (hy0 : 0 ≤ y) (hy1 : y ≤ 255) : Good aR aS 11 1 1 0 255 x y := by
  have a0 := eVx_u x y hx0 hx1
  have a1 := eVy_u x y hy0 hy1
  by_cases c2 : IE.ev (rho (x % 256) (y % 256) x y) (.var 1) < IE.ev (rho (x % 256) (y % 256) x y) (.var 0)
  · have c2' := c2
    try (simp (disch := omega) only [↓a0, ↓a1] at c2' <;> try simp only [wrap_i64, wrap_u64] at c2')
    have hL : ∀ f ∈ L_1_11_1, f.ok (rho (x % 256) (y % 256) x y) := by
      intro f hf
      simp only [L_1_11_1, List.mem_cons, List.not_mem_nil, or_false] at hf
      rcases hf with rfl | rfl | rfl
      · exact ⟨rfl, cmp_eql_t (by (simp (disch := omega) only [↓a0, IE.ev, shr_u64_8] <;> try simp only [wrap_i64, wrap_u64]) <;> omega)⟩
      · exact ⟨rfl, cmp_eql_t (by (simp (disch := omega) only [↓a1, IE.ev, shr_u64_8] <;> try simp only [wrap_i64, wrap_u64]) <;> omega)⟩
      · exact ⟨rfl, cmp_lss_t c2⟩
    have ht : toldI 11 y = true := by simp [toldI]
    refine ⟨(IE.ev (rho (x % 256) (y % 256) x y) (.sh .shr .u64 (.sh .shl .u64 (.var 1) (.lit 56)) (.lit 56))), (IE.ev (rho (x % 256) (y % 256) x y) (.tri 3 (.var 2) (.var 3) (.lit 0))), fun w hG => ⟨calls_sym hL (run_1_11_1 _ aR aS) List.mem_cons_self rfl rfl rfl rfl hG, ?_⟩, ?_⟩
    · rw [ht]
      exact calls_sym hL (run_1_11_1 _ aR aS) (List.mem_cons_of_mem _ List.mem_cons_self) rfl rfl rfl rfl hG
    · intro _
      clear hL
      unfold clampI
      rw [if_neg (by decide)]
      (simp (disch := omega) only [↓a1, IE.ev, rho_2, rho_3, shl_u64_56, shr_u64_56, tri3, wrapu_id] <;> try simp only [wrap_i64, wrap_u64])
      all_goals omega
  · have c2' := c2
    try (simp (disch := omega) only [↓a0, ↓a1] at c2' <;> try simp only [wrap_i64, wrap_u64] at c2')
    have hL : ∀ f ∈ L_1_11_0, f.ok (rho (x % 256) (y % 256) x y) := by
      intro f hf
      simp only [L_1_11_0, List.mem_cons, List.not_mem_nil, or_false] at hf
      rcases hf with rfl | rfl | rfl
      · exact ⟨rfl, cmp_eql_t (by (simp (disch := omega) only [↓a0, IE.ev, shr_u64_8] <;> try simp only [wrap_i64, wrap_u64]) <;> omega)⟩
      · exact ⟨rfl, cmp_eql_t (by (simp (disch := omega) only [↓a1, IE.ev, shr_u64_8] <;> try simp only [wrap_i64, wrap_u64]) <;> omega)⟩
      · exact ⟨rfl, cmp_lss_n c2⟩
    have ht : toldI 11 y = true := by simp [toldI]
    refine ⟨(IE.ev (rho (x % 256) (y % 256) x y) (.sh .shr .u64 (.sh .shl .u64 (.var 0) (.lit 56)) (.lit 56))), (IE.ev (rho (x % 256) (y % 256) x y) (.tri 3 (.var 2) (.var 3) (.lit 0))), fun w hG => ⟨calls_sym hL (run_1_11_0 _ aR aS) List.mem_cons_self rfl rfl rfl rfl hG, ?_⟩, ?_⟩
    · rw [ht]
      exact calls_sym hL (run_1_11_0 _ aR aS) (List.mem_cons_of_mem _ List.mem_cons_self) rfl rfl rfl rfl hG
    · intro _
      clear hL
      unfold clampI
      rw [if_neg (by decide)]
      (simp (disch := omega) only [↓a0, IE.ev, rho_2, rho_3, shl_u64_56, shr_u64_56, tri3, wrapu_id] <;> try simp only [wrap_i64, wrap_u64])
      all_goals omega
def L_1_20_0 : List CF := [⟨.eql, (.sh .shr .u64 (.var 0) (.lit 8)), (.lit 0), true⟩,
  ⟨.eql, (.sh .shr .u64 (.var 1) (.lit 8)), (.lit 0), true⟩,
  ⟨.geq, (.var 0), (.lit 0), true⟩,
  ⟨.lss, (.var 0), (.lit 18446744073709551616), true⟩,
  ⟨.geq, (.var 1), (.lit 0), true⟩,
  ⟨.lss, (.var 1), (.lit 18446744073709551616), true⟩,
  ⟨.geq, (.tri 0 (.var 0) (.var 1) (.lit 0)), (.lit 0), true⟩,
  ⟨.leq, (.tri 0 (.var 0) (.var 1) (.lit 0)), (.lit 1), true⟩,
  ⟨.geq, (.tri 0 (.bin .add .u64 (.bin .add .u64 (.var 0) (.var 1)) (.lit 0)) (.lit 1) (.lit 0)), (.lit 0), true⟩,
  ⟨.leq, (.tri 0 (.bin .add .u64 (.bin .add .u64 (.var 0) (.var 1)) (.lit 0)) (.lit 1) (.lit 0)), (.lit 1), true⟩,
  ⟨.lss, (.bin .rem .i64 (.bin .add .i64 (.bin .add .i64 (.var 2) (.var 3)) (.lit 1)) (.lit 2)), (.lit 0), false⟩]
def J_1_20_0 : List SEntry := [(5, [.v (.int .i64 20), .agg [.v (.int .i64 1), .sym (.int .u64 (.var 0))], .agg [.v (.int .i64 1), .sym (.int .u64 (.var 1))]], .tuple [.agg [.v (.int .i64 1), .sym (.int .u64 (.sh .shr .u64 (.sh .shl .u64 (.bin .or .u64 (.sh .shr .u64 (.bin .add .u64 (.bin .add .u64 (.bin .add .u64 (.bin .add .u64 (.var 0) (.var 1)) (.lit 0)) (.lit 1)) (.lit 0)) (.lit 1)) (.sh .shl .u64 (.bin .add .u64 (.bin .add .u64 (.bin .add .u64 (.bin .add .u64 (.lit 0) (.lit 0)) (.tri 0 (.var 0) (.var 1) (.lit 0))) (.lit 0)) (.tri 0 (.bin .add .u64 (.bin .add .u64 (.var 0) (.var 1)) (.lit 0)) (.lit 1) (.lit 0))) (.lit 63))) (.lit 56)) (.lit 56)))], .v (.int .i64 0)]),
  (7, [.v (.int .i64 20), .sym (.int .i64 (.var 2)), .sym (.int .i64 (.var 3))], .tuple [.sym (.int .i64 (.bin .quo .i64 (.bin .add .i64 (.bin .add .i64 (.var 2) (.var 3)) (.lit 1)) (.lit 2))), .v (.bool true)])]
theorem run_1_20_0 (ρ : Nat → Int) (aR aS : Addr) : J_1_20_0.map (fun e => (@call (E ρ (knowL L_1_20_0) []) Tryz.prog (glob aR aS) noO 300 60 (.fn e.1) e.2.1 []).map fun r => nrm r.1) = J_1_20_0.map fun e => some e.2.2 := by kernel_rfl
theorem good_1_20 (aR aS : Addr) (x y : Int) (hx0 : 0 ≤ x) (hx1 : x ≤ 255) (hy0 : 0 ≤ y) (hy1 : y ≤ 255) : Good aR aS 20 1 1 0 255 x y := by
  have a0 := eVx_u x y hx0 hx1
  have a1 := eVy_u x y hy0 hy1
  rcases Int.lt_or_le (x + y + 1) 0 with hs | hs
  · skip
    have hL : ∀ f ∈ L_1_20_0, f.ok (rho (x % 256) (y % 256) x y) := by
      intro f hf
      simp only [L_1_20_0, List.mem_cons, List.not_mem_nil, or_false] at hf
      rcases hf with rfl | rfl | rfl | rfl | rfl | rfl | rfl | rfl | rfl | rfl | rfl
      · exact ⟨rfl, cmp_eql_t (by (simp (disch := omega) only [↓a0, IE.ev, shr_u64_8] <;> try simp only [wrap_i64, wrap_u64]) <;> omega)⟩
      · exact ⟨rfl, cmp_eql_t (by (simp (disch := omega) only [↓a1, IE.ev, shr_u64_8] <;> try simp only [wrap_i64, wrap_u64]) <;> omega)⟩
      · exact ⟨rfl, cmp_geq_t (by (simp (disch := omega) only [↓a0, IE.ev] <;> try simp only [wrap_i64, wrap_u64]) <;> omega)⟩
      · exact ⟨rfl, cmp_lss_t (by (simp (disch := omega) only [↓a0, IE.ev] <;> try simp only [wrap_i64, wrap_u64]) <;> omega)⟩
      · exact ⟨rfl, cmp_geq_t (by (simp (disch := omega) only [↓a1, IE.ev] <;> try simp only [wrap_i64, wrap_u64]) <;> omega)⟩
      · exact ⟨rfl, cmp_lss_t (by (simp (disch := omega) only [↓a1, IE.ev] <;> try simp only [wrap_i64, wrap_u64]) <;> omega)⟩
      · exact ⟨rfl, cmp_geq_t (by (simp (disch := omega) only [↓a0, ↓a1, IE.ev, tri0] <;> try simp only [wrap_i64, wrap_u64]) <;> omega)⟩
      · exact ⟨rfl, cmp_leq_t (by (simp (disch := omega) only [↓a0, ↓a1, IE.ev, tri0] <;> try simp only [wrap_i64, wrap_u64]) <;> omega)⟩
      · exact ⟨rfl, cmp_geq_t (by (simp (disch := omega) only [↓a0, ↓a1, IE.ev, ev_add, tri0, wrapu_id] <;> try simp only [wrap_i64, wrap_u64]) <;> omega)⟩
      · exact ⟨rfl, cmp_leq_t (by (simp (disch := omega) only [↓a0, ↓a1, IE.ev, ev_add, tri0, wrapu_id] <;> try simp only [wrap_i64, wrap_u64]) <;> omega)⟩
      · exact ⟨rfl, cmp_lss_f (by (simp (disch := omega) only [IE.ev, rho_2, rho_3, ev_add, ri_p, wrapi_id] <;> try simp only [wrap_i64, wrap_u64]) <;> omega)⟩
    have ht : toldI 20 y = true := by simp [toldI]
    refine ⟨(IE.ev (rho (x % 256) (y % 256) x y) (.sh .shr .u64 (.sh .shl .u64 (.bin .or .u64 (.sh .shr .u64 (.bin .add .u64 (.bin .add .u64 (.bin .add .u64 (.bin .add .u64 (.var 0) (.var 1)) (.lit 0)) (.lit 1)) (.lit 0)) (.lit 1)) (.sh .shl .u64 (.bin .add .u64 (.bin .add .u64 (.bin .add .u64 (.bin .add .u64 (.lit 0) (.lit 0)) (.tri 0 (.var 0) (.var 1) (.lit 0))) (.lit 0)) (.tri 0 (.bin .add .u64 (.bin .add .u64 (.var 0) (.var 1)) (.lit 0)) (.lit 1) (.lit 0))) (.lit 63))) (.lit 56)) (.lit 56))), (IE.ev (rho (x % 256) (y % 256) x y) (.bin .quo .i64 (.bin .add .i64 (.bin .add .i64 (.var 2) (.var 3)) (.lit 1)) (.lit 2))), fun w hG => ⟨calls_sym hL (run_1_20_0 _ aR aS) List.mem_cons_self rfl rfl rfl rfl hG, ?_⟩, ?_⟩
    · rw [ht]
      exact calls_sym hL (run_1_20_0 _ aR aS) (List.mem_cons_of_mem _ List.mem_cons_self) rfl rfl rfl rfl hG
    · intro _
      clear hL
      unfold clampI
      rw [if_neg (by decide)]
      have o1 := or63 (IE.ev (rho (x % 256) (y % 256) x y) (.sh .shr .u64 (.bin .add .u64 (.bin .add .u64 (.bin .add .u64 (.bin .add .u64 (.var 0) (.var 1)) (.lit 0)) (.lit 1)) (.lit 0)) (.lit 1))) (IE.ev (rho (x % 256) (y % 256) x y) (.sh .shl .u64 (.bin .add .u64 (.bin .add .u64 (.bin .add .u64 (.bin .add .u64 (.lit 0) (.lit 0)) (.tri 0 (.var 0) (.var 1) (.lit 0))) (.lit 0)) (.tri 0 (.bin .add .u64 (.bin .add .u64 (.var 0) (.var 1)) (.lit 0)) (.lit 1) (.lit 0))) (.lit 63))) (by (simp (disch := omega) only [↓a0, ↓a1, IE.ev, shr_u64_1, ev_add, wrapu_id] <;> try simp only [wrap_i64, wrap_u64]) <;> omega) (by (simp (disch := omega) only [↓a0, ↓a1, IE.ev, shr_u64_1, ev_add, wrapu_id] <;> try simp only [wrap_i64, wrap_u64]) <;> omega) (by (simp (disch := omega) only [↓a0, ↓a1, IE.ev, shl_u64_63, ev_add, tri0, wrapu_id] <;> try simp only [wrap_i64, wrap_u64]) <;> omega) (by (simp (disch := omega) only [↓a0, ↓a1, IE.ev, shl_u64_63, ev_add, tri0, wrapu_id] <;> try simp only [wrap_i64, wrap_u64]) <;> omega) (by (simp (disch := omega) only [↓a0, ↓a1, IE.ev, shl_u64_63, ev_add, tri0, wrapu_id] <;> try simp only [wrap_i64, wrap_u64]) <;> omega)
      have o2 : IE.ev (rho (x % 256) (y % 256) x y) (.sh .shr .u64 (.sh .shl .u64 (.bin .or .u64 (.sh .shr .u64 (.bin .add .u64 (.bin .add .u64 (.bin .add .u64 (.bin .add .u64 (.var 0) (.var 1)) (.lit 0)) (.lit 1)) (.lit 0)) (.lit 1)) (.sh .shl .u64 (.bin .add .u64 (.bin .add .u64 (.bin .add .u64 (.bin .add .u64 (.lit 0) (.lit 0)) (.tri 0 (.var 0) (.var 1) (.lit 0))) (.lit 0)) (.tri 0 (.bin .add .u64 (.bin .add .u64 (.var 0) (.var 1)) (.lit 0)) (.lit 1) (.lit 0))) (.lit 63))) (.lit 56)) (.lit 56)) = binI .or .u64 (IE.ev (rho (x % 256) (y % 256) x y) (.sh .shr .u64 (.bin .add .u64 (.bin .add .u64 (.bin .add .u64 (.bin .add .u64 (.var 0) (.var 1)) (.lit 0)) (.lit 1)) (.lit 0)) (.lit 1))) (IE.ev (rho (x % 256) (y % 256) x y) (.sh .shl .u64 (.bin .add .u64 (.bin .add .u64 (.bin .add .u64 (.bin .add .u64 (.lit 0) (.lit 0)) (.tri 0 (.var 0) (.var 1) (.lit 0))) (.lit 0)) (.tri 0 (.bin .add .u64 (.bin .add .u64 (.var 0) (.var 1)) (.lit 0)) (.lit 1) (.lit 0))) (.lit 63))) % 256 := by
        show shI .shr .u64 (shI .shl .u64 (binI .or .u64 (IE.ev (rho (x % 256) (y % 256) x y) (.sh .shr .u64 (.bin .add .u64 (.bin .add .u64 (.bin .add .u64 (.bin .add .u64 (.var 0) (.var 1)) (.lit 0)) (.lit 1)) (.lit 0)) (.lit 1))) (IE.ev (rho (x % 256) (y % 256) x y) (.sh .shl .u64 (.bin .add .u64 (.bin .add .u64 (.bin .add .u64 (.bin .add .u64 (.lit 0) (.lit 0)) (.tri 0 (.var 0) (.var 1) (.lit 0))) (.lit 0)) (.tri 0 (.bin .add .u64 (.bin .add .u64 (.var 0) (.var 1)) (.lit 0)) (.lit 1) (.lit 0))) (.lit 63)))) 56) 56 = _
        simp only [shr_u64_56, shl_u64_56, wrap_u64]
        omega
      rw [o2, o1]
      (simp (disch := omega) only [↓a0, ↓a1, IE.ev, rho_2, rho_3, shr_u64_1, ev_add, qi_p, wrapi_id, wrapu_id] <;> try simp only [wrap_i64, wrap_u64]) <;> omega
  · skip
    have hL : ∀ f ∈ L_1_20_0, f.ok (rho (x % 256) (y % 256) x y) := by
      intro f hf
      simp only [L_1_20_0, List.mem_cons, List.not_mem_nil, or_false] at hf
      rcases hf with rfl | rfl | rfl | rfl | rfl | rfl | rfl | rfl | rfl | rfl | rfl
      · exact ⟨rfl, cmp_eql_t (by (simp (disch := omega) only [↓a0, IE.ev, shr_u64_8] <;> try simp only [wrap_i64, wrap_u64]) <;> omega)⟩
      · exact ⟨rfl, cmp_eql_t (by (simp (disch := omega) only [↓a1, IE.ev, shr_u64_8] <;> try simp only [wrap_i64, wrap_u64]) <;> omega)⟩
      · exact ⟨rfl, cmp_geq_t (by (simp (disch := omega) only [↓a0, IE.ev] <;> try simp only [wrap_i64, wrap_u64]) <;> omega)⟩
      · exact ⟨rfl, cmp_lss_t (by (simp (disch := omega) only [↓a0, IE.ev] <;> try simp only [wrap_i64, wrap_u64]) <;> omega)⟩
      · exact ⟨rfl, cmp_geq_t (by (simp (disch := omega) only [↓a1, IE.ev] <;> try simp only [wrap_i64, wrap_u64]) <;> omega)⟩
      · exact ⟨rfl, cmp_lss_t (by (simp (disch := omega) only [↓a1, IE.ev] <;> try simp only [wrap_i64, wrap_u64]) <;> omega)⟩
      · exact ⟨rfl, cmp_geq_t (by (simp (disch := omega) only [↓a0, ↓a1, IE.ev, tri0] <;> try simp only [wrap_i64, wrap_u64]) <;> omega)⟩
      · exact ⟨rfl, cmp_leq_t (by (simp (disch := omega) only [↓a0, ↓a1, IE.ev, tri0] <;> try simp only [wrap_i64, wrap_u64]) <;> omega)⟩
      · exact ⟨rfl, cmp_geq_t (by (simp (disch := omega) only [↓a0, ↓a1, IE.ev, ev_add, tri0, wrapu_id] <;> try simp only [wrap_i64, wrap_u64]) <;> omega)⟩
      · exact ⟨rfl, cmp_leq_t (by (simp (disch := omega) only [↓a0, ↓a1, IE.ev, ev_add, tri0, wrapu_id] <;> try simp only [wrap_i64, wrap_u64]) <;> omega)⟩
      · exact ⟨rfl, cmp_lss_f (by (simp (disch := omega) only [IE.ev, rho_2, rho_3, ev_add, ri_p, wrapi_id] <;> try simp only [wrap_i64, wrap_u64]) <;> omega)⟩
    have ht : toldI 20 y = true := by simp [toldI]
    refine ⟨(IE.ev (rho (x % 256) (y % 256) x y) (.sh .shr .u64 (.sh .shl .u64 (.bin .or .u64 (.sh .shr .u64 (.bin .add .u64 (.bin .add .u64 (.bin .add .u64 (.bin .add .u64 (.var 0) (.var 1)) (.lit 0)) (.lit 1)) (.lit 0)) (.lit 1)) (.sh .shl .u64 (.bin .add .u64 (.bin .add .u64 (.bin .add .u64 (.bin .add .u64 (.lit 0) (.lit 0)) (.tri 0 (.var 0) (.var 1) (.lit 0))) (.lit 0)) (.tri 0 (.bin .add .u64 (.bin .add .u64 (.var 0) (.var 1)) (.lit 0)) (.lit 1) (.lit 0))) (.lit 63))) (.lit 56)) (.lit 56))), (IE.ev (rho (x % 256) (y % 256) x y) (.bin .quo .i64 (.bin .add .i64 (.bin .add .i64 (.var 2) (.var 3)) (.lit 1)) (.lit 2))), fun w hG => ⟨calls_sym hL (run_1_20_0 _ aR aS) List.mem_cons_self rfl rfl rfl rfl hG, ?_⟩, ?_⟩
    · rw [ht]
      exact calls_sym hL (run_1_20_0 _ aR aS) (List.mem_cons_of_mem _ List.mem_cons_self) rfl rfl rfl rfl hG
    · intro _
      clear hL
      unfold clampI
      rw [if_neg (by decide)]
      have o1 := or63 (IE.ev (rho (x % 256) (y % 256) x y) (.sh .shr .u64 (.bin .add .u64 (.bin .add .u64 (.bin .add .u64 (.bin .add .u64 (.var 0) (.var 1)) (.lit 0)) (.lit 1)) (.lit 0)) (.lit 1))) (IE.ev (rho (x % 256) (y % 256) x y) (.sh .shl .u64 (.bin .add .u64 (.bin .add .u64 (.bin .add .u64 (.bin .add .u64 (.lit 0) (.lit 0)) (.tri 0 (.var 0) (.var 1) (.lit 0))) (.lit 0)) (.tri 0 (.bin .add .u64 (.bin .add .u64 (.var 0) (.var 1)) (.lit 0)) (.lit 1) (.lit 0))) (.lit 63))) (by (simp (disch := omega) only [↓a0, ↓a1, IE.ev, shr_u64_1, ev_add, wrapu_id] <;> try simp only [wrap_i64, wrap_u64]) <;> omega) (by (simp (disch := omega) only [↓a0, ↓a1, IE.ev, shr_u64_1, ev_add, wrapu_id] <;> try simp only [wrap_i64, wrap_u64]) <;> omega) (by (simp (disch := omega) only [↓a0, ↓a1, IE.ev, shl_u64_63, ev_add, tri0, wrapu_id] <;> try simp only [wrap_i64, wrap_u64]) <;> omega) (by (simp (disch := omega) only [↓a0, ↓a1, IE.ev, shl_u64_63, ev_add, tri0, wrapu_id] <;> try simp only [wrap_i64, wrap_u64]) <;> omega) (by (simp (disch := omega) only [↓a0, ↓a1, IE.ev, shl_u64_63, ev_add, tri0, wrapu_id] <;> try simp only [wrap_i64, wrap_u64]) <;> omega)
      have o2 : IE.ev (rho (x % 256) (y % 256) x y) (.sh .shr .u64 (.sh .shl .u64 (.bin .or .u64 (.sh .shr .u64 (.bin .add .u64 (.bin .add .u64 (.bin .add .u64 (.bin .add .u64 (.var 0) (.var 1)) (.lit 0)) (.lit 1)) (.lit 0)) (.lit 1)) (.sh .shl .u64 (.bin .add .u64 (.bin .add .u64 (.bin .add .u64 (.bin .add .u64 (.lit 0) (.lit 0)) (.tri 0 (.var 0) (.var 1) (.lit 0))) (.lit 0)) (.tri 0 (.bin .add .u64 (.bin .add .u64 (.var 0) (.var 1)) (.lit 0)) (.lit 1) (.lit 0))) (.lit 63))) (.lit 56)) (.lit 56)) = binI .or .u64 (IE.ev (rho (x % 256) (y % 256) x y) (.sh .shr .u64 (.bin .add .u64 (.bin .add .u64 (.bin .add .u64 (.bin .add .u64 (.var 0) (.var 1)) (.lit 0)) (.lit 1)) (.lit 0)) (.lit 1))) (IE.ev (rho (x % 256) (y % 256) x y) (.sh .shl .u64 (.bin .add .u64 (.bin .add .u64 (.bin .add .u64 (.bin .add .u64 (.lit 0) (.lit 0)) (.tri 0 (.var 0) (.var 1) (.lit 0))) (.lit 0)) (.tri 0 (.bin .add .u64 (.bin .add .u64 (.var 0) (.var 1)) (.lit 0)) (.lit 1) (.lit 0))) (.lit 63))) % 256 := by
        show shI .shr .u64 (shI .shl .u64 (binI .or .u64 (IE.ev (rho (x % 256) (y % 256) x y) (.sh .shr .u64 (.bin .add .u64 (.bin .add .u64 (.bin .add .u64 (.bin .add .u64 (.var 0) (.var 1)) (.lit 0)) (.lit 1)) (.lit 0)) (.lit 1))) (IE.ev (rho (x % 256) (y % 256) x y) (.sh .shl .u64 (.bin .add .u64 (.bin .add .u64 (.bin .add .u64 (.bin .add .u64 (.lit 0) (.lit 0)) (.tri 0 (.var 0) (.var 1) (.lit 0))) (.lit 0)) (.tri 0 (.bin .add .u64 (.bin .add .u64 (.var 0) (.var 1)) (.lit 0)) (.lit 1) (.lit 0))) (.lit 63)))) 56) 56 = _
        simp only [shr_u64_56, shl_u64_56, wrap_u64]
        omega
      rw [o2, o1]
      (simp (disch := omega) only [↓a0, ↓a1, IE.ev, rho_2, rho_3, shr_u64_1, ev_add, qi_p, wrapi_id, wrapu_id] <;> try simp only [wrap_i64, wrap_u64]) <;> omega
def L_5_11_0 : List CF := [⟨.eql, (.sh .shr .u64 (.var 0) (.lit 8)), (.lit 0), true⟩,
  ⟨.eql, (.sh .shr .u64 (.var 1) (.lit 8)), (.lit 0), true⟩,
  ⟨.neq, (.cv .u64 (.sh .shr .i64 (.sh .shr .i64 (.cv .i64 (.sh .shl .u64 (.var 1) (.lit 56))) (.lit 56)) (.lit 63))), (.cv .u64 (.sh .shr .i64 (.sh .shr .i64 (.cv .i64 (.sh .shl .u64 (.var 0) (.lit 56))) (.lit 56)) (.lit 63))), true⟩,
  ⟨.lss, (.cv .i64 (.cv .u64 (.sh .shr .i64 (.sh .shr .i64 (.cv .i64 (.sh .shl .u64 (.var 1) (.lit 56))) (.lit 56)) (.lit 63)))), (.cv .i64 (.cv .u64 (.sh .shr .i64 (.sh .shr .i64 (.cv .i64 (.sh .shl .u64 (.var 0) (.lit 56))) (.lit 56)) (.lit 63)))), false⟩]
def J_5_11_0 : List SEntry := [(5, [.v (.int .i64 11), .agg [.v (.int .i64 5), .sym (.int .u64 (.var 0))], .agg [.v (.int .i64 5), .sym (.int .u64 (.var 1))]], .tuple [.agg [.v (.int .i64 5), .sym (.int .u64 (.sh .shr .u64 (.sh .shl .u64 (.cv .u64 (.sh .shr .i64 (.cv .i64 (.sh .shl .u64 (.var 0) (.lit 56))) (.lit 56))) (.lit 56)) (.lit 56)))], .v (.int .i64 0)]),
  (7, [.v (.int .i64 11), .sym (.int .i64 (.var 2)), .sym (.int .i64 (.var 3))], .tuple [.sym (.int .i64 (.tri 3 (.var 2) (.var 3) (.lit 0))), .v (.bool true)])]
theorem run_5_11_0 (ρ : Nat → Int) (aR aS : Addr) : J_5_11_0.map (fun e => (@call (E ρ (knowL L_5_11_0) []) Tryz.prog (glob aR aS) noO 300 60 (.fn e.1) e.2.1 []).map fun r => nrm r.1) = J_5_11_0.map fun e => some e.2.2 := by kernel_rfl
def L_5_11_1 : List CF := [⟨.eql, (.sh .shr .u64 (.var 0) (.lit 8)), (.lit 0), true⟩,
  ⟨.eql, (.sh .shr .u64 (.var 1) (.lit 8)), (.lit 0), true⟩,
  ⟨.neq, (.cv .u64 (.sh .shr .i64 (.sh .shr .i64 (.cv .i64 (.sh .shl .u64 (.var 1) (.lit 56))) (.lit 56)) (.lit 63))), (.cv .u64 (.sh .shr .i64 (.sh .shr .i64 (.cv .i64 (.sh .shl .u64 (.var 0) (.lit 56))) (.lit 56)) (.lit 63))), false⟩,
  ⟨.lss, (.cv .u64 (.sh .shr .i64 (.cv .i64 (.sh .shl .u64 (.var 1) (.lit 56))) (.lit 56))), (.cv .u64 (.sh .shr .i64 (.cv .i64 (.sh .shl .u64 (.var 0) (.lit 56))) (.lit 56))), true⟩]
def J_5_11_1 : List SEntry := [(5, [.v (.int .i64 11), .agg [.v (.int .i64 5), .sym (.int .u64 (.var 0))], .agg [.v (.int .i64 5), .sym (.int .u64 (.var 1))]], .tuple [.agg [.v (.int .i64 5), .sym (.int .u64 (.sh .shr .u64 (.sh .shl .u64 (.cv .u64 (.sh .shr .i64 (.cv .i64 (.sh .shl .u64 (.var 1) (.lit 56))) (.lit 56))) (.lit 56)) (.lit 56)))], .v (.int .i64 0)]),
  (7, [.v (.int .i64 11), .sym (.int .i64 (.var 2)), .sym (.int .i64 (.var 3))], .tuple [.sym (.int .i64 (.tri 3 (.var 2) (.var 3) (.lit 0))), .v (.bool true)])]
theorem run_5_11_1 (ρ : Nat → Int) (aR aS : Addr) : J_5_11_1.map (fun e => (@call (E ρ (knowL L_5_11_1) []) Tryz.prog (glob aR aS) noO 300 60 (.fn e.1) e.2.1 []).map fun r => nrm r.1) = J_5_11_1.map fun e => some e.2.2 := by kernel_rfl
def L_5_11_2 : List CF := [⟨.eql, (.sh .shr .u64 (.var 0) (.lit 8)), (.lit 0), true⟩,
  ⟨.eql, (.sh .shr .u64 (.var 1) (.lit 8)), (.lit 0), true⟩,
  ⟨.neq, (.cv .u64 (.sh .shr .i64 (.sh .shr .i64 (.cv .i64 (.sh .shl .u64 (.var 1) (.lit 56))) (.lit 56)) (.lit 63))), (.cv .u64 (.sh .shr .i64 (.sh .shr .i64 (.cv .i64 (.sh .shl .u64 (.var 0) (.lit 56))) (.lit 56)) (.lit 63))), true⟩,
  ⟨.lss, (.cv .i64 (.cv .u64 (.sh .shr .i64 (.sh .shr .i64 (.cv .i64 (.sh .shl .u64 (.var 1) (.lit 56))) (.lit 56)) (.lit 63)))), (.cv .i64 (.cv .u64 (.sh .shr .i64 (.sh .shr .i64 (.cv .i64 (.sh .shl .u64 (.var 0) (.lit 56))) (.lit 56)) (.lit 63)))), true⟩]
def J_5_11_2 : List SEntry := [(5, [.v (.int .i64 11), .agg [.v (.int .i64 5), .sym (.int .u64 (.var 0))], .agg [.v (.int .i64 5), .sym (.int .u64 (.var 1))]], .tuple [.agg [.v (.int .i64 5), .sym (.int .u64 (.sh .shr .u64 (.sh .shl .u64 (.cv .u64 (.sh .shr .i64 (.cv .i64 (.sh .shl .u64 (.var 1) (.lit 56))) (.lit 56))) (.lit 56)) (.lit 56)))], .v (.int .i64 0)]),
  (7, [.v (.int .i64 11), .sym (.int .i64 (.var 2)), .sym (.int .i64 (.var 3))], .tuple [.sym (.int .i64 (.tri 3 (.var 2) (.var 3) (.lit 0))), .v (.bool true)])]
theorem run_5_11_2 (ρ : Nat → Int) (aR aS : Addr) : J_5_11_2.map (fun e => (@call (E ρ (knowL L_5_11_2) []) Tryz.prog (glob aR aS) noO 300 60 (.fn e.1) e.2.1 []).map fun r => nrm r.1) = J_5_11_2.map fun e => some e.2.2 := by kernel_rfl
def L_5_11_3 : List CF := [⟨.eql, (.sh .shr .u64 (.var 0) (.lit 8)), (.lit 0), true⟩,
  ⟨.eql, (.sh .shr .u64 (.var 1) (.lit 8)), (.lit 0), true⟩,
  ⟨.neq, (.cv .u64 (.sh .shr .i64 (.sh .shr .i64 (.cv .i64 (.sh .shl .u64 (.var 1) (.lit 56))) (.lit 56)) (.lit 63))), (.cv .u64 (.sh .shr .i64 (.sh .shr .i64 (.cv .i64 (.sh .shl .u64 (.var 0) (.lit 56))) (.lit 56)) (.lit 63))), false⟩,
  ⟨.lss, (.cv .u64 (.sh .shr .i64 (.cv .i64 (.sh .shl .u64 (.var 1) (.lit 56))) (.lit 56))), (.cv .u64 (.sh .shr .i64 (.cv .i64 (.sh .shl .u64 (.var 0) (.lit 56))) (.lit 56))), false⟩]
def J_5_11_3 : List SEntry := [(5, [.v (.int .i64 11), .agg [.v (.int .i64 5), .sym (.int .u64 (.var 0))], .agg [.v (.int .i64 5), .sym (.int .u64 (.var 1))]], .tuple [.agg [.v (.int .i64 5), .sym (.int .u64 (.sh .shr .u64 (.sh .shl .u64 (.cv .u64 (.sh .shr .i64 (.cv .i64 (.sh .shl .u64 (.var 0) (.lit 56))) (.lit 56))) (.lit 56)) (.lit 56)))], .v (.int .i64 0)]),
  (7, [.v (.int .i64 11), .sym (.int .i64 (.var 2)), .sym (.int .i64 (.var 3))], .tuple [.sym (.int .i64 (.tri 3 (.var 2) (.var 3) (.lit 0))), .v (.bool true)])]
theorem run_5_11_3 (ρ : Nat → Int) (aR aS : Addr) : J_5_11_3.map (fun e => (@call (E ρ (knowL L_5_11_3) []) Tryz.prog (glob aR aS) noO 300 60 (.fn e.1) e.2.1 []).map fun r => nrm r.1) = J_5_11_3.map fun e => some e.2.2 := by kernel_rfl
theorem good_5_11 (aR aS : Addr) (x y : Int) (hx0 : (-128) ≤ x) (hx1 : x ≤ 127) (hy0 : (-128) ≤ y) (hy1 : y ≤ 127) : Good aR aS 11 5 5 (-128) 127 x y := by
  have hx : x < 0 ∨ 0 ≤ x := by omega
  rcases hx with hx | hx
  · have hy : y < 0 ∨ 0 ≤ y := by omega
    rcases hy with hy | hy
    · have a0 := eix_n x y (by omega) (by omega)
      have a1 := eHx_n x y (by omega) (by omega)
      have a2 := ehx_n x y (by omega) (by omega)
      have a3 := eNx_n x y (by omega) (by omega)
      have a4 := eSx_n x y (by omega) (by omega)
      have a5 := esx_n x y (by omega) (by omega)
      have a6 := eVx_n x y (by omega) (by omega)
      have a7 := eiy_n x y (by omega) (by omega)
      have a8 := eHy_n x y (by omega) (by omega)
      have a9 := ehy_n x y (by omega) (by omega)
      have a10 := eNy_n x y (by omega) (by omega)
      have a11 := eSy_n x y (by omega) (by omega)
      have a12 := esy_n x y (by omega) (by omega)
      have a13 := eVy_n x y (by omega) (by omega)
      by_cases c2 : IE.ev (rho (x % 256) (y % 256) x y) (.cv .u64 (.sh .shr .i64 (.sh .shr .i64 (.cv .i64 (.sh .shl .u64 (.var 1) (.lit 56))) (.lit 56)) (.lit 63))) ≠ IE.ev (rho (x % 256) (y % 256) x y) (.cv .u64 (.sh .shr .i64 (.sh .shr .i64 (.cv .i64 (.sh .shl .u64 (.var 0) (.lit 56))) (.lit 56)) (.lit 63)))
      · exact absurd c2 (by (simp (disch := omega) only [↓a1, ↓a8] <;> try simp only [wrap_i64, wrap_u64]) <;> omega)
      · have c2' := c2
        try (simp (disch := omega) only [↓a1, ↓a8] at c2' <;> try simp only [wrap_i64, wrap_u64] at c2')
        by_cases c3 : IE.ev (rho (x % 256) (y % 256) x y) (.cv .u64 (.sh .shr .i64 (.cv .i64 (.sh .shl .u64 (.var 1) (.lit 56))) (.lit 56))) < IE.ev (rho (x % 256) (y % 256) x y) (.cv .u64 (.sh .shr .i64 (.cv .i64 (.sh .shl .u64 (.var 0) (.lit 56))) (.lit 56)))
        · have c3' := c3
          try (simp (disch := omega) only [↓a4, ↓a11] at c3' <;> try simp only [wrap_i64, wrap_u64] at c3')
          have hL : ∀ f ∈ L_5_11_1, f.ok (rho (x % 256) (y % 256) x y) := by
            intro f hf
            simp only [L_5_11_1, List.mem_cons, List.not_mem_nil, or_false] at hf
            rcases hf with rfl | rfl | rfl | rfl
            · exact ⟨rfl, cmp_eql_t (by (simp (disch := omega) only [↓a6, IE.ev, shr_u64_8] <;> try simp only [wrap_i64, wrap_u64]) <;> omega)⟩
            · exact ⟨rfl, cmp_eql_t (by (simp (disch := omega) only [↓a13, IE.ev, shr_u64_8] <;> try simp only [wrap_i64, wrap_u64]) <;> omega)⟩
            · exact ⟨rfl, cmp_neq_n c2⟩
            · exact ⟨rfl, cmp_lss_t c3⟩
          have ht : toldI 11 y = true := by simp [toldI]
          refine ⟨(IE.ev (rho (x % 256) (y % 256) x y) (.sh .shr .u64 (.sh .shl .u64 (.cv .u64 (.sh .shr .i64 (.cv .i64 (.sh .shl .u64 (.var 1) (.lit 56))) (.lit 56))) (.lit 56)) (.lit 56))), (IE.ev (rho (x % 256) (y % 256) x y) (.tri 3 (.var 2) (.var 3) (.lit 0))), fun w hG => ⟨calls_sym hL (run_5_11_1 _ aR aS) List.mem_cons_self rfl rfl rfl rfl hG, ?_⟩, ?_⟩
          · rw [ht]
            exact calls_sym hL (run_5_11_1 _ aR aS) (List.mem_cons_of_mem _ List.mem_cons_self) rfl rfl rfl rfl hG
          · intro _
            clear hL
            unfold clampI
            rw [if_neg (by decide)]
            (simp (disch := omega) only [↓a11, IE.ev, rho_2, rho_3, shl_u64_56, shr_u64_56, tri3] <;> try simp only [wrap_u64])
            all_goals omega
        · have c3' := c3
          try (simp (disch := omega) only [↓a4, ↓a11] at c3' <;> try simp only [wrap_i64, wrap_u64] at c3')
          have hL : ∀ f ∈ L_5_11_3, f.ok (rho (x % 256) (y % 256) x y) := by
            intro f hf
            simp only [L_5_11_3, List.mem_cons, List.not_mem_nil, or_false] at hf
            rcases hf with rfl | rfl | rfl | rfl
            · exact ⟨rfl, cmp_eql_t (by (simp (disch := omega) only [↓a6, IE.ev, shr_u64_8] <;> try simp only [wrap_i64, wrap_u64]) <;> omega)⟩
            · exact ⟨rfl, cmp_eql_t (by (simp (disch := omega) only [↓a13, IE.ev, shr_u64_8] <;> try simp only [wrap_i64, wrap_u64]) <;> omega)⟩
            · exact ⟨rfl, cmp_neq_n c2⟩
            · exact ⟨rfl, cmp_lss_n c3⟩
          have ht : toldI 11 y = true := by simp [toldI]
          refine ⟨(IE.ev (rho (x % 256) (y % 256) x y) (.sh .shr .u64 (.sh .shl .u64 (.cv .u64 (.sh .shr .i64 (.cv .i64 (.sh .shl .u64 (.var 0) (.lit 56))) (.lit 56))) (.lit 56)) (.lit 56))), (IE.ev (rho (x % 256) (y % 256) x y) (.tri 3 (.var 2) (.var 3) (.lit 0))), fun w hG => ⟨calls_sym hL (run_5_11_3 _ aR aS) List.mem_cons_self rfl rfl rfl rfl hG, ?_⟩, ?_⟩
          · rw [ht]
            exact calls_sym hL (run_5_11_3 _ aR aS) (List.mem_cons_of_mem _ List.mem_cons_self) rfl rfl rfl rfl hG
          · intro _
            clear hL
            unfold clampI
            rw [if_neg (by decide)]
            (simp (disch := omega) only [↓a4, IE.ev, rho_2, rho_3, shl_u64_56, shr_u64_56, tri3] <;> try simp only [wrap_u64])
            all_goals omega
    · have a0 := eix_n x y (by omega) (by omega)
      have a1 := eHx_n x y (by omega) (by omega)
      have a2 := ehx_n x y (by omega) (by omega)
      have a3 := eNx_n x y (by omega) (by omega)
      have a4 := eSx_n x y (by omega) (by omega)
      have a5 := esx_n x y (by omega) (by omega)
      have a6 := eVx_n x y (by omega) (by omega)
      have a7 := eiy_p x y (by omega) (by omega)
      have a8 := eHy_p x y (by omega) (by omega)
      have a9 := ehy_p x y (by omega) (by omega)
      have a10 := eSy_p x y (by omega) (by omega)
      have a11 := esy_p x y (by omega) (by omega)
      have a12 := eVy_p x y (by omega) (by omega)
      by_cases c2 : IE.ev (rho (x % 256) (y % 256) x y) (.cv .u64 (.sh .shr .i64 (.sh .shr .i64 (.cv .i64 (.sh .shl .u64 (.var 1) (.lit 56))) (.lit 56)) (.lit 63))) ≠ IE.ev (rho (x % 256) (y % 256) x y) (.cv .u64 (.sh .shr .i64 (.sh .shr .i64 (.cv .i64 (.sh .shl .u64 (.var 0) (.lit 56))) (.lit 56)) (.lit 63)))
      · have c2' := c2
        try (simp (disch := omega) only [↓a1, ↓a8] at c2' <;> try simp only [wrap_i64, wrap_u64] at c2')
        by_cases c3 : IE.ev (rho (x % 256) (y % 256) x y) (.cv .i64 (.cv .u64 (.sh .shr .i64 (.sh .shr .i64 (.cv .i64 (.sh .shl .u64 (.var 1) (.lit 56))) (.lit 56)) (.lit 63)))) < IE.ev (rho (x % 256) (y % 256) x y) (.cv .i64 (.cv .u64 (.sh .shr .i64 (.sh .shr .i64 (.cv .i64 (.sh .shl .u64 (.var 0) (.lit 56))) (.lit 56)) (.lit 63))))
        · exact absurd c3 (by (simp (disch := omega) only [↓a0, ↓a7] <;> try simp only [wrap_i64, wrap_u64]) <;> omega)
        · have c3' := c3
          try (simp (disch := omega) only [↓a0, ↓a7] at c3' <;> try simp only [wrap_i64, wrap_u64] at c3')
          have hL : ∀ f ∈ L_5_11_0, f.ok (rho (x % 256) (y % 256) x y) := by
            intro f hf
            simp only [L_5_11_0, List.mem_cons, List.not_mem_nil, or_false] at hf
            rcases hf with rfl | rfl | rfl | rfl
            · exact ⟨rfl, cmp_eql_t (by (simp (disch := omega) only [↓a6, IE.ev, shr_u64_8] <;> try simp only [wrap_i64, wrap_u64]) <;> omega)⟩
            · exact ⟨rfl, cmp_eql_t (by (simp (disch := omega) only [↓a12, IE.ev, shr_u64_8] <;> try simp only [wrap_i64, wrap_u64]) <;> omega)⟩
            · exact ⟨rfl, cmp_neq_t c2⟩
            · exact ⟨rfl, cmp_lss_n c3⟩
          have ht : toldI 11 y = true := by simp [toldI]
          refine ⟨(IE.ev (rho (x % 256) (y % 256) x y) (.sh .shr .u64 (.sh .shl .u64 (.cv .u64 (.sh .shr .i64 (.cv .i64 (.sh .shl .u64 (.var 0) (.lit 56))) (.lit 56))) (.lit 56)) (.lit 56))), (IE.ev (rho (x % 256) (y % 256) x y) (.tri 3 (.var 2) (.var 3) (.lit 0))), fun w hG => ⟨calls_sym hL (run_5_11_0 _ aR aS) List.mem_cons_self rfl rfl rfl rfl hG, ?_⟩, ?_⟩
          · rw [ht]
            exact calls_sym hL (run_5_11_0 _ aR aS) (List.mem_cons_of_mem _ List.mem_cons_self) rfl rfl rfl rfl hG
          · intro _
            clear hL
            unfold clampI
            rw [if_neg (by decide)]
            (simp (disch := omega) only [↓a4, IE.ev, rho_2, rho_3, shl_u64_56, shr_u64_56, tri3] <;> try simp only [wrap_u64])
            all_goals omega
      · exact absurd (by (simp (disch := omega) only [↓a1, ↓a8] <;> try simp only [wrap_i64, wrap_u64]) <;> omega) c2
  · have hy : y < 0 ∨ 0 ≤ y := by omega
    rcases hy with hy | hy
    · have a0 := eix_p x y (by omega) (by omega)
      have a1 := eHx_p x y (by omega) (by omega)
      have a2 := ehx_p x y (by omega) (by omega)
      have a3 := eSx_p x y (by omega) (by omega)
      have a4 := esx_p x y (by omega) (by omega)
      have a5 := eVx_p x y (by omega) (by omega)
      have a6 := eiy_n x y (by omega) (by omega)
      have a7 := eHy_n x y (by omega) (by omega)
      have a8 := ehy_n x y (by omega) (by omega)
      have a9 := eNy_n x y (by omega) (by omega)
      have a10 := eSy_n x y (by omega) (by omega)
      have a11 := esy_n x y (by omega) (by omega)
      have a12 := eVy_n x y (by omega) (by omega)
      by_cases c2 : IE.ev (rho (x % 256) (y % 256) x y) (.cv .u64 (.sh .shr .i64 (.sh .shr .i64 (.cv .i64 (.sh .shl .u64 (.var 1) (.lit 56))) (.lit 56)) (.lit 63))) ≠ IE.ev (rho (x % 256) (y % 256) x y) (.cv .u64 (.sh .shr .i64 (.sh .shr .i64 (.cv .i64 (.sh .shl .u64 (.var 0) (.lit 56))) (.lit 56)) (.lit 63)))
      · have c2' := c2
        try (simp (disch := omega) only [↓a1, ↓a7] at c2' <;> try simp only [wrap_i64, wrap_u64] at c2')
        by_cases c3 : IE.ev (rho (x % 256) (y % 256) x y) (.cv .i64 (.cv .u64 (.sh .shr .i64 (.sh .shr .i64 (.cv .i64 (.sh .shl .u64 (.var 1) (.lit 56))) (.lit 56)) (.lit 63)))) < IE.ev (rho (x % 256) (y % 256) x y) (.cv .i64 (.cv .u64 (.sh .shr .i64 (.sh .shr .i64 (.cv .i64 (.sh .shl .u64 (.var 0) (.lit 56))) (.lit 56)) (.lit 63))))
        · have c3' := c3
          try (simp (disch := omega) only [↓a0, ↓a6] at c3' <;> try simp only [wrap_i64, wrap_u64] at c3')
          have hL : ∀ f ∈ L_5_11_2, f.ok (rho (x % 256) (y % 256) x y) := by
            intro f hf
            simp only [L_5_11_2, List.mem_cons, List.not_mem_nil, or_false] at hf
            rcases hf with rfl | rfl | rfl | rfl
            · exact ⟨rfl, cmp_eql_t (by (simp (disch := omega) only [↓a5, IE.ev, shr_u64_8] <;> try simp only [wrap_i64, wrap_u64]) <;> omega)⟩
            · exact ⟨rfl, cmp_eql_t (by (simp (disch := omega) only [↓a12, IE.ev, shr_u64_8] <;> try simp only [wrap_i64, wrap_u64]) <;> omega)⟩
            · exact ⟨rfl, cmp_neq_t c2⟩
            · exact ⟨rfl, cmp_lss_t c3⟩
          have ht : toldI 11 y = true := by simp [toldI]
          refine ⟨(IE.ev (rho (x % 256) (y % 256) x y) (.sh .shr .u64 (.sh .shl .u64 (.cv .u64 (.sh .shr .i64 (.cv .i64 (.sh .shl .u64 (.var 1) (.lit 56))) (.lit 56))) (.lit 56)) (.lit 56))), (IE.ev (rho (x % 256) (y % 256) x y) (.tri 3 (.var 2) (.var 3) (.lit 0))), fun w hG => ⟨calls_sym hL (run_5_11_2 _ aR aS) List.mem_cons_self rfl rfl rfl rfl hG, ?_⟩, ?_⟩
          · rw [ht]
            exact calls_sym hL (run_5_11_2 _ aR aS) (List.mem_cons_of_mem _ List.mem_cons_self) rfl rfl rfl rfl hG
          · intro _
            clear hL
            unfold clampI
            rw [if_neg (by decide)]
            (simp (disch := omega) only [↓a10, IE.ev, rho_2, rho_3, shl_u64_56, shr_u64_56, tri3] <;> try simp only [wrap_u64])
            all_goals omega
        · exact absurd (by (simp (disch := omega) only [↓a0, ↓a6] <;> try simp only [wrap_i64, wrap_u64]) <;> omega) c3
      · exact absurd (by (simp (disch := omega) only [↓a1, ↓a7] <;> try simp only [wrap_i64, wrap_u64]) <;> omega) c2
    · have a0 := eix_p x y (by omega) (by omega)
      have a1 := eHx_p x y (by omega) (by omega)
      have a2 := ehx_p x y (by omega) (by omega)
      have a3 := eSx_p x y (by omega) (by omega)
      have a4 := esx_p x y (by omega) (by omega)
      have a5 := eVx_p x y (by omega) (by omega)
      have a6 := eiy_p x y (by omega) (by omega)
      have a7 := eHy_p x y (by omega) (by omega)
      have a8 := ehy_p x y (by omega) (by omega)
      have a9 := eSy_p x y (by omega) (by omega)
      have a10 := esy_p x y (by omega) (by omega)
      have a11 := eVy_p x y (by omega) (by omega)
      by_cases c2 : IE.ev (rho (x % 256) (y % 256) x y) (.cv .u64 (.sh .shr .i64 (.sh .shr .i64 (.cv .i64 (.sh .shl .u64 (.var 1) (.lit 56))) (.lit 56)) (.lit 63))) ≠ IE.ev (rho (x % 256) (y % 256) x y) (.cv .u64 (.sh .shr .i64 (.sh .shr .i64 (.cv .i64 (.sh .shl .u64 (.var 0) (.lit 56))) (.lit 56)) (.lit 63)))
      · exact absurd c2 (by (simp (disch := omega) only [↓a1, ↓a7] <;> try simp only [wrap_i64, wrap_u64]) <;> omega)
      · have c2' := c2
        try (simp (disch := omega) only [↓a1, ↓a7] at c2' <;> try simp only [wrap_i64, wrap_u64] at c2')
        by_cases c3 : IE.ev (rho (x % 256) (y % 256) x y) (.cv .u64 (.sh .shr .i64 (.cv .i64 (.sh .shl .u64 (.var 1) (.lit 56))) (.lit 56))) < IE.ev (rho (x % 256) (y % 256) x y) (.cv .u64 (.sh .shr .i64 (.cv .i64 (.sh .shl .u64 (.var 0) (.lit 56))) (.lit 56)))
        · have c3' := c3
          try (simp (disch := omega) only [↓a3, ↓a9] at c3' <;> try simp only [wrap_i64, wrap_u64] at c3')
          have hL : ∀ f ∈ L_5_11_1, f.ok (rho (x % 256) (y % 256) x y) := by
            intro f hf
            simp only [L_5_11_1, List.mem_cons, List.not_mem_nil, or_false] at hf
            rcases hf with rfl | rfl | rfl | rfl
            · exact ⟨rfl, cmp_eql_t (by (simp (disch := omega) only [↓a5, IE.ev, shr_u64_8] <;> try simp only [wrap_i64, wrap_u64]) <;> omega)⟩
            · exact ⟨rfl, cmp_eql_t (by (simp (disch := omega) only [↓a11, IE.ev, shr_u64_8] <;> try simp only [wrap_i64, wrap_u64]) <;> omega)⟩
            · exact ⟨rfl, cmp_neq_n c2⟩
            · exact ⟨rfl, cmp_lss_t c3⟩
          have ht : toldI 11 y = true := by simp [toldI]
          refine ⟨(IE.ev (rho (x % 256) (y % 256) x y) (.sh .shr .u64 (.sh .shl .u64 (.cv .u64 (.sh .shr .i64 (.cv .i64 (.sh .shl .u64 (.var 1) (.lit 56))) (.lit 56))) (.lit 56)) (.lit 56))), (IE.ev (rho (x % 256) (y % 256) x y) (.tri 3 (.var 2) (.var 3) (.lit 0))), fun w hG => ⟨calls_sym hL (run_5_11_1 _ aR aS) List.mem_cons_self rfl rfl rfl rfl hG, ?_⟩, ?_⟩
          · rw [ht]
            exact calls_sym hL (run_5_11_1 _ aR aS) (List.mem_cons_of_mem _ List.mem_cons_self) rfl rfl rfl rfl hG
          · intro _
            clear hL
            unfold clampI
            rw [if_neg (by decide)]
            (simp (disch := omega) only [↓a9, IE.ev, rho_2, rho_3, shl_u64_56, shr_u64_56, tri3, wrapu_id] <;> try simp only [wrap_i64, wrap_u64])
            all_goals omega
        · have c3' := c3
          try (simp (disch := omega) only [↓a3, ↓a9] at c3' <;> try simp only [wrap_i64, wrap_u64] at c3')
          have hL : ∀ f ∈ L_5_11_3, f.ok (rho (x % 256) (y % 256) x y) := by
            intro f hf
            simp only [L_5_11_3, List.mem_cons, List.not_mem_nil, or_false] at hf
            rcases hf with rfl | rfl | rfl | rfl
            · exact ⟨rfl, cmp_eql_t (by (simp (disch := omega) only [↓a5, IE.ev, shr_u64_8] <;> try simp only [wrap_i64, wrap_u64]) <;> omega)⟩
            · exact ⟨rfl, cmp_eql_t (by (simp (disch := omega) only [↓a11, IE.ev, shr_u64_8] <;> try simp only [wrap_i64, wrap_u64]) <;> omega)⟩
            · exact ⟨rfl, cmp_neq_n c2⟩
            · exact ⟨rfl, cmp_lss_n c3⟩
          have ht : toldI 11 y = true := by simp [toldI]
          refine ⟨(IE.ev (rho (x % 256) (y % 256) x y) (.sh .shr .u64 (.sh .shl .u64 (.cv .u64 (.sh .shr .i64 (.cv .i64 (.sh .shl .u64 (.var 0) (.lit 56))) (.lit 56))) (.lit 56)) (.lit 56))), (IE.ev (rho (x % 256) (y % 256) x y) (.tri 3 (.var 2) (.var 3) (.lit 0))), fun w hG => ⟨calls_sym hL (run_5_11_3 _ aR aS) List.mem_cons_self rfl rfl rfl rfl hG, ?_⟩, ?_⟩
          · rw [ht]
            exact calls_sym hL (run_5_11_3 _ aR aS) (List.mem_cons_of_mem _ List.mem_cons_self) rfl rfl rfl rfl hG
          · intro _
            clear hL
            unfold clampI
            rw [if_neg (by decide)]
            (simp (disch := omega) only [↓a3, IE.ev, rho_2, rho_3, shl_u64_56, shr_u64_56, tri3, wrapu_id] <;> try simp only [wrap_i64, wrap_u64])
            all_goals omega
def L_5_20_0 : List CF := [⟨.eql, (.sh .shr .u64 (.var 0) (.lit 8)), (.lit 0), true⟩,
  ⟨.eql, (.sh .shr .u64 (.var 1) (.lit 8)), (.lit 0), true⟩,
  ⟨.geq, (.tri 0 (.cv .u64 (.sh .shr .i64 (.cv .i64 (.sh .shl .u64 (.var 0) (.lit 56))) (.lit 56))) (.cv .u64 (.sh .shr .i64 (.cv .i64 (.sh .shl .u64 (.var 1) (.lit 56))) (.lit 56))) (.lit 0)), (.lit 0), true⟩,
  ⟨.leq, (.tri 0 (.cv .u64 (.sh .shr .i64 (.cv .i64 (.sh .shl .u64 (.var 0) (.lit 56))) (.lit 56))) (.cv .u64 (.sh .shr .i64 (.cv .i64 (.sh .shl .u64 (.var 1) (.lit 56))) (.lit 56))) (.lit 0)), (.lit 1), true⟩,
  ⟨.geq, (.tri 0 (.bin .add .u64 (.bin .add .u64 (.cv .u64 (.sh .shr .i64 (.cv .i64 (.sh .shl .u64 (.var 0) (.lit 56))) (.lit 56))) (.cv .u64 (.sh .shr .i64 (.cv .i64 (.sh .shl .u64 (.var 1) (.lit 56))) (.lit 56)))) (.lit 0)) (.lit 1) (.lit 0)), (.lit 0), true⟩,
  ⟨.leq, (.tri 0 (.bin .add .u64 (.bin .add .u64 (.cv .u64 (.sh .shr .i64 (.cv .i64 (.sh .shl .u64 (.var 0) (.lit 56))) (.lit 56))) (.cv .u64 (.sh .shr .i64 (.cv .i64 (.sh .shl .u64 (.var 1) (.lit 56))) (.lit 56)))) (.lit 0)) (.lit 1) (.lit 0)), (.lit 1), true⟩,
  ⟨.lss, (.bin .rem .i64 (.bin .add .i64 (.bin .add .i64 (.var 2) (.var 3)) (.lit 1)) (.lit 2)), (.lit 0), true⟩]
def J_5_20_0 : List SEntry := [(5, [.v (.int .i64 20), .agg [.v (.int .i64 5), .sym (.int .u64 (.var 0))], .agg [.v (.int .i64 5), .sym (.int .u64 (.var 1))]], .tuple [.agg [.v (.int .i64 5), .sym (.int .u64 (.sh .shr .u64 (.sh .shl .u64 (.bin .or .u64 (.sh .shr .u64 (.bin .add .u64 (.bin .add .u64 (.bin .add .u64 (.bin .add .u64 (.cv .u64 (.sh .shr .i64 (.cv .i64 (.sh .shl .u64 (.var 0) (.lit 56))) (.lit 56))) (.cv .u64 (.sh .shr .i64 (.cv .i64 (.sh .shl .u64 (.var 1) (.lit 56))) (.lit 56)))) (.lit 0)) (.lit 1)) (.lit 0)) (.lit 1)) (.sh .shl .u64 (.bin .add .u64 (.bin .add .u64 (.bin .add .u64 (.bin .add .u64 (.cv .u64 (.sh .shr .i64 (.sh .shr .i64 (.cv .i64 (.sh .shl .u64 (.var 0) (.lit 56))) (.lit 56)) (.lit 63))) (.cv .u64 (.sh .shr .i64 (.sh .shr .i64 (.cv .i64 (.sh .shl .u64 (.var 1) (.lit 56))) (.lit 56)) (.lit 63)))) (.tri 0 (.cv .u64 (.sh .shr .i64 (.cv .i64 (.sh .shl .u64 (.var 0) (.lit 56))) (.lit 56))) (.cv .u64 (.sh .shr .i64 (.cv .i64 (.sh .shl .u64 (.var 1) (.lit 56))) (.lit 56))) (.lit 0))) (.lit 0)) (.tri 0 (.bin .add .u64 (.bin .add .u64 (.cv .u64 (.sh .shr .i64 (.cv .i64 (.sh .shl .u64 (.var 0) (.lit 56))) (.lit 56))) (.cv .u64 (.sh .shr .i64 (.cv .i64 (.sh .shl .u64 (.var 1) (.lit 56))) (.lit 56)))) (.lit 0)) (.lit 1) (.lit 0))) (.lit 63))) (.lit 56)) (.lit 56)))], .v (.int .i64 0)]),
  (7, [.v (.int .i64 20), .sym (.int .i64 (.var 2)), .sym (.int .i64 (.var 3))], .tuple [.sym (.int .i64 (.bin .sub .i64 (.bin .quo .i64 (.bin .add .i64 (.bin .add .i64 (.var 2) (.var 3)) (.lit 1)) (.lit 2)) (.lit 1))), .v (.bool true)])]
theorem run_5_20_0 (ρ : Nat → Int) (aR aS : Addr) : J_5_20_0.map (fun e => (@call (E ρ (knowL L_5_20_0) []) Tryz.prog (glob aR aS) noO 300 60 (.fn e.1) e.2.1 []).map fun r => nrm r.1) = J_5_20_0.map fun e => some e.2.2 := by kernel_rfl
def L_5_20_1 : List CF := [⟨.eql, (.sh .shr .u64 (.var 0) (.lit 8)), (.lit 0), true⟩,
  ⟨.eql, (.sh .shr .u64 (.var 1) (.lit 8)), (.lit 0), true⟩,
  ⟨.geq, (.tri 0 (.cv .u64 (.sh .shr .i64 (.cv .i64 (.sh .shl .u64 (.var 0) (.lit 56))) (.lit 56))) (.cv .u64 (.sh .shr .i64 (.cv .i64 (.sh .shl .u64 (.var 1) (.lit 56))) (.lit 56))) (.lit 0)), (.lit 0), true⟩,
  ⟨.leq, (.tri 0 (.cv .u64 (.sh .shr .i64 (.cv .i64 (.sh .shl .u64 (.var 0) (.lit 56))) (.lit 56))) (.cv .u64 (.sh .shr .i64 (.cv .i64 (.sh .shl .u64 (.var 1) (.lit 56))) (.lit 56))) (.lit 0)), (.lit 1), true⟩,
  ⟨.geq, (.tri 0 (.bin .add .u64 (.bin .add .u64 (.cv .u64 (.sh .shr .i64 (.cv .i64 (.sh .shl .u64 (.var 0) (.lit 56))) (.lit 56))) (.cv .u64 (.sh .shr .i64 (.cv .i64 (.sh .shl .u64 (.var 1) (.lit 56))) (.lit 56)))) (.lit 0)) (.lit 1) (.lit 0)), (.lit 0), true⟩,
  ⟨.leq, (.tri 0 (.bin .add .u64 (.bin .add .u64 (.cv .u64 (.sh .shr .i64 (.cv .i64 (.sh .shl .u64 (.var 0) (.lit 56))) (.lit 56))) (.cv .u64 (.sh .shr .i64 (.cv .i64 (.sh .shl .u64 (.var 1) (.lit 56))) (.lit 56)))) (.lit 0)) (.lit 1) (.lit 0)), (.lit 1), true⟩,
  ⟨.lss, (.bin .rem .i64 (.bin .add .i64 (.bin .add .i64 (.var 2) (.var 3)) (.lit 1)) (.lit 2)), (.lit 0), false⟩]
def J_5_20_1 : List SEntry := [(5, [.v (.int .i64 20), .agg [.v (.int .i64 5), .sym (.int .u64 (.var 0))], .agg [.v (.int .i64 5), .sym (.int .u64 (.var 1))]], .tuple [.agg [.v (.int .i64 5), .sym (.int .u64 (.sh .shr .u64 (.sh .shl .u64 (.bin .or .u64 (.sh .shr .u64 (.bin .add .u64 (.bin .add .u64 (.bin .add .u64 (.bin .add .u64 (.cv .u64 (.sh .shr .i64 (.cv .i64 (.sh .shl .u64 (.var 0) (.lit 56))) (.lit 56))) (.cv .u64 (.sh .shr .i64 (.cv .i64 (.sh .shl .u64 (.var 1) (.lit 56))) (.lit 56)))) (.lit 0)) (.lit 1)) (.lit 0)) (.lit 1)) (.sh .shl .u64 (.bin .add .u64 (.bin .add .u64 (.bin .add .u64 (.bin .add .u64 (.cv .u64 (.sh .shr .i64 (.sh .shr .i64 (.cv .i64 (.sh .shl .u64 (.var 0) (.lit 56))) (.lit 56)) (.lit 63))) (.cv .u64 (.sh .shr .i64 (.sh .shr .i64 (.cv .i64 (.sh .shl .u64 (.var 1) (.lit 56))) (.lit 56)) (.lit 63)))) (.tri 0 (.cv .u64 (.sh .shr .i64 (.cv .i64 (.sh .shl .u64 (.var 0) (.lit 56))) (.lit 56))) (.cv .u64 (.sh .shr .i64 (.cv .i64 (.sh .shl .u64 (.var 1) (.lit 56))) (.lit 56))) (.lit 0))) (.lit 0)) (.tri 0 (.bin .add .u64 (.bin .add .u64 (.cv .u64 (.sh .shr .i64 (.cv .i64 (.sh .shl .u64 (.var 0) (.lit 56))) (.lit 56))) (.cv .u64 (.sh .shr .i64 (.cv .i64 (.sh .shl .u64 (.var 1) (.lit 56))) (.lit 56)))) (.lit 0)) (.lit 1) (.lit 0))) (.lit 63))) (.lit 56)) (.lit 56)))], .v (.int .i64 0)]),
  (7, [.v (.int .i64 20), .sym (.int .i64 (.var 2)), .sym (.int .i64 (.var 3))], .tuple [.sym (.int .i64 (.bin .quo .i64 (.bin .add .i64 (.bin .add .i64 (.var 2) (.var 3)) (.lit 1)) (.lit 2))), .v (.bool true)])]
theorem run_5_20_1 (ρ : Nat → Int) (aR aS : Addr) : J_5_20_1.map (fun e => (@call (E ρ (knowL L_5_20_1) []) Tryz.prog (glob aR aS) noO 300 60 (.fn e.1) e.2.1 []).map fun r => nrm r.1) = J_5_20_1.map fun e => some e.2.2 := by kernel_rfl
theorem good_5_20 (aR aS : Addr) (x y : Int) (hx0 : (-128) ≤ x) (hx1 : x ≤ 127) (hy0 : (-128) ≤ y) (hy1 : y ≤ 127) : Good aR aS 20 5 5 (-128) 127 x y := by
  have hx : x < 0 ∨ 0 ≤ x := by omega
  rcases hx with hx | hx
  · have hy : y < 0 ∨ 0 ≤ y := by omega
    rcases hy with hy | hy
    · have a0 := eix_n x y (by omega) (by omega)
      have a1 := eHx_n x y (by omega) (by omega)
      have a2 := ehx_n x y (by omega) (by omega)
      have a3 := eNx_n x y (by omega) (by omega)
      have a4 := eSx_n x y (by omega) (by omega)
      have a5 := esx_n x y (by omega) (by omega)
      have a6 := eVx_n x y (by omega) (by omega)
      have a7 := eiy_n x y (by omega) (by omega)
      have a8 := eHy_n x y (by omega) (by omega)
      have a9 := ehy_n x y (by omega) (by omega)
      have a10 := eNy_n x y (by omega) (by omega)
      have a11 := eSy_n x y (by omega) (by omega)
      have a12 := esy_n x y (by omega) (by omega)
      have a13 := eVy_n x y (by omega) (by omega)
      rcases Int.lt_or_le (x + y + 1) 0 with hs | hs
      · skip
        by_cases c6 : IE.ev (rho (x % 256) (y % 256) x y) (.bin .rem .i64 (.bin .add .i64 (.bin .add .i64 (.var 2) (.var 3)) (.lit 1)) (.lit 2)) < IE.ev (rho (x % 256) (y % 256) x y) (.lit 0)
        · have c6' := c6
          try (simp (disch := omega) only [IE.ev, rho_2, rho_3, ev_add, ri_n, wrapi_id] at c6' <;> try simp only [wrap_i64, wrap_u64] at c6')
          have hL : ∀ f ∈ L_5_20_0, f.ok (rho (x % 256) (y % 256) x y) := by
            intro f hf
            simp only [L_5_20_0, List.mem_cons, List.not_mem_nil, or_false] at hf
            rcases hf with rfl | rfl | rfl | rfl | rfl | rfl | rfl
            · exact ⟨rfl, cmp_eql_t (by (simp (disch := omega) only [↓a6, IE.ev, shr_u64_8] <;> try simp only [wrap_i64, wrap_u64]) <;> omega)⟩
            · exact ⟨rfl, cmp_eql_t (by (simp (disch := omega) only [↓a13, IE.ev, shr_u64_8] <;> try simp only [wrap_i64, wrap_u64]) <;> omega)⟩
            · exact ⟨rfl, cmp_geq_t (by (simp (disch := omega) only [↓a4, ↓a11, IE.ev, tri0] <;> try simp only [wrap_i64, wrap_u64]) <;> omega)⟩
            · exact ⟨rfl, cmp_leq_t (by (simp (disch := omega) only [↓a4, ↓a11, IE.ev, tri0] <;> try simp only [wrap_i64, wrap_u64]) <;> omega)⟩
            · exact ⟨rfl, cmp_geq_t (by (simp (disch := omega) only [↓a4, ↓a11, IE.ev, ev_add, tri0] <;> try simp only [wrap_u64]) <;> omega)⟩
            · exact ⟨rfl, cmp_leq_t (by (simp (disch := omega) only [↓a4, ↓a11, IE.ev, ev_add, tri0] <;> try simp only [wrap_u64]) <;> omega)⟩
            · exact ⟨rfl, cmp_lss_t c6⟩
          have ht : toldI 20 y = true := by simp [toldI]
          refine ⟨(IE.ev (rho (x % 256) (y % 256) x y) (.sh .shr .u64 (.sh .shl .u64 (.bin .or .u64 (.sh .shr .u64 (.bin .add .u64 (.bin .add .u64 (.bin .add .u64 (.bin .add .u64 (.cv .u64 (.sh .shr .i64 (.cv .i64 (.sh .shl .u64 (.var 0) (.lit 56))) (.lit 56))) (.cv .u64 (.sh .shr .i64 (.cv .i64 (.sh .shl .u64 (.var 1) (.lit 56))) (.lit 56)))) (.lit 0)) (.lit 1)) (.lit 0)) (.lit 1)) (.sh .shl .u64 (.bin .add .u64 (.bin .add .u64 (.bin .add .u64 (.bin .add .u64 (.cv .u64 (.sh .shr .i64 (.sh .shr .i64 (.cv .i64 (.sh .shl .u64 (.var 0) (.lit 56))) (.lit 56)) (.lit 63))) (.cv .u64 (.sh .shr .i64 (.sh .shr .i64 (.cv .i64 (.sh .shl .u64 (.var 1) (.lit 56))) (.lit 56)) (.lit 63)))) (.tri 0 (.cv .u64 (.sh .shr .i64 (.cv .i64 (.sh .shl .u64 (.var 0) (.lit 56))) (.lit 56))) (.cv .u64 (.sh .shr .i64 (.cv .i64 (.sh .shl .u64 (.var 1) (.lit 56))) (.lit 56))) (.lit 0))) (.lit 0)) (.tri 0 (.bin .add .u64 (.bin .add .u64 (.cv .u64 (.sh .shr .i64 (.cv .i64 (.sh .shl .u64 (.var 0) (.lit 56))) (.lit 56))) (.cv .u64 (.sh .shr .i64 (.cv .i64 (.sh .shl .u64 (.var 1) (.lit 56))) (.lit 56)))) (.lit 0)) (.lit 1) (.lit 0))) (.lit 63))) (.lit 56)) (.lit 56))), (IE.ev (rho (x % 256) (y % 256) x y) (.bin .sub .i64 (.bin .quo .i64 (.bin .add .i64 (.bin .add .i64 (.var 2) (.var 3)) (.lit 1)) (.lit 2)) (.lit 1))), fun w hG => ⟨calls_sym hL (run_5_20_0 _ aR aS) List.mem_cons_self rfl rfl rfl rfl hG, ?_⟩, ?_⟩
          · rw [ht]
            exact calls_sym hL (run_5_20_0 _ aR aS) (List.mem_cons_of_mem _ List.mem_cons_self) rfl rfl rfl rfl hG
          · intro _
            clear hL
            unfold clampI
            rw [if_neg (by decide)]
            have o1 := or63 (IE.ev (rho (x % 256) (y % 256) x y) (.sh .shr .u64 (.bin .add .u64 (.bin .add .u64 (.bin .add .u64 (.bin .add .u64 (.cv .u64 (.sh .shr .i64 (.cv .i64 (.sh .shl .u64 (.var 0) (.lit 56))) (.lit 56))) (.cv .u64 (.sh .shr .i64 (.cv .i64 (.sh .shl .u64 (.var 1) (.lit 56))) (.lit 56)))) (.lit 0)) (.lit 1)) (.lit 0)) (.lit 1))) (IE.ev (rho (x % 256) (y % 256) x y) (.sh .shl .u64 (.bin .add .u64 (.bin .add .u64 (.bin .add .u64 (.bin .add .u64 (.cv .u64 (.sh .shr .i64 (.sh .shr .i64 (.cv .i64 (.sh .shl .u64 (.var 0) (.lit 56))) (.lit 56)) (.lit 63))) (.cv .u64 (.sh .shr .i64 (.sh .shr .i64 (.cv .i64 (.sh .shl .u64 (.var 1) (.lit 56))) (.lit 56)) (.lit 63)))) (.tri 0 (.cv .u64 (.sh .shr .i64 (.cv .i64 (.sh .shl .u64 (.var 0) (.lit 56))) (.lit 56))) (.cv .u64 (.sh .shr .i64 (.cv .i64 (.sh .shl .u64 (.var 1) (.lit 56))) (.lit 56))) (.lit 0))) (.lit 0)) (.tri 0 (.bin .add .u64 (.bin .add .u64 (.cv .u64 (.sh .shr .i64 (.cv .i64 (.sh .shl .u64 (.var 0) (.lit 56))) (.lit 56))) (.cv .u64 (.sh .shr .i64 (.cv .i64 (.sh .shl .u64 (.var 1) (.lit 56))) (.lit 56)))) (.lit 0)) (.lit 1) (.lit 0))) (.lit 63))) (by (simp (disch := omega) only [↓a4, ↓a11, IE.ev, shr_u64_1, ev_add] <;> try simp only [wrap_u64]) <;> omega) (by (simp (disch := omega) only [↓a4, ↓a11, IE.ev, shr_u64_1, ev_add] <;> try simp only [wrap_u64]) <;> omega) (by (simp (disch := omega) only [↓a1, ↓a4, ↓a8, ↓a11, IE.ev, shl_u64_63, ev_add, tri0] <;> try simp only [wrap_u64]) <;> omega) (by (simp (disch := omega) only [↓a1, ↓a4, ↓a8, ↓a11, IE.ev, shl_u64_63, ev_add, tri0] <;> try simp only [wrap_u64]) <;> omega) (by (simp (disch := omega) only [↓a1, ↓a4, ↓a8, ↓a11, IE.ev, shl_u64_63, ev_add, tri0] <;> try simp only [wrap_u64]) <;> omega)
            have o2 : IE.ev (rho (x % 256) (y % 256) x y) (.sh .shr .u64 (.sh .shl .u64 (.bin .or .u64 (.sh .shr .u64 (.bin .add .u64 (.bin .add .u64 (.bin .add .u64 (.bin .add .u64 (.cv .u64 (.sh .shr .i64 (.cv .i64 (.sh .shl .u64 (.var 0) (.lit 56))) (.lit 56))) (.cv .u64 (.sh .shr .i64 (.cv .i64 (.sh .shl .u64 (.var 1) (.lit 56))) (.lit 56)))) (.lit 0)) (.lit 1)) (.lit 0)) (.lit 1)) (.sh .shl .u64 (.bin .add .u64 (.bin .add .u64 (.bin .add .u64 (.bin .add .u64 (.cv .u64 (.sh .shr .i64 (.sh .shr .i64 (.cv .i64 (.sh .shl .u64 (.var 0) (.lit 56))) (.lit 56)) (.lit 63))) (.cv .u64 (.sh .shr .i64 (.sh .shr .i64 (.cv .i64 (.sh .shl .u64 (.var 1) (.lit 56))) (.lit 56)) (.lit 63)))) (.tri 0 (.cv .u64 (.sh .shr .i64 (.cv .i64 (.sh .shl .u64 (.var 0) (.lit 56))) (.lit 56))) (.cv .u64 (.sh .shr .i64 (.cv .i64 (.sh .shl .u64 (.var 1) (.lit 56))) (.lit 56))) (.lit 0))) (.lit 0)) (.tri 0 (.bin .add .u64 (.bin .add .u64 (.cv .u64 (.sh .shr .i64 (.cv .i64 (.sh .shl .u64 (.var 0) (.lit 56))) (.lit 56))) (.cv .u64 (.sh .shr .i64 (.cv .i64 (.sh .shl .u64 (.var 1) (.lit 56))) (.lit 56)))) (.lit 0)) (.lit 1) (.lit 0))) (.lit 63))) (.lit 56)) (.lit 56)) = binI .or .u64 (IE.ev (rho (x % 256) (y % 256) x y) (.sh .shr .u64 (.bin .add .u64 (.bin .add .u64 (.bin .add .u64 (.bin .add .u64 (.cv .u64 (.sh .shr .i64 (.cv .i64 (.sh .shl .u64 (.var 0) (.lit 56))) (.lit 56))) (.cv .u64 (.sh .shr .i64 (.cv .i64 (.sh .shl .u64 (.var 1) (.lit 56))) (.lit 56)))) (.lit 0)) (.lit 1)) (.lit 0)) (.lit 1))) (IE.ev (rho (x % 256) (y % 256) x y) (.sh .shl .u64 (.bin .add .u64 (.bin .add .u64 (.bin .add .u64 (.bin .add .u64 (.cv .u64 (.sh .shr .i64 (.sh .shr .i64 (.cv .i64 (.sh .shl .u64 (.var 0) (.lit 56))) (.lit 56)) (.lit 63))) (.cv .u64 (.sh .shr .i64 (.sh .shr .i64 (.cv .i64 (.sh .shl .u64 (.var 1) (.lit 56))) (.lit 56)) (.lit 63)))) (.tri 0 (.cv .u64 (.sh .shr .i64 (.cv .i64 (.sh .shl .u64 (.var 0) (.lit 56))) (.lit 56))) (.cv .u64 (.sh .shr .i64 (.cv .i64 (.sh .shl .u64 (.var 1) (.lit 56))) (.lit 56))) (.lit 0))) (.lit 0)) (.tri 0 (.bin .add .u64 (.bin .add .u64 (.cv .u64 (.sh .shr .i64 (.cv .i64 (.sh .shl .u64 (.var 0) (.lit 56))) (.lit 56))) (.cv .u64 (.sh .shr .i64 (.cv .i64 (.sh .shl .u64 (.var 1) (.lit 56))) (.lit 56)))) (.lit 0)) (.lit 1) (.lit 0))) (.lit 63))) % 256 := by
              show shI .shr .u64 (shI .shl .u64 (binI .or .u64 (IE.ev (rho (x % 256) (y % 256) x y) (.sh .shr .u64 (.bin .add .u64 (.bin .add .u64 (.bin .add .u64 (.bin .add .u64 (.cv .u64 (.sh .shr .i64 (.cv .i64 (.sh .shl .u64 (.var 0) (.lit 56))) (.lit 56))) (.cv .u64 (.sh .shr .i64 (.cv .i64 (.sh .shl .u64 (.var 1) (.lit 56))) (.lit 56)))) (.lit 0)) (.lit 1)) (.lit 0)) (.lit 1))) (IE.ev (rho (x % 256) (y % 256) x y) (.sh .shl .u64 (.bin .add .u64 (.bin .add .u64 (.bin .add .u64 (.bin .add .u64 (.cv .u64 (.sh .shr .i64 (.sh .shr .i64 (.cv .i64 (.sh .shl .u64 (.var 0) (.lit 56))) (.lit 56)) (.lit 63))) (.cv .u64 (.sh .shr .i64 (.sh .shr .i64 (.cv .i64 (.sh .shl .u64 (.var 1) (.lit 56))) (.lit 56)) (.lit 63)))) (.tri 0 (.cv .u64 (.sh .shr .i64 (.cv .i64 (.sh .shl .u64 (.var 0) (.lit 56))) (.lit 56))) (.cv .u64 (.sh .shr .i64 (.cv .i64 (.sh .shl .u64 (.var 1) (.lit 56))) (.lit 56))) (.lit 0))) (.lit 0)) (.tri 0 (.bin .add .u64 (.bin .add .u64 (.cv .u64 (.sh .shr .i64 (.cv .i64 (.sh .shl .u64 (.var 0) (.lit 56))) (.lit 56))) (.cv .u64 (.sh .shr .i64 (.cv .i64 (.sh .shl .u64 (.var 1) (.lit 56))) (.lit 56)))) (.lit 0)) (.lit 1) (.lit 0))) (.lit 63)))) 56) 56 = _
              simp only [shr_u64_56, shl_u64_56, wrap_u64]
              omega
            rw [o2, o1]
            (simp (disch := omega) only [↓a4, ↓a11, IE.ev, rho_2, rho_3, shr_u64_1, ev_add, ev_sub, qi_n, wrapi_id] <;> try simp only [wrap_u64]) <;> omega
        · have c6' := c6
          try (simp (disch := omega) only [IE.ev, rho_2, rho_3, ev_add, ri_n, wrapi_id] at c6' <;> try simp only [wrap_i64, wrap_u64] at c6')
          have hL : ∀ f ∈ L_5_20_1, f.ok (rho (x % 256) (y % 256) x y) := by
            intro f hf
            simp only [L_5_20_1, List.mem_cons, List.not_mem_nil, or_false] at hf
            rcases hf with rfl | rfl | rfl | rfl | rfl | rfl | rfl
            · exact ⟨rfl, cmp_eql_t (by (simp (disch := omega) only [↓a6, IE.ev, shr_u64_8] <;> try simp only [wrap_i64, wrap_u64]) <;> omega)⟩
            · exact ⟨rfl, cmp_eql_t (by (simp (disch := omega) only [↓a13, IE.ev, shr_u64_8] <;> try simp only [wrap_i64, wrap_u64]) <;> omega)⟩
            · exact ⟨rfl, cmp_geq_t (by (simp (disch := omega) only [↓a4, ↓a11, IE.ev, tri0] <;> try simp only [wrap_i64, wrap_u64]) <;> omega)⟩
            · exact ⟨rfl, cmp_leq_t (by (simp (disch := omega) only [↓a4, ↓a11, IE.ev, tri0] <;> try simp only [wrap_i64, wrap_u64]) <;> omega)⟩
            · exact ⟨rfl, cmp_geq_t (by (simp (disch := omega) only [↓a4, ↓a11, IE.ev, ev_add, tri0] <;> try simp only [wrap_u64]) <;> omega)⟩
            · exact ⟨rfl, cmp_leq_t (by (simp (disch := omega) only [↓a4, ↓a11, IE.ev, ev_add, tri0] <;> try simp only [wrap_u64]) <;> omega)⟩
            · exact ⟨rfl, cmp_lss_n c6⟩
          have ht : toldI 20 y = true := by simp [toldI]
          refine ⟨(IE.ev (rho (x % 256) (y % 256) x y) (.sh .shr .u64 (.sh .shl .u64 (.bin .or .u64 (.sh .shr .u64 (.bin .add .u64 (.bin .add .u64 (.bin .add .u64 (.bin .add .u64 (.cv .u64 (.sh .shr .i64 (.cv .i64 (.sh .shl .u64 (.var 0) (.lit 56))) (.lit 56))) (.cv .u64 (.sh .shr .i64 (.cv .i64 (.sh .shl .u64 (.var 1) (.lit 56))) (.lit 56)))) (.lit 0)) (.lit 1)) (.lit 0)) (.lit 1)) (.sh .shl .u64 (.bin .add .u64 (.bin .add .u64 (.bin .add .u64 (.bin .add .u64 (.cv .u64 (.sh .shr .i64 (.sh .shr .i64 (.cv .i64 (.sh .shl .u64 (.var 0) (.lit 56))) (.lit 56)) (.lit 63))) (.cv .u64 (.sh .shr .i64 (.sh .shr .i64 (.cv .i64 (.sh .shl .u64 (.var 1) (.lit 56))) (.lit 56)) (.lit 63)))) (.tri 0 (.cv .u64 (.sh .shr .i64 (.cv .i64 (.sh .shl .u64 (.var 0) (.lit 56))) (.lit 56))) (.cv .u64 (.sh .shr .i64 (.cv .i64 (.sh .shl .u64 (.var 1) (.lit 56))) (.lit 56))) (.lit 0))) (.lit 0)) (.tri 0 (.bin .add .u64 (.bin .add .u64 (.cv .u64 (.sh .shr .i64 (.cv .i64 (.sh .shl .u64 (.var 0) (.lit 56))) (.lit 56))) (.cv .u64 (.sh .shr .i64 (.cv .i64 (.sh .shl .u64 (.var 1) (.lit 56))) (.lit 56)))) (.lit 0)) (.lit 1) (.lit 0))) (.lit 63))) (.lit 56)) (.lit 56))), (IE.ev (rho (x % 256) (y % 256) x y) (.bin .quo .i64 (.bin .add .i64 (.bin .add .i64 (.var 2) (.var 3)) (.lit 1)) (.lit 2))), fun w hG => ⟨calls_sym hL (run_5_20_1 _ aR aS) List.mem_cons_self rfl rfl rfl rfl hG, ?_⟩, ?_⟩
          · rw [ht]
            exact calls_sym hL (run_5_20_1 _ aR aS) (List.mem_cons_of_mem _ List.mem_cons_self) rfl rfl rfl rfl hG
          · intro _
            clear hL
            unfold clampI
            rw [if_neg (by decide)]
            have o1 := or63 (IE.ev (rho (x % 256) (y % 256) x y) (.sh .shr .u64 (.bin .add .u64 (.bin .add .u64 (.bin .add .u64 (.bin .add .u64 (.cv .u64 (.sh .shr .i64 (.cv .i64 (.sh .shl .u64 (.var 0) (.lit 56))) (.lit 56))) (.cv .u64 (.sh .shr .i64 (.cv .i64 (.sh .shl .u64 (.var 1) (.lit 56))) (.lit 56)))) (.lit 0)) (.lit 1)) (.lit 0)) (.lit 1))) (IE.ev (rho (x % 256) (y % 256) x y) (.sh .shl .u64 (.bin .add .u64 (.bin .add .u64 (.bin .add .u64 (.bin .add .u64 (.cv .u64 (.sh .shr .i64 (.sh .shr .i64 (.cv .i64 (.sh .shl .u64 (.var 0) (.lit 56))) (.lit 56)) (.lit 63))) (.cv .u64 (.sh .shr .i64 (.sh .shr .i64 (.cv .i64 (.sh .shl .u64 (.var 1) (.lit 56))) (.lit 56)) (.lit 63)))) (.tri 0 (.cv .u64 (.sh .shr .i64 (.cv .i64 (.sh .shl .u64 (.var 0) (.lit 56))) (.lit 56))) (.cv .u64 (.sh .shr .i64 (.cv .i64 (.sh .shl .u64 (.var 1) (.lit 56))) (.lit 56))) (.lit 0))) (.lit 0)) (.tri 0 (.bin .add .u64 (.bin .add .u64 (.cv .u64 (.sh .shr .i64 (.cv .i64 (.sh .shl .u64 (.var 0) (.lit 56))) (.lit 56))) (.cv .u64 (.sh .shr .i64 (.cv .i64 (.sh .shl .u64 (.var 1) (.lit 56))) (.lit 56)))) (.lit 0)) (.lit 1) (.lit 0))) (.lit 63))) (by (simp (disch := omega) only [↓a4, ↓a11, IE.ev, shr_u64_1, ev_add] <;> try simp only [wrap_u64]) <;> omega) (by (simp (disch := omega) only [↓a4, ↓a11, IE.ev, shr_u64_1, ev_add] <;> try simp only [wrap_u64]) <;> omega) (by (simp (disch := omega) only [↓a1, ↓a4, ↓a8, ↓a11, IE.ev, shl_u64_63, ev_add, tri0] <;> try simp only [wrap_u64]) <;> omega) (by (simp (disch := omega) only [↓a1, ↓a4, ↓a8, ↓a11, IE.ev, shl_u64_63, ev_add, tri0] <;> try simp only [wrap_u64]) <;> omega) (by (simp (disch := omega) only [↓a1, ↓a4, ↓a8, ↓a11, IE.ev, shl_u64_63, ev_add, tri0] <;> try simp only [wrap_u64]) <;> omega)
            have o2 : IE.ev (rho (x % 256) (y % 256) x y) (.sh .shr .u64 (.sh .shl .u64 (.bin .or .u64 (.sh .shr .u64 (.bin .add .u64 (.bin .add .u64 (.bin .add .u64 (.bin .add .u64 (.cv .u64 (.sh .shr .i64 (.cv .i64 (.sh .shl .u64 (.var 0) (.lit 56))) (.lit 56))) (.cv .u64 (.sh .shr .i64 (.cv .i64 (.sh .shl .u64 (.var 1) (.lit 56))) (.lit 56)))) (.lit 0)) (.lit 1)) (.lit 0)) (.lit 1)) (.sh .shl .u64 (.bin .add .u64 (.bin .add .u64 (.bin .add .u64 (.bin .add .u64 (.cv .u64 (.sh .shr .i64 (.sh .shr .i64 (.cv .i64 (.sh .shl .u64 (.var 0) (.lit 56))) (.lit 56)) (.lit 63))) (.cv .u64 (.sh .shr .i64 (.sh .shr .i64 (.cv .i64 (.sh .shl .u64 (.var 1) (.lit 56))) (.lit 56)) (.lit 63)))) (.tri 0 (.cv .u64 (.sh .shr .i64 (.cv .i64 (.sh .shl .u64 (.var 0) (.lit 56))) (.lit 56))) (.cv .u64 (.sh .shr .i64 (.cv .i64 (.sh .shl .u64 (.var 1) (.lit 56))) (.lit 56))) (.lit 0))) (.lit 0)) (.tri 0 (.bin .add .u64 (.bin .add .u64 (.cv .u64 (.sh .shr .i64 (.cv .i64 (.sh .shl .u64 (.var 0) (.lit 56))) (.lit 56))) (.cv .u64 (.sh .shr .i64 (.cv .i64 (.sh .shl .u64 (.var 1) (.lit 56))) (.lit 56)))) (.lit 0)) (.lit 1) (.lit 0))) (.lit 63))) (.lit 56)) (.lit 56)) = binI .or .u64 (IE.ev (rho (x % 256) (y % 256) x y) (.sh .shr .u64 (.bin .add .u64 (.bin .add .u64 (.bin .add .u64 (.bin .add .u64 (.cv .u64 (.sh .shr .i64 (.cv .i64 (.sh .shl .u64 (.var 0) (.lit 56))) (.lit 56))) (.cv .u64 (.sh .shr .i64 (.cv .i64 (.sh .shl .u64 (.var 1) (.lit 56))) (.lit 56)))) (.lit 0)) (.lit 1)) (.lit 0)) (.lit 1))) (IE.ev (rho (x % 256) (y % 256) x y) (.sh .shl .u64 (.bin .add .u64 (.bin .add .u64 (.bin .add .u64 (.bin .add .u64 (.cv .u64 (.sh .shr .i64 (.sh .shr .i64 (.cv .i64 (.sh .shl .u64 (.var 0) (.lit 56))) (.lit 56)) (.lit 63))) (.cv .u64 (.sh .shr .i64 (.sh .shr .i64 (.cv .i64 (.sh .shl .u64 (.var 1) (.lit 56))) (.lit 56)) (.lit 63)))) (.tri 0 (.cv .u64 (.sh .shr .i64 (.cv .i64 (.sh .shl .u64 (.var 0) (.lit 56))) (.lit 56))) (.cv .u64 (.sh .shr .i64 (.cv .i64 (.sh .shl .u64 (.var 1) (.lit 56))) (.lit 56))) (.lit 0))) (.lit 0)) (.tri 0 (.bin .add .u64 (.bin .add .u64 (.cv .u64 (.sh .shr .i64 (.cv .i64 (.sh .shl .u64 (.var 0) (.lit 56))) (.lit 56))) (.cv .u64 (.sh .shr .i64 (.cv .i64 (.sh .shl .u64 (.var 1) (.lit 56))) (.lit 56)))) (.lit 0)) (.lit 1) (.lit 0))) (.lit 63))) % 256 := by
              show shI .shr .u64 (shI .shl .u64 (binI .or .u64 (IE.ev (rho (x % 256) (y % 256) x y) (.sh .shr .u64 (.bin .add .u64 (.bin .add .u64 (.bin .add .u64 (.bin .add .u64 (.cv .u64 (.sh .shr .i64 (.cv .i64 (.sh .shl .u64 (.var 0) (.lit 56))) (.lit 56))) (.cv .u64 (.sh .shr .i64 (.cv .i64 (.sh .shl .u64 (.var 1) (.lit 56))) (.lit 56)))) (.lit 0)) (.lit 1)) (.lit 0)) (.lit 1))) (IE.ev (rho (x % 256) (y % 256) x y) (.sh .shl .u64 (.bin .add .u64 (.bin .add .u64 (.bin .add .u64 (.bin .add .u64 (.cv .u64 (.sh .shr .i64 (.sh .shr .i64 (.cv .i64 (.sh .shl .u64 (.var 0) (.lit 56))) (.lit 56)) (.lit 63))) (.cv .u64 (.sh .shr .i64 (.sh .shr .i64 (.cv .i64 (.sh .shl .u64 (.var 1) (.lit 56))) (.lit 56)) (.lit 63)))) (.tri 0 (.cv .u64 (.sh .shr .i64 (.cv .i64 (.sh .shl .u64 (.var 0) (.lit 56))) (.lit 56))) (.cv .u64 (.sh .shr .i64 (.cv .i64 (.sh .shl .u64 (.var 1) (.lit 56))) (.lit 56))) (.lit 0))) (.lit 0)) (.tri 0 (.bin .add .u64 (.bin .add .u64 (.cv .u64 (.sh .shr .i64 (.cv .i64 (.sh .shl .u64 (.var 0) (.lit 56))) (.lit 56))) (.cv .u64 (.sh .shr .i64 (.cv .i64 (.sh .shl .u64 (.var 1) (.lit 56))) (.lit 56)))) (.lit 0)) (.lit 1) (.lit 0))) (.lit 63)))) 56) 56 = _
              simp only [shr_u64_56, shl_u64_56, wrap_u64]
              omega
            rw [o2, o1]
            (simp (disch := omega) only [↓a4, ↓a11, IE.ev, rho_2, rho_3, shr_u64_1, ev_add, qi_n, wrapi_id] <;> try simp only [wrap_u64]) <;> omega
      · skip
        by_cases c6 : IE.ev (rho (x % 256) (y % 256) x y) (.bin .rem .i64 (.bin .add .i64 (.bin .add .i64 (.var 2) (.var 3)) (.lit 1)) (.lit 2)) < IE.ev (rho (x % 256) (y % 256) x y) (.lit 0)
        · have c6' := c6
          try (simp (disch := omega) only [IE.ev, rho_2, rho_3, ev_add, ri_p, wrapi_id] at c6' <;> try simp only [wrap_i64, wrap_u64] at c6')
          have hL : ∀ f ∈ L_5_20_0, f.ok (rho (x % 256) (y % 256) x y) := by
            intro f hf
            simp only [L_5_20_0, List.mem_cons, List.not_mem_nil, or_false] at hf
            rcases hf with rfl | rfl | rfl | rfl | rfl | rfl | rfl
            · exact ⟨rfl, cmp_eql_t (by (simp (disch := omega) only [↓a6, IE.ev, shr_u64_8] <;> try simp only [wrap_i64, wrap_u64]) <;> omega)⟩
            · exact ⟨rfl, cmp_eql_t (by (simp (disch := omega) only [↓a13, IE.ev, shr_u64_8] <;> try simp only [wrap_i64, wrap_u64]) <;> omega)⟩
            · exact ⟨rfl, cmp_geq_t (by (simp (disch := omega) only [↓a4, ↓a11, IE.ev, tri0] <;> try simp only [wrap_i64, wrap_u64]) <;> omega)⟩
            · exact ⟨rfl, cmp_leq_t (by (simp (disch := omega) only [↓a4, ↓a11, IE.ev, tri0] <;> try simp only [wrap_i64, wrap_u64]) <;> omega)⟩
            · exact ⟨rfl, cmp_geq_t (by (simp (disch := omega) only [↓a4, ↓a11, IE.ev, ev_add, tri0, wrapu_id] <;> try simp only [wrap_i64, wrap_u64]) <;> omega)⟩
            · exact ⟨rfl, cmp_leq_t (by (simp (disch := omega) only [↓a4, ↓a11, IE.ev, ev_add, tri0, wrapu_id] <;> try simp only [wrap_i64, wrap_u64]) <;> omega)⟩
            · exact ⟨rfl, cmp_lss_t c6⟩
          have ht : toldI 20 y = true := by simp [toldI]
          refine ⟨(IE.ev (rho (x % 256) (y % 256) x y) (.sh .shr .u64 (.sh .shl .u64 (.bin .or .u64 (.sh .shr .u64 (.bin .add .u64 (.bin .add .u64 (.bin .add .u64 (.bin .add .u64 (.cv .u64 (.sh .shr .i64 (.cv .i64 (.sh .shl .u64 (.var 0) (.lit 56))) (.lit 56))) (.cv .u64 (.sh .shr .i64 (.cv .i64 (.sh .shl .u64 (.var 1) (.lit 56))) (.lit 56)))) (.lit 0)) (.lit 1)) (.lit 0)) (.lit 1)) (.sh .shl .u64 (.bin .add .u64 (.bin .add .u64 (.bin .add .u64 (.bin .add .u64 (.cv .u64 (.sh .shr .i64 (.sh .shr .i64 (.cv .i64 (.sh .shl .u64 (.var 0) (.lit 56))) (.lit 56)) (.lit 63))) (.cv .u64 (.sh .shr .i64 (.sh .shr .i64 (.cv .i64 (.sh .shl .u64 (.var 1) (.lit 56))) (.lit 56)) (.lit 63)))) (.tri 0 (.cv .u64 (.sh .shr .i64 (.cv .i64 (.sh .shl .u64 (.var 0) (.lit 56))) (.lit 56))) (.cv .u64 (.sh .shr .i64 (.cv .i64 (.sh .shl .u64 (.var 1) (.lit 56))) (.lit 56))) (.lit 0))) (.lit 0)) (.tri 0 (.bin .add .u64 (.bin .add .u64 (.cv .u64 (.sh .shr .i64 (.cv .i64 (.sh .shl .u64 (.var 0) (.lit 56))) (.lit 56))) (.cv .u64 (.sh .shr .i64 (.cv .i64 (.sh .shl .u64 (.var 1) (.lit 56))) (.lit 56)))) (.lit 0)) (.lit 1) (.lit 0))) (.lit 63))) (.lit 56)) (.lit 56))), (IE.ev (rho (x % 256) (y % 256) x y) (.bin .sub .i64 (.bin .quo .i64 (.bin .add .i64 (.bin .add .i64 (.var 2) (.var 3)) (.lit 1)) (.lit 2)) (.lit 1))), fun w hG => ⟨calls_sym hL (run_5_20_0 _ aR aS) List.mem_cons_self rfl rfl rfl rfl hG, ?_⟩, ?_⟩
          · rw [ht]
            exact calls_sym hL (run_5_20_0 _ aR aS) (List.mem_cons_of_mem _ List.mem_cons_self) rfl rfl rfl rfl hG
          · intro _
            clear hL
            unfold clampI
            rw [if_neg (by decide)]
            have o1 := or63 (IE.ev (rho (x % 256) (y % 256) x y) (.sh .shr .u64 (.bin .add .u64 (.bin .add .u64 (.bin .add .u64 (.bin .add .u64 (.cv .u64 (.sh .shr .i64 (.cv .i64 (.sh .shl .u64 (.var 0) (.lit 56))) (.lit 56))) (.cv .u64 (.sh .shr .i64 (.cv .i64 (.sh .shl .u64 (.var 1) (.lit 56))) (.lit 56)))) (.lit 0)) (.lit 1)) (.lit 0)) (.lit 1))) (IE.ev (rho (x % 256) (y % 256) x y) (.sh .shl .u64 (.bin .add .u64 (.bin .add .u64 (.bin .add .u64 (.bin .add .u64 (.cv .u64 (.sh .shr .i64 (.sh .shr .i64 (.cv .i64 (.sh .shl .u64 (.var 0) (.lit 56))) (.lit 56)) (.lit 63))) (.cv .u64 (.sh .shr .i64 (.sh .shr .i64 (.cv .i64 (.sh .shl .u64 (.var 1) (.lit 56))) (.lit 56)) (.lit 63)))) (.tri 0 (.cv .u64 (.sh .shr .i64 (.cv .i64 (.sh .shl .u64 (.var 0) (.lit 56))) (.lit 56))) (.cv .u64 (.sh .shr .i64 (.cv .i64 (.sh .shl .u64 (.var 1) (.lit 56))) (.lit 56))) (.lit 0))) (.lit 0)) (.tri 0 (.bin .add .u64 (.bin .add .u64 (.cv .u64 (.sh .shr .i64 (.cv .i64 (.sh .shl .u64 (.var 0) (.lit 56))) (.lit 56))) (.cv .u64 (.sh .shr .i64 (.cv .i64 (.sh .shl .u64 (.var 1) (.lit 56))) (.lit 56)))) (.lit 0)) (.lit 1) (.lit 0))) (.lit 63))) (by (simp (disch := omega) only [↓a4, ↓a11, IE.ev, shr_u64_1, ev_add, wrapu_id] <;> try simp only [wrap_i64, wrap_u64]) <;> omega) (by (simp (disch := omega) only [↓a4, ↓a11, IE.ev, shr_u64_1, ev_add, wrapu_id] <;> try simp only [wrap_i64, wrap_u64]) <;> omega) (by (simp (disch := omega) only [↓a1, ↓a4, ↓a8, ↓a11, IE.ev, shl_u64_63, ev_add, tri0, wrapu_id] <;> try simp only [wrap_i64, wrap_u64]) <;> omega) (by (simp (disch := omega) only [↓a1, ↓a4, ↓a8, ↓a11, IE.ev, shl_u64_63, ev_add, tri0, wrapu_id] <;> try simp only [wrap_i64, wrap_u64]) <;> omega) (by (simp (disch := omega) only [↓a1, ↓a4, ↓a8, ↓a11, IE.ev, shl_u64_63, ev_add, tri0, wrapu_id] <;> try simp only [wrap_i64, wrap_u64]) <;> omega)
            have o2 : IE.ev (rho (x % 256) (y % 256) x y) (.sh .shr .u64 (.sh .shl .u64 (.bin .or .u64 (.sh .shr .u64 (.bin .add .u64 (.bin .add .u64 (.bin .add .u64 (.bin .add .u64 (.cv .u64 (.sh .shr .i64 (.cv .i64 (.sh .shl .u64 (.var 0) (.lit 56))) (.lit 56))) (.cv .u64 (.sh .shr .i64 (.cv .i64 (.sh .shl .u64 (.var 1) (.lit 56))) (.lit 56)))) (.lit 0)) (.lit 1)) (.lit 0)) (.lit 1)) (.sh .shl .u64 (.bin .add .u64 (.bin .add .u64 (.bin .add .u64 (.bin .add .u64 (.cv .u64 (.sh .shr .i64 (.sh .shr .i64 (.cv .i64 (.sh .shl .u64 (.var 0) (.lit 56))) (.lit 56)) (.lit 63))) (.cv .u64 (.sh .shr .i64 (.sh .shr .i64 (.cv .i64 (.sh .shl .u64 (.var 1) (.lit 56))) (.lit 56)) (.lit 63)))) (.tri 0 (.cv .u64 (.sh .shr .i64 (.cv .i64 (.sh .shl .u64 (.var 0) (.lit 56))) (.lit 56))) (.cv .u64 (.sh .shr .i64 (.cv .i64 (.sh .shl .u64 (.var 1) (.lit 56))) (.lit 56))) (.lit 0))) (.lit 0)) (.tri 0 (.bin .add .u64 (.bin .add .u64 (.cv .u64 (.sh .shr .i64 (.cv .i64 (.sh .shl .u64 (.var 0) (.lit 56))) (.lit 56))) (.cv .u64 (.sh .shr .i64 (.cv .i64 (.sh .shl .u64 (.var 1) (.lit 56))) (.lit 56)))) (.lit 0)) (.lit 1) (.lit 0))) (.lit 63))) (.lit 56)) (.lit 56)) = binI .or .u64 (IE.ev (rho (x % 256) (y % 256) x y) (.sh .shr .u64 (.bin .add .u64 (.bin .add .u64 (.bin .add .u64 (.bin .add .u64 (.cv .u64 (.sh .shr .i64 (.cv .i64 (.sh .shl .u64 (.var 0) (.lit 56))) (.lit 56))) (.cv .u64 (.sh .shr .i64 (.cv .i64 (.sh .shl .u64 (.var 1) (.lit 56))) (.lit 56)))) (.lit 0)) (.lit 1)) (.lit 0)) (.lit 1))) (IE.ev (rho (x % 256) (y % 256) x y) (.sh .shl .u64 (.bin .add .u64 (.bin .add .u64 (.bin .add .u64 (.bin .add .u64 (.cv .u64 (.sh .shr .i64 (.sh .shr .i64 (.cv .i64 (.sh .shl .u64 (.var 0) (.lit 56))) (.lit 56)) (.lit 63))) (.cv .u64 (.sh .shr .i64 (.sh .shr .i64 (.cv .i64 (.sh .shl .u64 (.var 1) (.lit 56))) (.lit 56)) (.lit 63)))) (.tri 0 (.cv .u64 (.sh .shr .i64 (.cv .i64 (.sh .shl .u64 (.var 0) (.lit 56))) (.lit 56))) (.cv .u64 (.sh .shr .i64 (.cv .i64 (.sh .shl .u64 (.var 1) (.lit 56))) (.lit 56))) (.lit 0))) (.lit 0)) (.tri 0 (.bin .add .u64 (.bin .add .u64 (.cv .u64 (.sh .shr .i64 (.cv .i64 (.sh .shl .u64 (.var 0) (.lit 56))) (.lit 56))) (.cv .u64 (.sh .shr .i64 (.cv .i64 (.sh .shl .u64 (.var 1) (.lit 56))) (.lit 56)))) (.lit 0)) (.lit 1) (.lit 0))) (.lit 63))) % 256 := by
              show shI .shr .u64 (shI .shl .u64 (binI .or .u64 (IE.ev (rho (x % 256) (y % 256) x y) (.sh .shr .u64 (.bin .add .u64 (.bin .add .u64 (.bin .add .u64 (.bin .add .u64 (.cv .u64 (.sh .shr .i64 (.cv .i64 (.sh .shl .u64 (.var 0) (.lit 56))) (.lit 56))) (.cv .u64 (.sh .shr .i64 (.cv .i64 (.sh .shl .u64 (.var 1) (.lit 56))) (.lit 56)))) (.lit 0)) (.lit 1)) (.lit 0)) (.lit 1))) (IE.ev (rho (x % 256) (y % 256) x y) (.sh .shl .u64 (.bin .add .u64 (.bin .add .u64 (.bin .add .u64 (.bin .add .u64 (.cv .u64 (.sh .shr .i64 (.sh .shr .i64 (.cv .i64 (.sh .shl .u64 (.var 0) (.lit 56))) (.lit 56)) (.lit 63))) (.cv .u64 (.sh .shr .i64 (.sh .shr .i64 (.cv .i64 (.sh .shl .u64 (.var 1) (.lit 56))) (.lit 56)) (.lit 63)))) (.tri 0 (.cv .u64 (.sh .shr .i64 (.cv .i64 (.sh .shl .u64 (.var 0) (.lit 56))) (.lit 56))) (.cv .u64 (.sh .shr .i64 (.cv .i64 (.sh .shl .u64 (.var 1) (.lit 56))) (.lit 56))) (.lit 0))) (.lit 0)) (.tri 0 (.bin .add .u64 (.bin .add .u64 (.cv .u64 (.sh .shr .i64 (.cv .i64 (.sh .shl .u64 (.var 0) (.lit 56))) (.lit 56))) (.cv .u64 (.sh .shr .i64 (.cv .i64 (.sh .shl .u64 (.var 1) (.lit 56))) (.lit 56)))) (.lit 0)) (.lit 1) (.lit 0))) (.lit 63)))) 56) 56 = _
              simp only [shr_u64_56, shl_u64_56, wrap_u64]
              omega
            rw [o2, o1]
            (simp (disch := omega) only [↓a4, ↓a11, IE.ev, rho_2, rho_3, shr_u64_1, ev_add, ev_sub, qi_p, wrapi_id, wrapu_id] <;> try simp only [wrap_i64, wrap_u64]) <;> omega
        · have c6' := c6
          try (simp (disch := omega) only [IE.ev, rho_2, rho_3, ev_add, ri_p, wrapi_id] at c6' <;> try simp only [wrap_i64, wrap_u64] at c6')
          have hL : ∀ f ∈ L_5_20_1, f.ok (rho (x % 256) (y % 256) x y) := by
            intro f hf
            simp only [L_5_20_1, List.mem_cons, List.not_mem_nil, or_false] at hf
            rcases hf with rfl | rfl | rfl | rfl | rfl | rfl | rfl
            · exact ⟨rfl, cmp_eql_t (by (simp (disch := omega) only [↓a6, IE.ev, shr_u64_8] <;> try simp only [wrap_i64, wrap_u64]) <;> omega)⟩
            · exact ⟨rfl, cmp_eql_t (by (simp (disch := omega) only [↓a13, IE.ev, shr_u64_8] <;> try simp only [wrap_i64, wrap_u64]) <;> omega)⟩
            · exact ⟨rfl, cmp_geq_t (by (simp (disch := omega) only [↓a4, ↓a11, IE.ev, tri0] <;> try simp only [wrap_i64, wrap_u64]) <;> omega)⟩
            · exact ⟨rfl, cmp_leq_t (by (simp (disch := omega) only [↓a4, ↓a11, IE.ev, tri0] <;> try simp only [wrap_i64, wrap_u64]) <;> omega)⟩
            · exact ⟨rfl, cmp_geq_t (by (simp (disch := omega) only [↓a4, ↓a11, IE.ev, ev_add, tri0, wrapu_id] <;> try simp only [wrap_i64, wrap_u64]) <;> omega)⟩
            · exact ⟨rfl, cmp_leq_t (by (simp (disch := omega) only [↓a4, ↓a11, IE.ev, ev_add, tri0, wrapu_id] <;> try simp only [wrap_i64, wrap_u64]) <;> omega)⟩
            · exact ⟨rfl, cmp_lss_n c6⟩
          have ht : toldI 20 y = true := by simp [toldI]
          refine ⟨(IE.ev (rho (x % 256) (y % 256) x y) (.sh .shr .u64 (.sh .shl .u64 (.bin .or .u64 (.sh .shr .u64 (.bin .add .u64 (.bin .add .u64 (.bin .add .u64 (.bin .add .u64 (.cv .u64 (.sh .shr .i64 (.cv .i64 (.sh .shl .u64 (.var 0) (.lit 56))) (.lit 56))) (.cv .u64 (.sh .shr .i64 (.cv .i64 (.sh .shl .u64 (.var 1) (.lit 56))) (.lit 56)))) (.lit 0)) (.lit 1)) (.lit 0)) (.lit 1)) (.sh .shl .u64 (.bin .add .u64 (.bin .add .u64 (.bin .add .u64 (.bin .add .u64 (.cv .u64 (.sh .shr .i64 (.sh .shr .i64 (.cv .i64 (.sh .shl .u64 (.var 0) (.lit 56))) (.lit 56)) (.lit 63))) (.cv .u64 (.sh .shr .i64 (.sh .shr .i64 (.cv .i64 (.sh .shl .u64 (.var 1) (.lit 56))) (.lit 56)) (.lit 63)))) (.tri 0 (.cv .u64 (.sh .shr .i64 (.cv .i64 (.sh .shl .u64 (.var 0) (.lit 56))) (.lit 56))) (.cv .u64 (.sh .shr .i64 (.cv .i64 (.sh .shl .u64 (.var 1) (.lit 56))) (.lit 56))) (.lit 0))) (.lit 0)) (.tri 0 (.bin .add .u64 (.bin .add .u64 (.cv .u64 (.sh .shr .i64 (.cv .i64 (.sh .shl .u64 (.var 0) (.lit 56))) (.lit 56))) (.cv .u64 (.sh .shr .i64 (.cv .i64 (.sh .shl .u64 (.var 1) (.lit 56))) (.lit 56)))) (.lit 0)) (.lit 1) (.lit 0))) (.lit 63))) (.lit 56)) (.lit 56))), (IE.ev (rho (x % 256) (y % 256) x y) (.bin .quo .i64 (.bin .add .i64 (.bin .add .i64 (.var 2) (.var 3)) (.lit 1)) (.lit 2))), fun w hG => ⟨calls_sym hL (run_5_20_1 _ aR aS) List.mem_cons_self rfl rfl rfl rfl hG, ?_⟩, ?_⟩
          · rw [ht]
            exact calls_sym hL (run_5_20_1 _ aR aS) (List.mem_cons_of_mem _ List.mem_cons_self) rfl rfl rfl rfl hG
          · intro _
            clear hL
            unfold clampI
            rw [if_neg (by decide)]
            have o1 := or63 (IE.ev (rho (x % 256) (y % 256) x y) (.sh .shr .u64 (.bin .add .u64 (.bin .add .u64 (.bin .add .u64 (.bin .add .u64 (.cv .u64 (.sh .shr .i64 (.cv .i64 (.sh .shl .u64 (.var 0) (.lit 56))) (.lit 56))) (.cv .u64 (.sh .shr .i64 (.cv .i64 (.sh .shl .u64 (.var 1) (.lit 56))) (.lit 56)))) (.lit 0)) (.lit 1)) (.lit 0)) (.lit 1))) (IE.ev (rho (x % 256) (y % 256) x y) (.sh .shl .u64 (.bin .add .u64 (.bin .add .u64 (.bin .add .u64 (.bin .add .u64 (.cv .u64 (.sh .shr .i64 (.sh .shr .i64 (.cv .i64 (.sh .shl .u64 (.var 0) (.lit 56))) (.lit 56)) (.lit 63))) (.cv .u64 (.sh .shr .i64 (.sh .shr .i64 (.cv .i64 (.sh .shl .u64 (.var 1) (.lit 56))) (.lit 56)) (.lit 63)))) (.tri 0 (.cv .u64 (.sh .shr .i64 (.cv .i64 (.sh .shl .u64 (.var 0) (.lit 56))) (.lit 56))) (.cv .u64 (.sh .shr .i64 (.cv .i64 (.sh .shl .u64 (.var 1) (.lit 56))) (.lit 56))) (.lit 0))) (.lit 0)) (.tri 0 (.bin .add .u64 (.bin .add .u64 (.cv .u64 (.sh .shr .i64 (.cv .i64 (.sh .shl .u64 (.var 0) (.lit 56))) (.lit 56))) (.cv .u64 (.sh .shr .i64 (.cv .i64 (.sh .shl .u64 (.var 1) (.lit 56))) (.lit 56)))) (.lit 0)) (.lit 1) (.lit 0))) (.lit 63))) (by (simp (disch := omega) only [↓a4, ↓a11, IE.ev, shr_u64_1, ev_add, wrapu_id] <;> try simp only [wrap_i64, wrap_u64]) <;> omega) (by (simp (disch := omega) only [↓a4, ↓a11, IE.ev, shr_u64_1, ev_add, wrapu_id] <;> try simp only [wrap_i64, wrap_u64]) <;> omega) (by (simp (disch := omega) only [↓a1, ↓a4, ↓a8, ↓a11, IE.ev, shl_u64_63, ev_add, tri0, wrapu_id] <;> try simp only [wrap_i64, wrap_u64]) <;> omega) (by (simp (disch := omega) only [↓a1, ↓a4, ↓a8, ↓a11, IE.ev, shl_u64_63, ev_add, tri0, wrapu_id] <;> try simp only [wrap_i64, wrap_u64]) <;> omega) (by (simp (disch := omega) only [↓a1, ↓a4, ↓a8, ↓a11, IE.ev, shl_u64_63, ev_add, tri0, wrapu_id] <;> try simp only [wrap_i64, wrap_u64]) <;> omega)
            have o2 : IE.ev (rho (x % 256) (y % 256) x y) (.sh .shr .u64 (.sh .shl .u64 (.bin .or .u64 (.sh .shr .u64 (.bin .add .u64 (.bin .add .u64 (.bin .add .u64 (.bin .add .u64 (.cv .u64 (.sh .shr .i64 (.cv .i64 (.sh .shl .u64 (.var 0) (.lit 56))) (.lit 56))) (.cv .u64 (.sh .shr .i64 (.cv .i64 (.sh .shl .u64 (.var 1) (.lit 56))) (.lit 56)))) (.lit 0)) (.lit 1)) (.lit 0)) (.lit 1)) (.sh .shl .u64 (.bin .add .u64 (.bin .add .u64 (.bin .add .u64 (.bin .add .u64 (.cv .u64 (.sh .shr .i64 (.sh .shr .i64 (.cv .i64 (.sh .shl .u64 (.var 0) (.lit 56))) (.lit 56)) (.lit 63))) (.cv .u64 (.sh .shr .i64 (.sh .shr .i64 (.cv .i64 (.sh .shl .u64 (.var 1) (.lit 56))) (.lit 56)) (.lit 63)))) (.tri 0 (.cv .u64 (.sh .shr .i64 (.cv .i64 (.sh .shl .u64 (.var 0) (.lit 56))) (.lit 56))) (.cv .u64 (.sh .shr .i64 (.cv .i64 (.sh .shl .u64 (.var 1) (.lit 56))) (.lit 56))) (.lit 0))) (.lit 0)) (.tri 0 (.bin .add .u64 (.bin .add .u64 (.cv .u64 (.sh .shr .i64 (.cv .i64 (.sh .shl .u64 (.var 0) (.lit 56))) (.lit 56))) (.cv .u64 (.sh .shr .i64 (.cv .i64 (.sh .shl .u64 (.var 1) (.lit 56))) (.lit 56)))) (.lit 0)) (.lit 1) (.lit 0))) (.lit 63))) (.lit 56)) (.lit 56)) = binI .or .u64 (IE.ev (rho (x % 256) (y % 256) x y) (.sh .shr .u64 (.bin .add .u64 (.bin .add .u64 (.bin .add .u64 (.bin .add .u64 (.cv .u64 (.sh .shr .i64 (.cv .i64 (.sh .shl .u64 (.var 0) (.lit 56))) (.lit 56))) (.cv .u64 (.sh .shr .i64 (.cv .i64 (.sh .shl .u64 (.var 1) (.lit 56))) (.lit 56)))) (.lit 0)) (.lit 1)) (.lit 0)) (.lit 1))) (IE.ev (rho (x % 256) (y % 256) x y) (.sh .shl .u64 (.bin .add .u64 (.bin .add .u64 (.bin .add .u64 (.bin .add .u64 (.cv .u64 (.sh .shr .i64 (.sh .shr .i64 (.cv .i64 (.sh .shl .u64 (.var 0) (.lit 56))) (.lit 56)) (.lit 63))) (.cv .u64 (.sh .shr .i64 (.sh .shr .i64 (.cv .i64 (.sh .shl .u64 (.var 1) (.lit 56))) (.lit 56)) (.lit 63)))) (.tri 0 (.cv .u64 (.sh .shr .i64 (.cv .i64 (.sh .shl .u64 (.var 0) (.lit 56))) (.lit 56))) (.cv .u64 (.sh .shr .i64 (.cv .i64 (.sh .shl .u64 (.var 1) (.lit 56))) (.lit 56))) (.lit 0))) (.lit 0)) (.tri 0 (.bin .add .u64 (.bin .add .u64 (.cv .u64 (.sh .shr .i64 (.cv .i64 (.sh .shl .u64 (.var 0) (.lit 56))) (.lit 56))) (.cv .u64 (.sh .shr .i64 (.cv .i64 (.sh .shl .u64 (.var 1) (.lit 56))) (.lit 56)))) (.lit 0)) (.lit 1) (.lit 0))) (.lit 63))) % 256 := by
              show shI .shr .u64 (shI .shl .u64 (binI .or .u64 (IE.ev (rho (x % 256) (y % 256) x y) (.sh .shr .u64 (.bin .add .u64 (.bin .add .u64 (.bin .add .u64 (.bin .add .u64 (.cv .u64 (.sh .shr .i64 (.cv .i64 (.sh .shl .u64 (.var 0) (.lit 56))) (.lit 56))) (.cv .u64 (.sh .shr .i64 (.cv .i64 (.sh .shl .u64 (.var 1) (.lit 56))) (.lit 56)))) (.lit 0)) (.lit 1)) (.lit 0)) (.lit 1))) (IE.ev (rho (x % 256) (y % 256) x y) (.sh .shl .u64 (.bin .add .u64 (.bin .add .u64 (.bin .add .u64 (.bin .add .u64 (.cv .u64 (.sh .shr .i64 (.sh .shr .i64 (.cv .i64 (.sh .shl .u64 (.var 0) (.lit 56))) (.lit 56)) (.lit 63))) (.cv .u64 (.sh .shr .i64 (.sh .shr .i64 (.cv .i64 (.sh .shl .u64 (.var 1) (.lit 56))) (.lit 56)) (.lit 63)))) (.tri 0 (.cv .u64 (.sh .shr .i64 (.cv .i64 (.sh .shl .u64 (.var 0) (.lit 56))) (.lit 56))) (.cv .u64 (.sh .shr .i64 (.cv .i64 (.sh .shl .u64 (.var 1) (.lit 56))) (.lit 56))) (.lit 0))) (.lit 0)) (.tri 0 (.bin .add .u64 (.bin .add .u64 (.cv .u64 (.sh .shr .i64 (.cv .i64 (.sh .shl .u64 (.var 0) (.lit 56))) (.lit 56))) (.cv .u64 (.sh .shr .i64 (.cv .i64 (.sh .shl .u64 (.var 1) (.lit 56))) (.lit 56)))) (.lit 0)) (.lit 1) (.lit 0))) (.lit 63)))) 56) 56 = _
              simp only [shr_u64_56, shl_u64_56, wrap_u64]
              omega
            rw [o2, o1]
            (simp (disch := omega) only [↓a4, ↓a11, IE.ev, rho_2, rho_3, shr_u64_1, ev_add, qi_p, wrapi_id, wrapu_id] <;> try simp only [wrap_i64, wrap_u64]) <;> omega
    · have a0 := eix_n x y (by omega) (by omega)
      have a1 := eHx_n x y (by omega) (by omega)
      have a2 := ehx_n x y (by omega) (by omega)
      have a3 := eNx_n x y (by omega) (by omega)
      have a4 := eSx_n x y (by omega) (by omega)
      have a5 := esx_n x y (by omega) (by omega)
      have a6 := eVx_n x y (by omega) (by omega)
      have a7 := eiy_p x y (by omega) (by omega)
      have a8 := eHy_p x y (by omega) (by omega)
      have a9 := ehy_p x y (by omega) (by omega)
      have a10 := eSy_p x y (by omega) (by omega)
      have a11 := esy_p x y (by omega) (by omega)
      have a12 := eVy_p x y (by omega) (by omega)
      rcases Int.lt_or_le (x + y + 1) 0 with hs | hs
      · skip
        by_cases c6 : IE.ev (rho (x % 256) (y % 256) x y) (.bin .rem .i64 (.bin .add .i64 (.bin .add .i64 (.var 2) (.var 3)) (.lit 1)) (.lit 2)) < IE.ev (rho (x % 256) (y % 256) x y) (.lit 0)
        · have c6' := c6
          try (simp (disch := omega) only [IE.ev, rho_2, rho_3, ev_add, ri_n, wrapi_id] at c6' <;> try simp only [wrap_i64, wrap_u64] at c6')
          have hL : ∀ f ∈ L_5_20_0, f.ok (rho (x % 256) (y % 256) x y) := by
            intro f hf
            simp only [L_5_20_0, List.mem_cons, List.not_mem_nil, or_false] at hf
            rcases hf with rfl | rfl | rfl | rfl | rfl | rfl | rfl
            · exact ⟨rfl, cmp_eql_t (by (simp (disch := omega) only [↓a6, IE.ev, shr_u64_8] <;> try simp only [wrap_i64, wrap_u64]) <;> omega)⟩
            · exact ⟨rfl, cmp_eql_t (by (simp (disch := omega) only [↓a12, IE.ev, shr_u64_8] <;> try simp only [wrap_i64, wrap_u64]) <;> omega)⟩
            · exact ⟨rfl, cmp_geq_t (by (simp (disch := omega) only [↓a4, ↓a10, IE.ev, tri0] <;> try simp only [wrap_i64, wrap_u64]) <;> omega)⟩
            · exact ⟨rfl, cmp_leq_t (by (simp (disch := omega) only [↓a4, ↓a10, IE.ev, tri0] <;> try simp only [wrap_i64, wrap_u64]) <;> omega)⟩
            · exact ⟨rfl, cmp_geq_t (by (simp (disch := omega) only [↓a4, ↓a10, IE.ev, ev_add, tri0, wrapu_id] <;> try simp only [wrap_i64, wrap_u64]) <;> omega)⟩
            · exact ⟨rfl, cmp_leq_t (by (simp (disch := omega) only [↓a4, ↓a10, IE.ev, ev_add, tri0, wrapu_id] <;> try simp only [wrap_i64, wrap_u64]) <;> omega)⟩
            · exact ⟨rfl, cmp_lss_t c6⟩
          have ht : toldI 20 y = true := by simp [toldI]
          refine ⟨(IE.ev (rho (x % 256) (y % 256) x y) (.sh .shr .u64 (.sh .shl .u64 (.bin .or .u64 (.sh .shr .u64 (.bin .add .u64 (.bin .add .u64 (.bin .add .u64 (.bin .add .u64 (.cv .u64 (.sh .shr .i64 (.cv .i64 (.sh .shl .u64 (.var 0) (.lit 56))) (.lit 56))) (.cv .u64 (.sh .shr .i64 (.cv .i64 (.sh .shl .u64 (.var 1) (.lit 56))) (.lit 56)))) (.lit 0)) (.lit 1)) (.lit 0)) (.lit 1)) (.sh .shl .u64 (.bin .add .u64 (.bin .add .u64 (.bin .add .u64 (.bin .add .u64 (.cv .u64 (.sh .shr .i64 (.sh .shr .i64 (.cv .i64 (.sh .shl .u64 (.var 0) (.lit 56))) (.lit 56)) (.lit 63))) (.cv .u64 (.sh .shr .i64 (.sh .shr .i64 (.cv .i64 (.sh .shl .u64 (.var 1) (.lit 56))) (.lit 56)) (.lit 63)))) (.tri 0 (.cv .u64 (.sh .shr .i64 (.cv .i64 (.sh .shl .u64 (.var 0) (.lit 56))) (.lit 56))) (.cv .u64 (.sh .shr .i64 (.cv .i64 (.sh .shl .u64 (.var 1) (.lit 56))) (.lit 56))) (.lit 0))) (.lit 0)) (.tri 0 (.bin .add .u64 (.bin .add .u64 (.cv .u64 (.sh .shr .i64 (.cv .i64 (.sh .shl .u64 (.var 0) (.lit 56))) (.lit 56))) (.cv .u64 (.sh .shr .i64 (.cv .i64 (.sh .shl .u64 (.var 1) (.lit 56))) (.lit 56)))) (.lit 0)) (.lit 1) (.lit 0))) (.lit 63))) (.lit 56)) (.lit 56))), (IE.ev (rho (x % 256) (y % 256) x y) (.bin .sub .i64 (.bin .quo .i64 (.bin .add .i64 (.bin .add .i64 (.var 2) (.var 3)) (.lit 1)) (.lit 2)) (.lit 1))), fun w hG => ⟨calls_sym hL (run_5_20_0 _ aR aS) List.mem_cons_self rfl rfl rfl rfl hG, ?_⟩, ?_⟩
          · rw [ht]
            exact calls_sym hL (run_5_20_0 _ aR aS) (List.mem_cons_of_mem _ List.mem_cons_self) rfl rfl rfl rfl hG
          · intro _
            clear hL
            unfold clampI
            rw [if_neg (by decide)]
            have o1 := or63 (IE.ev (rho (x % 256) (y % 256) x y) (.sh .shr .u64 (.bin .add .u64 (.bin .add .u64 (.bin .add .u64 (.bin .add .u64 (.cv .u64 (.sh .shr .i64 (.cv .i64 (.sh .shl .u64 (.var 0) (.lit 56))) (.lit 56))) (.cv .u64 (.sh .shr .i64 (.cv .i64 (.sh .shl .u64 (.var 1) (.lit 56))) (.lit 56)))) (.lit 0)) (.lit 1)) (.lit 0)) (.lit 1))) (IE.ev (rho (x % 256) (y % 256) x y) (.sh .shl .u64 (.bin .add .u64 (.bin .add .u64 (.bin .add .u64 (.bin .add .u64 (.cv .u64 (.sh .shr .i64 (.sh .shr .i64 (.cv .i64 (.sh .shl .u64 (.var 0) (.lit 56))) (.lit 56)) (.lit 63))) (.cv .u64 (.sh .shr .i64 (.sh .shr .i64 (.cv .i64 (.sh .shl .u64 (.var 1) (.lit 56))) (.lit 56)) (.lit 63)))) (.tri 0 (.cv .u64 (.sh .shr .i64 (.cv .i64 (.sh .shl .u64 (.var 0) (.lit 56))) (.lit 56))) (.cv .u64 (.sh .shr .i64 (.cv .i64 (.sh .shl .u64 (.var 1) (.lit 56))) (.lit 56))) (.lit 0))) (.lit 0)) (.tri 0 (.bin .add .u64 (.bin .add .u64 (.cv .u64 (.sh .shr .i64 (.cv .i64 (.sh .shl .u64 (.var 0) (.lit 56))) (.lit 56))) (.cv .u64 (.sh .shr .i64 (.cv .i64 (.sh .shl .u64 (.var 1) (.lit 56))) (.lit 56)))) (.lit 0)) (.lit 1) (.lit 0))) (.lit 63))) (by (simp (disch := omega) only [↓a4, ↓a10, IE.ev, shr_u64_1, ev_add, wrapu_id] <;> try simp only [wrap_i64, wrap_u64]) <;> omega) (by (simp (disch := omega) only [↓a4, ↓a10, IE.ev, shr_u64_1, ev_add, wrapu_id] <;> try simp only [wrap_i64, wrap_u64]) <;> omega) (by (simp (disch := omega) only [↓a1, ↓a4, ↓a8, ↓a10, IE.ev, shl_u64_63, ev_add, tri0, wrapu_id] <;> try simp only [wrap_u64]) <;> omega) (by (simp (disch := omega) only [↓a1, ↓a4, ↓a8, ↓a10, IE.ev, shl_u64_63, ev_add, tri0, wrapu_id] <;> try simp only [wrap_u64]) <;> omega) (by (simp (disch := omega) only [↓a1, ↓a4, ↓a8, ↓a10, IE.ev, shl_u64_63, ev_add, tri0, wrapu_id] <;> try simp only [wrap_u64]) <;> omega)
            have o2 : IE.ev (rho (x % 256) (y % 256) x y) (.sh .shr .u64 (.sh .shl .u64 (.bin .or .u64 (.sh .shr .u64 (.bin .add .u64 (.bin .add .u64 (.bin .add .u64 (.bin .add .u64 (.cv .u64 (.sh .shr .i64 (.cv .i64 (.sh .shl .u64 (.var 0) (.lit 56))) (.lit 56))) (.cv .u64 (.sh .shr .i64 (.cv .i64 (.sh .shl .u64 (.var 1) (.lit 56))) (.lit 56)))) (.lit 0)) (.lit 1)) (.lit 0)) (.lit 1)) (.sh .shl .u64 (.bin .add .u64 (.bin .add .u64 (.bin .add .u64 (.bin .add .u64 (.cv .u64 (.sh .shr .i64 (.sh .shr .i64 (.cv .i64 (.sh .shl .u64 (.var 0) (.lit 56))) (.lit 56)) (.lit 63))) (.cv .u64 (.sh .shr .i64 (.sh .shr .i64 (.cv .i64 (.sh .shl .u64 (.var 1) (.lit 56))) (.lit 56)) (.lit 63)))) (.tri 0 (.cv .u64 (.sh .shr .i64 (.cv .i64 (.sh .shl .u64 (.var 0) (.lit 56))) (.lit 56))) (.cv .u64 (.sh .shr .i64 (.cv .i64 (.sh .shl .u64 (.var 1) (.lit 56))) (.lit 56))) (.lit 0))) (.lit 0)) (.tri 0 (.bin .add .u64 (.bin .add .u64 (.cv .u64 (.sh .shr .i64 (.cv .i64 (.sh .shl .u64 (.var 0) (.lit 56))) (.lit 56))) (.cv .u64 (.sh .shr .i64 (.cv .i64 (.sh .shl .u64 (.var 1) (.lit 56))) (.lit 56)))) (.lit 0)) (.lit 1) (.lit 0))) (.lit 63))) (.lit 56)) (.lit 56)) = binI .or .u64 (IE.ev (rho (x % 256) (y % 256) x y) (.sh .shr .u64 (.bin .add .u64 (.bin .add .u64 (.bin .add .u64 (.bin .add .u64 (.cv .u64 (.sh .shr .i64 (.cv .i64 (.sh .shl .u64 (.var 0) (.lit 56))) (.lit 56))) (.cv .u64 (.sh .shr .i64 (.cv .i64 (.sh .shl .u64 (.var 1) (.lit 56))) (.lit 56)))) (.lit 0)) (.lit 1)) (.lit 0)) (.lit 1))) (IE.ev (rho (x % 256) (y % 256) x y) (.sh .shl .u64 (.bin .add .u64 (.bin .add .u64 (.bin .add .u64 (.bin .add .u64 (.cv .u64 (.sh .shr .i64 (.sh .shr .i64 (.cv .i64 (.sh .shl .u64 (.var 0) (.lit 56))) (.lit 56)) (.lit 63))) (.cv .u64 (.sh .shr .i64 (.sh .shr .i64 (.cv .i64 (.sh .shl .u64 (.var 1) (.lit 56))) (.lit 56)) (.lit 63)))) (.tri 0 (.cv .u64 (.sh .shr .i64 (.cv .i64 (.sh .shl .u64 (.var 0) (.lit 56))) (.lit 56))) (.cv .u64 (.sh .shr .i64 (.cv .i64 (.sh .shl .u64 (.var 1) (.lit 56))) (.lit 56))) (.lit 0))) (.lit 0)) (.tri 0 (.bin .add .u64 (.bin .add .u64 (.cv .u64 (.sh .shr .i64 (.cv .i64 (.sh .shl .u64 (.var 0) (.lit 56))) (.lit 56))) (.cv .u64 (.sh .shr .i64 (.cv .i64 (.sh .shl .u64 (.var 1) (.lit 56))) (.lit 56)))) (.lit 0)) (.lit 1) (.lit 0))) (.lit 63))) % 256 := by
              show shI .shr .u64 (shI .shl .u64 (binI .or .u64 (IE.ev (rho (x % 256) (y % 256) x y) (.sh .shr .u64 (.bin .add .u64 (.bin .add .u64 (.bin .add .u64 (.bin .add .u64 (.cv .u64 (.sh .shr .i64 (.cv .i64 (.sh .shl .u64 (.var 0) (.lit 56))) (.lit 56))) (.cv .u64 (.sh .shr .i64 (.cv .i64 (.sh .shl .u64 (.var 1) (.lit 56))) (.lit 56)))) (.lit 0)) (.lit 1)) (.lit 0)) (.lit 1))) (IE.ev (rho (x % 256) (y % 256) x y) (.sh .shl .u64 (.bin .add .u64 (.bin .add .u64 (.bin .add .u64 (.bin .add .u64 (.cv .u64 (.sh .shr .i64 (.sh .shr .i64 (.cv .i64 (.sh .shl .u64 (.var 0) (.lit 56))) (.lit 56)) (.lit 63))) (.cv .u64 (.sh .shr .i64 (.sh .shr .i64 (.cv .i64 (.sh .shl .u64 (.var 1) (.lit 56))) (.lit 56)) (.lit 63)))) (.tri 0 (.cv .u64 (.sh .shr .i64 (.cv .i64 (.sh .shl .u64 (.var 0) (.lit 56))) (.lit 56))) (.cv .u64 (.sh .shr .i64 (.cv .i64 (.sh .shl .u64 (.var 1) (.lit 56))) (.lit 56))) (.lit 0))) (.lit 0)) (.tri 0 (.bin .add .u64 (.bin .add .u64 (.cv .u64 (.sh .shr .i64 (.cv .i64 (.sh .shl .u64 (.var 0) (.lit 56))) (.lit 56))) (.cv .u64 (.sh .shr .i64 (.cv .i64 (.sh .shl .u64 (.var 1) (.lit 56))) (.lit 56)))) (.lit 0)) (.lit 1) (.lit 0))) (.lit 63)))) 56) 56 = _
              simp only [shr_u64_56, shl_u64_56, wrap_u64]
              omega
            rw [o2, o1]
            (simp (disch := omega) only [↓a4, ↓a10, IE.ev, rho_2, rho_3, shr_u64_1, ev_add, ev_sub, qi_n, wrapi_id, wrapu_id] <;> try simp only [wrap_i64, wrap_u64]) <;> omega
        · have c6' := c6
          try (simp (disch := omega) only [IE.ev, rho_2, rho_3, ev_add, ri_n, wrapi_id] at c6' <;> try simp only [wrap_i64, wrap_u64] at c6')
          have hL : ∀ f ∈ L_5_20_1, f.ok (rho (x % 256) (y % 256) x y) := by
            intro f hf
            simp only [L_5_20_1, List.mem_cons, List.not_mem_nil, or_false] at hf
            rcases hf with rfl | rfl | rfl | rfl | rfl | rfl | rfl
            · exact ⟨rfl, cmp_eql_t (by (simp (disch := omega) only [↓a6, IE.ev, shr_u64_8] <;> try simp only [wrap_i64, wrap_u64]) <;> omega)⟩
            · exact ⟨rfl, cmp_eql_t (by (simp (disch := omega) only [↓a12, IE.ev, shr_u64_8] <;> try simp only [wrap_i64, wrap_u64]) <;> omega)⟩
            · exact ⟨rfl, cmp_geq_t (by (simp (disch := omega) only [↓a4, ↓a10, IE.ev, tri0] <;> try simp only [wrap_i64, wrap_u64]) <;> omega)⟩
            · exact ⟨rfl, cmp_leq_t (by (simp (disch := omega) only [↓a4, ↓a10, IE.ev, tri0] <;> try simp only [wrap_i64, wrap_u64]) <;> omega)⟩
            · exact ⟨rfl, cmp_geq_t (by (simp (disch := omega) only [↓a4, ↓a10, IE.ev, ev_add, tri0, wrapu_id] <;> try simp only [wrap_i64, wrap_u64]) <;> omega)⟩
            · exact ⟨rfl, cmp_leq_t (by (simp (disch := omega) only [↓a4, ↓a10, IE.ev, ev_add, tri0, wrapu_id] <;> try simp only [wrap_i64, wrap_u64]) <;> omega)⟩
            · exact ⟨rfl, cmp_lss_n c6⟩
          have ht : toldI 20 y = true := by simp [toldI]
          refine ⟨(IE.ev (rho (x % 256) (y % 256) x y) (.sh .shr .u64 (.sh .shl .u64 (.bin .or .u64 (.sh .shr .u64 (.bin .add .u64 (.bin .add .u64 (.bin .add .u64 (.bin .add .u64 (.cv .u64 (.sh .shr .i64 (.cv .i64 (.sh .shl .u64 (.var 0) (.lit 56))) (.lit 56))) (.cv .u64 (.sh .shr .i64 (.cv .i64 (.sh .shl .u64 (.var 1) (.lit 56))) (.lit 56)))) (.lit 0)) (.lit 1)) (.lit 0)) (.lit 1)) (.sh .shl .u64 (.bin .add .u64 (.bin .add .u64 (.bin .add .u64 (.bin .add .u64 (.cv .u64 (.sh .shr .i64 (.sh .shr .i64 (.cv .i64 (.sh .shl .u64 (.var 0) (.lit 56))) (.lit 56)) (.lit 63))) (.cv .u64 (.sh .shr .i64 (.sh .shr .i64 (.cv .i64 (.sh .shl .u64 (.var 1) (.lit 56))) (.lit 56)) (.lit 63)))) (.tri 0 (.cv .u64 (.sh .shr .i64 (.cv .i64 (.sh .shl .u64 (.var 0) (.lit 56))) (.lit 56))) (.cv .u64 (.sh .shr .i64 (.cv .i64 (.sh .shl .u64 (.var 1) (.lit 56))) (.lit 56))) (.lit 0))) (.lit 0)) (.tri 0 (.bin .add .u64 (.bin .add .u64 (.cv .u64 (.sh .shr .i64 (.cv .i64 (.sh .shl .u64 (.var 0) (.lit 56))) (.lit 56))) (.cv .u64 (.sh .shr .i64 (.cv .i64 (.sh .shl .u64 (.var 1) (.lit 56))) (.lit 56)))) (.lit 0)) (.lit 1) (.lit 0))) (.lit 63))) (.lit 56)) (.lit 56))), (IE.ev (rho (x % 256) (y % 256) x y) (.bin .quo .i64 (.bin .add .i64 (.bin .add .i64 (.var 2) (.var 3)) (.lit 1)) (.lit 2))), fun w hG => ⟨calls_sym hL (run_5_20_1 _ aR aS) List.mem_cons_self rfl rfl rfl rfl hG, ?_⟩, ?_⟩
          · rw [ht]
            exact calls_sym hL (run_5_20_1 _ aR aS) (List.mem_cons_of_mem _ List.mem_cons_self) rfl rfl rfl rfl hG
          · intro _
            clear hL
            unfold clampI
            rw [if_neg (by decide)]
            have o1 := or63 (IE.ev (rho (x % 256) (y % 256) x y) (.sh .shr .u64 (.bin .add .u64 (.bin .add .u64 (.bin .add .u64 (.bin .add .u64 (.cv .u64 (.sh .shr .i64 (.cv .i64 (.sh .shl .u64 (.var 0) (.lit 56))) (.lit 56))) (.cv .u64 (.sh .shr .i64 (.cv .i64 (.sh .shl .u64 (.var 1) (.lit 56))) (.lit 56)))) (.lit 0)) (.lit 1)) (.lit 0)) (.lit 1))) (IE.ev (rho (x % 256) (y % 256) x y) (.sh .shl .u64 (.bin .add .u64 (.bin .add .u64 (.bin .add .u64 (.bin .add .u64 (.cv .u64 (.sh .shr .i64 (.sh .shr .i64 (.cv .i64 (.sh .shl .u64 (.var 0) (.lit 56))) (.lit 56)) (.lit 63))) (.cv .u64 (.sh .shr .i64 (.sh .shr .i64 (.cv .i64 (.sh .shl .u64 (.var 1) (.lit 56))) (.lit 56)) (.lit 63)))) (.tri 0 (.cv .u64 (.sh .shr .i64 (.cv .i64 (.sh .shl .u64 (.var 0) (.lit 56))) (.lit 56))) (.cv .u64 (.sh .shr .i64 (.cv .i64 (.sh .shl .u64 (.var 1) (.lit 56))) (.lit 56))) (.lit 0))) (.lit 0)) (.tri 0 (.bin .add .u64 (.bin .add .u64 (.cv .u64 (.sh .shr .i64 (.cv .i64 (.sh .shl .u64 (.var 0) (.lit 56))) (.lit 56))) (.cv .u64 (.sh .shr .i64 (.cv .i64 (.sh .shl .u64 (.var 1) (.lit 56))) (.lit 56)))) (.lit 0)) (.lit 1) (.lit 0))) (.lit 63))) (by (simp (disch := omega) only [↓a4, ↓a10, IE.ev, shr_u64_1, ev_add, wrapu_id] <;> try simp only [wrap_i64, wrap_u64]) <;> omega) (by (simp (disch := omega) only [↓a4, ↓a10, IE.ev, shr_u64_1, ev_add, wrapu_id] <;> try simp only [wrap_i64, wrap_u64]) <;> omega) (by (simp (disch := omega) only [↓a1, ↓a4, ↓a8, ↓a10, IE.ev, shl_u64_63, ev_add, tri0, wrapu_id] <;> try simp only [wrap_u64]) <;> omega) (by (simp (disch := omega) only [↓a1, ↓a4, ↓a8, ↓a10, IE.ev, shl_u64_63, ev_add, tri0, wrapu_id] <;> try simp only [wrap_u64]) <;> omega) (by (simp (disch := omega) only [↓a1, ↓a4, ↓a8, ↓a10, IE.ev, shl_u64_63, ev_add, tri0, wrapu_id] <;> try simp only [wrap_u64]) <;> omega)
            have o2 : IE.ev (rho (x % 256) (y % 256) x y) (.sh .shr .u64 (.sh .shl .u64 (.bin .or .u64 (.sh .shr .u64 (.bin .add .u64 (.bin .add .u64 (.bin .add .u64 (.bin .add .u64 (.cv .u64 (.sh .shr .i64 (.cv .i64 (.sh .shl .u64 (.var 0) (.lit 56))) (.lit 56))) (.cv .u64 (.sh .shr .i64 (.cv .i64 (.sh .shl .u64 (.var 1) (.lit 56))) (.lit 56)))) (.lit 0)) (.lit 1)) (.lit 0)) (.lit 1)) (.sh .shl .u64 (.bin .add .u64 (.bin .add .u64 (.bin .add .u64 (.bin .add .u64 (.cv .u64 (.sh .shr .i64 (.sh .shr .i64 (.cv .i64 (.sh .shl .u64 (.var 0) (.lit 56))) (.lit 56)) (.lit 63))) (.cv .u64 (.sh .shr .i64 (.sh .shr .i64 (.cv .i64 (.sh .shl .u64 (.var 1) (.lit 56))) (.lit 56)) (.lit 63)))) (.tri 0 (.cv .u64 (.sh .shr .i64 (.cv .i64 (.sh .shl .u64 (.var 0) (.lit 56))) (.lit 56))) (.cv .u64 (.sh .shr .i64 (.cv .i64 (.sh .shl .u64 (.var 1) (.lit 56))) (.lit 56))) (.lit 0))) (.lit 0)) (.tri 0 (.bin .add .u64 (.bin .add .u64 (.cv .u64 (.sh .shr .i64 (.cv .i64 (.sh .shl .u64 (.var 0) (.lit 56))) (.lit 56))) (.cv .u64 (.sh .shr .i64 (.cv .i64 (.sh .shl .u64 (.var 1) (.lit 56))) (.lit 56)))) (.lit 0)) (.lit 1) (.lit 0))) (.lit 63))) (.lit 56)) (.lit 56)) = binI .or .u64 (IE.ev (rho (x % 256) (y % 256) x y) (.sh .shr .u64 (.bin .add .u64 (.bin .add .u64 (.bin .add .u64 (.bin .add .u64 (.cv .u64 (.sh .shr .i64 (.cv .i64 (.sh .shl .u64 (.var 0) (.lit 56))) (.lit 56))) (.cv .u64 (.sh .shr .i64 (.cv .i64 (.sh .shl .u64 (.var 1) (.lit 56))) (.lit 56)))) (.lit 0)) (.lit 1)) (.lit 0)) (.lit 1))) (IE.ev (rho (x % 256) (y % 256) x y) (.sh .shl .u64 (.bin .add .u64 (.bin .add .u64 (.bin .add .u64 (.bin .add .u64 (.cv .u64 (.sh .shr .i64 (.sh .shr .i64 (.cv .i64 (.sh .shl .u64 (.var 0) (.lit 56))) (.lit 56)) (.lit 63))) (.cv .u64 (.sh .shr .i64 (.sh .shr .i64 (.cv .i64 (.sh .shl .u64 (.var 1) (.lit 56))) (.lit 56)) (.lit 63)))) (.tri 0 (.cv .u64 (.sh .shr .i64 (.cv .i64 (.sh .shl .u64 (.var 0) (.lit 56))) (.lit 56))) (.cv .u64 (.sh .shr .i64 (.cv .i64 (.sh .shl .u64 (.var 1) (.lit 56))) (.lit 56))) (.lit 0))) (.lit 0)) (.tri 0 (.bin .add .u64 (.bin .add .u64 (.cv .u64 (.sh .shr .i64 (.cv .i64 (.sh .shl .u64 (.var 0) (.lit 56))) (.lit 56))) (.cv .u64 (.sh .shr .i64 (.cv .i64 (.sh .shl .u64 (.var 1) (.lit 56))) (.lit 56)))) (.lit 0)) (.lit 1) (.lit 0))) (.lit 63))) % 256 := by
              show shI .shr .u64 (shI .shl .u64 (binI .or .u64 (IE.ev (rho (x % 256) (y % 256) x y) (.sh .shr .u64 (.bin .add .u64 (.bin .add .u64 (.bin .add .u64 (.bin .add .u64 (.cv .u64 (.sh .shr .i64 (.cv .i64 (.sh .shl .u64 (.var 0) (.lit 56))) (.lit 56))) (.cv .u64 (.sh .shr .i64 (.cv .i64 (.sh .shl .u64 (.var 1) (.lit 56))) (.lit 56)))) (.lit 0)) (.lit 1)) (.lit 0)) (.lit 1))) (IE.ev (rho (x % 256) (y % 256) x y) (.sh .shl .u64 (.bin .add .u64 (.bin .add .u64 (.bin .add .u64 (.bin .add .u64 (.cv .u64 (.sh .shr .i64 (.sh .shr .i64 (.cv .i64 (.sh .shl .u64 (.var 0) (.lit 56))) (.lit 56)) (.lit 63))) (.cv .u64 (.sh .shr .i64 (.sh .shr .i64 (.cv .i64 (.sh .shl .u64 (.var 1) (.lit 56))) (.lit 56)) (.lit 63)))) (.tri 0 (.cv .u64 (.sh .shr .i64 (.cv .i64 (.sh .shl .u64 (.var 0) (.lit 56))) (.lit 56))) (.cv .u64 (.sh .shr .i64 (.cv .i64 (.sh .shl .u64 (.var 1) (.lit 56))) (.lit 56))) (.lit 0))) (.lit 0)) (.tri 0 (.bin .add .u64 (.bin .add .u64 (.cv .u64 (.sh .shr .i64 (.cv .i64 (.sh .shl .u64 (.var 0) (.lit 56))) (.lit 56))) (.cv .u64 (.sh .shr .i64 (.cv .i64 (.sh .shl .u64 (.var 1) (.lit 56))) (.lit 56)))) (.lit 0)) (.lit 1) (.lit 0))) (.lit 63)))) 56) 56 = _
              simp only [shr_u64_56, shl_u64_56, wrap_u64]
              omega
            rw [o2, o1]
            (simp (disch := omega) only [↓a4, ↓a10, IE.ev, rho_2, rho_3, shr_u64_1, ev_add, qi_n, wrapi_id, wrapu_id] <;> try simp only [wrap_i64, wrap_u64]) <;> omega
      · skip
        by_cases c6 : IE.ev (rho (x % 256) (y % 256) x y) (.bin .rem .i64 (.bin .add .i64 (.bin .add .i64 (.var 2) (.var 3)) (.lit 1)) (.lit 2)) < IE.ev (rho (x % 256) (y % 256) x y) (.lit 0)
        · have c6' := c6
          try (simp (disch := omega) only [IE.ev, rho_2, rho_3, ev_add, ri_p, wrapi_id] at c6' <;> try simp only [wrap_i64, wrap_u64] at c6')
          have hL : ∀ f ∈ L_5_20_0, f.ok (rho (x % 256) (y % 256) x y) := by
            intro f hf
            simp only [L_5_20_0, List.mem_cons, List.not_mem_nil, or_false] at hf
            rcases hf with rfl | rfl | rfl | rfl | rfl | rfl | rfl
            · exact ⟨rfl, cmp_eql_t (by (simp (disch := omega) only [↓a6, IE.ev, shr_u64_8] <;> try simp only [wrap_i64, wrap_u64]) <;> omega)⟩
            · exact ⟨rfl, cmp_eql_t (by (simp (disch := omega) only [↓a12, IE.ev, shr_u64_8] <;> try simp only [wrap_i64, wrap_u64]) <;> omega)⟩
            · exact ⟨rfl, cmp_geq_t (by (simp (disch := omega) only [↓a4, ↓a10, IE.ev, tri0] <;> try simp only [wrap_i64, wrap_u64]) <;> omega)⟩
            · exact ⟨rfl, cmp_leq_t (by (simp (disch := omega) only [↓a4, ↓a10, IE.ev, tri0] <;> try simp only [wrap_i64, wrap_u64]) <;> omega)⟩
            · exact ⟨rfl, cmp_geq_t (by (simp (disch := omega) only [↓a4, ↓a10, IE.ev, ev_add, tri0, wrapu_id] <;> try simp only [wrap_i64, wrap_u64]) <;> omega)⟩
            · exact ⟨rfl, cmp_leq_t (by (simp (disch := omega) only [↓a4, ↓a10, IE.ev, ev_add, tri0, wrapu_id] <;> try simp only [wrap_i64, wrap_u64]) <;> omega)⟩
            · exact ⟨rfl, cmp_lss_t c6⟩
          have ht : toldI 20 y = true := by simp [toldI]
          refine ⟨(IE.ev (rho (x % 256) (y % 256) x y) (.sh .shr .u64 (.sh .shl .u64 (.bin .or .u64 (.sh .shr .u64 (.bin .add .u64 (.bin .add .u64 (.bin .add .u64 (.bin .add .u64 (.cv .u64 (.sh .shr .i64 (.cv .i64 (.sh .shl .u64 (.var 0) (.lit 56))) (.lit 56))) (.cv .u64 (.sh .shr .i64 (.cv .i64 (.sh .shl .u64 (.var 1) (.lit 56))) (.lit 56)))) (.lit 0)) (.lit 1)) (.lit 0)) (.lit 1)) (.sh .shl .u64 (.bin .add .u64 (.bin .add .u64 (.bin .add .u64 (.bin .add .u64 (.cv .u64 (.sh .shr .i64 (.sh .shr .i64 (.cv .i64 (.sh .shl .u64 (.var 0) (.lit 56))) (.lit 56)) (.lit 63))) (.cv .u64 (.sh .shr .i64 (.sh .shr .i64 (.cv .i64 (.sh .shl .u64 (.var 1) (.lit 56))) (.lit 56)) (.lit 63)))) (.tri 0 (.cv .u64 (.sh .shr .i64 (.cv .i64 (.sh .shl .u64 (.var 0) (.lit 56))) (.lit 56))) (.cv .u64 (.sh .shr .i64 (.cv .i64 (.sh .shl .u64 (.var 1) (.lit 56))) (.lit 56))) (.lit 0))) (.lit 0)) (.tri 0 (.bin .add .u64 (.bin .add .u64 (.cv .u64 (.sh .shr .i64 (.cv .i64 (.sh .shl .u64 (.var 0) (.lit 56))) (.lit 56))) (.cv .u64 (.sh .shr .i64 (.cv .i64 (.sh .shl .u64 (.var 1) (.lit 56))) (.lit 56)))) (.lit 0)) (.lit 1) (.lit 0))) (.lit 63))) (.lit 56)) (.lit 56))), (IE.ev (rho (x % 256) (y % 256) x y) (.bin .sub .i64 (.bin .quo .i64 (.bin .add .i64 (.bin .add .i64 (.var 2) (.var 3)) (.lit 1)) (.lit 2)) (.lit 1))), fun w hG => ⟨calls_sym hL (run_5_20_0 _ aR aS) List.mem_cons_self rfl rfl rfl rfl hG, ?_⟩, ?_⟩
          · rw [ht]
            exact calls_sym hL (run_5_20_0 _ aR aS) (List.mem_cons_of_mem _ List.mem_cons_self) rfl rfl rfl rfl hG
          · intro _
            clear hL
            unfold clampI
            rw [if_neg (by decide)]
            have o1 := or63 (IE.ev (rho (x % 256) (y % 256) x y) (.sh .shr .u64 (.bin .add .u64 (.bin .add .u64 (.bin .add .u64 (.bin .add .u64 (.cv .u64 (.sh .shr .i64 (.cv .i64 (.sh .shl .u64 (.var 0) (.lit 56))) (.lit 56))) (.cv .u64 (.sh .shr .i64 (.cv .i64 (.sh .shl .u64 (.var 1) (.lit 56))) (.lit 56)))) (.lit 0)) (.lit 1)) (.lit 0)) (.lit 1))) (IE.ev (rho (x % 256) (y % 256) x y) (.sh .shl .u64 (.bin .add .u64 (.bin .add .u64 (.bin .add .u64 (.bin .add .u64 (.cv .u64 (.sh .shr .i64 (.sh .shr .i64 (.cv .i64 (.sh .shl .u64 (.var 0) (.lit 56))) (.lit 56)) (.lit 63))) (.cv .u64 (.sh .shr .i64 (.sh .shr .i64 (.cv .i64 (.sh .shl .u64 (.var 1) (.lit 56))) (.lit 56)) (.lit 63)))) (.tri 0 (.cv .u64 (.sh .shr .i64 (.cv .i64 (.sh .shl .u64 (.var 0) (.lit 56))) (.lit 56))) (.cv .u64 (.sh .shr .i64 (.cv .i64 (.sh .shl .u64 (.var 1) (.lit 56))) (.lit 56))) (.lit 0))) (.lit 0)) (.tri 0 (.bin .add .u64 (.bin .add .u64 (.cv .u64 (.sh .shr .i64 (.cv .i64 (.sh .shl .u64 (.var 0) (.lit 56))) (.lit 56))) (.cv .u64 (.sh .shr .i64 (.cv .i64 (.sh .shl .u64 (.var 1) (.lit 56))) (.lit 56)))) (.lit 0)) (.lit 1) (.lit 0))) (.lit 63))) (by (simp (disch := omega) only [↓a4, ↓a10, IE.ev, shr_u64_1, ev_add, wrapu_id] <;> try simp only [wrap_i64, wrap_u64]) <;> omega) (by (simp (disch := omega) only [↓a4, ↓a10, IE.ev, shr_u64_1, ev_add, wrapu_id] <;> try simp only [wrap_i64, wrap_u64]) <;> omega) (by (simp (disch := omega) only [↓a1, ↓a4, ↓a8, ↓a10, IE.ev, shl_u64_63, ev_add, tri0, wrapu_id] <;> try simp only [wrap_i64, wrap_u64]) <;> omega) (by (simp (disch := omega) only [↓a1, ↓a4, ↓a8, ↓a10, IE.ev, shl_u64_63, ev_add, tri0, wrapu_id] <;> try simp only [wrap_i64, wrap_u64]) <;> omega) (by (simp (disch := omega) only [↓a1, ↓a4, ↓a8, ↓a10, IE.ev, shl_u64_63, ev_add, tri0, wrapu_id] <;> try simp only [wrap_i64, wrap_u64]) <;> omega)
            have o2 : IE.ev (rho (x % 256) (y % 256) x y) (.sh .shr .u64 (.sh .shl .u64 (.bin .or .u64 (.sh .shr .u64 (.bin .add .u64 (.bin .add .u64 (.bin .add .u64 (.bin .add .u64 (.cv .u64 (.sh .shr .i64 (.cv .i64 (.sh .shl .u64 (.var 0) (.lit 56))) (.lit 56))) (.cv .u64 (.sh .shr .i64 (.cv .i64 (.sh .shl .u64 (.var 1) (.lit 56))) (.lit 56)))) (.lit 0)) (.lit 1)) (.lit 0)) (.lit 1)) (.sh .shl .u64 (.bin .add .u64 (.bin .add .u64 (.bin .add .u64 (.bin .add .u64 (.cv .u64 (.sh .shr .i64 (.sh .shr .i64 (.cv .i64 (.sh .shl .u64 (.var 0) (.lit 56))) (.lit 56)) (.lit 63))) (.cv .u64 (.sh .shr .i64 (.sh .shr .i64 (.cv .i64 (.sh .shl .u64 (.var 1) (.lit 56))) (.lit 56)) (.lit 63)))) (.tri 0 (.cv .u64 (.sh .shr .i64 (.cv .i64 (.sh .shl .u64 (.var 0) (.lit 56))) (.lit 56))) (.cv .u64 (.sh .shr .i64 (.cv .i64 (.sh .shl .u64 (.var 1) (.lit 56))) (.lit 56))) (.lit 0))) (.lit 0)) (.tri 0 (.bin .add .u64 (.bin .add .u64 (.cv .u64 (.sh .shr .i64 (.cv .i64 (.sh .shl .u64 (.var 0) (.lit 56))) (.lit 56))) (.cv .u64 (.sh .shr .i64 (.cv .i64 (.sh .shl .u64 (.var 1) (.lit 56))) (.lit 56)))) (.lit 0)) (.lit 1) (.lit 0))) (.lit 63))) (.lit 56)) (.lit 56)) = binI .or .u64 (IE.ev (rho (x % 256) (y % 256) x y) (.sh .shr .u64 (.bin .add .u64 (.bin .add .u64 (.bin .add .u64 (.bin .add .u64 (.cv .u64 (.sh .shr .i64 (.cv .i64 (.sh .shl .u64 (.var 0) (.lit 56))) (.lit 56))) (.cv .u64 (.sh .shr .i64 (.cv .i64 (.sh .shl .u64 (.var 1) (.lit 56))) (.lit 56)))) (.lit 0)) (.lit 1)) (.lit 0)) (.lit 1))) (IE.ev (rho (x % 256) (y % 256) x y) (.sh .shl .u64 (.bin .add .u64 (.bin .add .u64 (.bin .add .u64 (.bin .add .u64 (.cv .u64 (.sh .shr .i64 (.sh .shr .i64 (.cv .i64 (.sh .shl .u64 (.var 0) (.lit 56))) (.lit 56)) (.lit 63))) (.cv .u64 (.sh .shr .i64 (.sh .shr .i64 (.cv .i64 (.sh .shl .u64 (.var 1) (.lit 56))) (.lit 56)) (.lit 63)))) (.tri 0 (.cv .u64 (.sh .shr .i64 (.cv .i64 (.sh .shl .u64 (.var 0) (.lit 56))) (.lit 56))) (.cv .u64 (.sh .shr .i64 (.cv .i64 (.sh .shl .u64 (.var 1) (.lit 56))) (.lit 56))) (.lit 0))) (.lit 0)) (.tri 0 (.bin .add .u64 (.bin .add .u64 (.cv .u64 (.sh .shr .i64 (.cv .i64 (.sh .shl .u64 (.var 0) (.lit 56))) (.lit 56))) (.cv .u64 (.sh .shr .i64 (.cv .i64 (.sh .shl .u64 (.var 1) (.lit 56))) (.lit 56)))) (.lit 0)) (.lit 1) (.lit 0))) (.lit 63))) % 256 := by
              show shI .shr .u64 (shI .shl .u64 (binI .or .u64 (IE.ev (rho (x % 256) (y % 256) x y) (.sh .shr .u64 (.bin .add .u64 (.bin .add .u64 (.bin .add .u64 (.bin .add .u64 (.cv .u64 (.sh .shr .i64 (.cv .i64 (.sh .shl .u64 (.var 0) (.lit 56))) (.lit 56))) (.cv .u64 (.sh .shr .i64 (.cv .i64 (.sh .shl .u64 (.var 1) (.lit 56))) (.lit 56)))) (.lit 0)) (.lit 1)) (.lit 0)) (.lit 1))) (IE.ev (rho (x % 256) (y % 256) x y) (.sh .shl .u64 (.bin .add .u64 (.bin .add .u64 (.bin .add .u64 (.bin .add .u64 (.cv .u64 (.sh .shr .i64 (.sh .shr .i64 (.cv .i64 (.sh .shl .u64 (.var 0) (.lit 56))) (.lit 56)) (.lit 63))) (.cv .u64 (.sh .shr .i64 (.sh .shr .i64 (.cv .i64 (.sh .shl .u64 (.var 1) (.lit 56))) (.lit 56)) (.lit 63)))) (.tri 0 (.cv .u64 (.sh .shr .i64 (.cv .i64 (.sh .shl .u64 (.var 0) (.lit 56))) (.lit 56))) (.cv .u64 (.sh .shr .i64 (.cv .i64 (.sh .shl .u64 (.var 1) (.lit 56))) (.lit 56))) (.lit 0))) (.lit 0)) (.tri 0 (.bin .add .u64 (.bin .add .u64 (.cv .u64 (.sh .shr .i64 (.cv .i64 (.sh .shl .u64 (.var 0) (.lit 56))) (.lit 56))) (.cv .u64 (.sh .shr .i64 (.cv .i64 (.sh .shl .u64 (.var 1) (.lit 56))) (.lit 56)))) (.lit 0)) (.lit 1) (.lit 0))) (.lit 63)))) 56) 56 = _
              simp only [shr_u64_56, shl_u64_56, wrap_u64]
              omega
            rw [o2, o1]
            (simp (disch := omega) only [↓a4, ↓a10, IE.ev, rho_2, rho_3, shr_u64_1, ev_add, ev_sub, qi_p, wrapi_id, wrapu_id] <;> try simp only [wrap_i64, wrap_u64]) <;> omega
        · have c6' := c6
          try (simp (disch := omega) only [IE.ev, rho_2, rho_3, ev_add, ri_p, wrapi_id] at c6' <;> try simp only [wrap_i64, wrap_u64] at c6')
          have hL : ∀ f ∈ L_5_20_1, f.ok (rho (x % 256) (y % 256) x y) := by
            intro f hf
            simp only [L_5_20_1, List.mem_cons, List.not_mem_nil, or_false] at hf
            rcases hf with rfl | rfl | rfl | rfl | rfl | rfl | rfl
            · exact ⟨rfl, cmp_eql_t (by (simp (disch := omega) only [↓a6, IE.ev, shr_u64_8] <;> try simp only [wrap_i64, wrap_u64]) <;> omega)⟩
            · exact ⟨rfl, cmp_eql_t (by (simp (disch := omega) only [↓a12, IE.ev, shr_u64_8] <;> try simp only [wrap_i64, wrap_u64]) <;> omega)⟩
            · exact ⟨rfl, cmp_geq_t (by (simp (disch := omega) only [↓a4, ↓a10, IE.ev, tri0] <;> try simp only [wrap_i64, wrap_u64]) <;> omega)⟩
            · exact ⟨rfl, cmp_leq_t (by (simp (disch := omega) only [↓a4, ↓a10, IE.ev, tri0] <;> try simp only [wrap_i64, wrap_u64]) <;> omega)⟩
            · exact ⟨rfl, cmp_geq_t (by (simp (disch := omega) only [↓a4, ↓a10, IE.ev, ev_add, tri0] <;> try simp only [wrap_u64]) <;> omega)⟩
            · exact ⟨rfl, cmp_leq_t (by (simp (disch := omega) only [↓a4, ↓a10, IE.ev, ev_add, tri0] <;> try simp only [wrap_u64]) <;> omega)⟩
            · exact ⟨rfl, cmp_lss_n c6⟩
          have ht : toldI 20 y = true := by simp [toldI]
          refine ⟨(IE.ev (rho (x % 256) (y % 256) x y) (.sh .shr .u64 (.sh .shl .u64 (.bin .or .u64 (.sh .shr .u64 (.bin .add .u64 (.bin .add .u64 (.bin .add .u64 (.bin .add .u64 (.cv .u64 (.sh .shr .i64 (.cv .i64 (.sh .shl .u64 (.var 0) (.lit 56))) (.lit 56))) (.cv .u64 (.sh .shr .i64 (.cv .i64 (.sh .shl .u64 (.var 1) (.lit 56))) (.lit 56)))) (.lit 0)) (.lit 1)) (.lit 0)) (.lit 1)) (.sh .shl .u64 (.bin .add .u64 (.bin .add .u64 (.bin .add .u64 (.bin .add .u64 (.cv .u64 (.sh .shr .i64 (.sh .shr .i64 (.cv .i64 (.sh .shl .u64 (.var 0) (.lit 56))) (.lit 56)) (.lit 63))) (.cv .u64 (.sh .shr .i64 (.sh .shr .i64 (.cv .i64 (.sh .shl .u64 (.var 1) (.lit 56))) (.lit 56)) (.lit 63)))) (.tri 0 (.cv .u64 (.sh .shr .i64 (.cv .i64 (.sh .shl .u64 (.var 0) (.lit 56))) (.lit 56))) (.cv .u64 (.sh .shr .i64 (.cv .i64 (.sh .shl .u64 (.var 1) (.lit 56))) (.lit 56))) (.lit 0))) (.lit 0)) (.tri 0 (.bin .add .u64 (.bin .add .u64 (.cv .u64 (.sh .shr .i64 (.cv .i64 (.sh .shl .u64 (.var 0) (.lit 56))) (.lit 56))) (.cv .u64 (.sh .shr .i64 (.cv .i64 (.sh .shl .u64 (.var 1) (.lit 56))) (.lit 56)))) (.lit 0)) (.lit 1) (.lit 0))) (.lit 63))) (.lit 56)) (.lit 56))), (IE.ev (rho (x % 256) (y % 256) x y) (.bin .quo .i64 (.bin .add .i64 (.bin .add .i64 (.var 2) (.var 3)) (.lit 1)) (.lit 2))), fun w hG => ⟨calls_sym hL (run_5_20_1 _ aR aS) List.mem_cons_self rfl rfl rfl rfl hG, ?_⟩, ?_⟩
          · rw [ht]
            exact calls_sym hL (run_5_20_1 _ aR aS) (List.mem_cons_of_mem _ List.mem_cons_self) rfl rfl rfl rfl hG
          · intro _
            clear hL
            unfold clampI
            rw [if_neg (by decide)]
            have o1 := or63 (IE.ev (rho (x % 256) (y % 256) x y) (.sh .shr .u64 (.bin .add .u64 (.bin .add .u64 (.bin .add .u64 (.bin .add .u64 (.cv .u64 (.sh .shr .i64 (.cv .i64 (.sh .shl .u64 (.var 0) (.lit 56))) (.lit 56))) (.cv .u64 (.sh .shr .i64 (.cv .i64 (.sh .shl .u64 (.var 1) (.lit 56))) (.lit 56)))) (.lit 0)) (.lit 1)) (.lit 0)) (.lit 1))) (IE.ev (rho (x % 256) (y % 256) x y) (.sh .shl .u64 (.bin .add .u64 (.bin .add .u64 (.bin .add .u64 (.bin .add .u64 (.cv .u64 (.sh .shr .i64 (.sh .shr .i64 (.cv .i64 (.sh .shl .u64 (.var 0) (.lit 56))) (.lit 56)) (.lit 63))) (.cv .u64 (.sh .shr .i64 (.sh .shr .i64 (.cv .i64 (.sh .shl .u64 (.var 1) (.lit 56))) (.lit 56)) (.lit 63)))) (.tri 0 (.cv .u64 (.sh .shr .i64 (.cv .i64 (.sh .shl .u64 (.var 0) (.lit 56))) (.lit 56))) (.cv .u64 (.sh .shr .i64 (.cv .i64 (.sh .shl .u64 (.var 1) (.lit 56))) (.lit 56))) (.lit 0))) (.lit 0)) (.tri 0 (.bin .add .u64 (.bin .add .u64 (.cv .u64 (.sh .shr .i64 (.cv .i64 (.sh .shl .u64 (.var 0) (.lit 56))) (.lit 56))) (.cv .u64 (.sh .shr .i64 (.cv .i64 (.sh .shl .u64 (.var 1) (.lit 56))) (.lit 56)))) (.lit 0)) (.lit 1) (.lit 0))) (.lit 63))) (by (simp (disch := omega) only [↓a4, ↓a10, IE.ev, shr_u64_1, ev_add] <;> try simp only [wrap_u64]) <;> omega) (by (simp (disch := omega) only [↓a4, ↓a10, IE.ev, shr_u64_1, ev_add] <;> try simp only [wrap_u64]) <;> omega) (by (simp (disch := omega) only [↓a1, ↓a4, ↓a8, ↓a10, IE.ev, shl_u64_63, ev_add, tri0, wrapu_id] <;> try simp only [wrap_u64]) <;> omega) (by (simp (disch := omega) only [↓a1, ↓a4, ↓a8, ↓a10, IE.ev, shl_u64_63, ev_add, tri0, wrapu_id] <;> try simp only [wrap_u64]) <;> omega) (by (simp (disch := omega) only [↓a1, ↓a4, ↓a8, ↓a10, IE.ev, shl_u64_63, ev_add, tri0, wrapu_id] <;> try simp only [wrap_u64]) <;> omega)
            have o2 : IE.ev (rho (x % 256) (y % 256) x y) (.sh .shr .u64 (.sh .shl .u64 (.bin .or .u64 (.sh .shr .u64 (.bin .add .u64 (.bin .add .u64 (.bin .add .u64 (.bin .add .u64 (.cv .u64 (.sh .shr .i64 (.cv .i64 (.sh .shl .u64 (.var 0) (.lit 56))) (.lit 56))) (.cv .u64 (.sh .shr .i64 (.cv .i64 (.sh .shl .u64 (.var 1) (.lit 56))) (.lit 56)))) (.lit 0)) (.lit 1)) (.lit 0)) (.lit 1)) (.sh .shl .u64 (.bin .add .u64 (.bin .add .u64 (.bin .add .u64 (.bin .add .u64 (.cv .u64 (.sh .shr .i64 (.sh .shr .i64 (.cv .i64 (.sh .shl .u64 (.var 0) (.lit 56))) (.lit 56)) (.lit 63))) (.cv .u64 (.sh .shr .i64 (.sh .shr .i64 (.cv .i64 (.sh .shl .u64 (.var 1) (.lit 56))) (.lit 56)) (.lit 63)))) (.tri 0 (.cv .u64 (.sh .shr .i64 (.cv .i64 (.sh .shl .u64 (.var 0) (.lit 56))) (.lit 56))) (.cv .u64 (.sh .shr .i64 (.cv .i64 (.sh .shl .u64 (.var 1) (.lit 56))) (.lit 56))) (.lit 0))) (.lit 0)) (.tri 0 (.bin .add .u64 (.bin .add .u64 (.cv .u64 (.sh .shr .i64 (.cv .i64 (.sh .shl .u64 (.var 0) (.lit 56))) (.lit 56))) (.cv .u64 (.sh .shr .i64 (.cv .i64 (.sh .shl .u64 (.var 1) (.lit 56))) (.lit 56)))) (.lit 0)) (.lit 1) (.lit 0))) (.lit 63))) (.lit 56)) (.lit 56)) = binI .or .u64 (IE.ev (rho (x % 256) (y % 256) x y) (.sh .shr .u64 (.bin .add .u64 (.bin .add .u64 (.bin .add .u64 (.bin .add .u64 (.cv .u64 (.sh .shr .i64 (.cv .i64 (.sh .shl .u64 (.var 0) (.lit 56))) (.lit 56))) (.cv .u64 (.sh .shr .i64 (.cv .i64 (.sh .shl .u64 (.var 1) (.lit 56))) (.lit 56)))) (.lit 0)) (.lit 1)) (.lit 0)) (.lit 1))) (IE.ev (rho (x % 256) (y % 256) x y) (.sh .shl .u64 (.bin .add .u64 (.bin .add .u64 (.bin .add .u64 (.bin .add .u64 (.cv .u64 (.sh .shr .i64 (.sh .shr .i64 (.cv .i64 (.sh .shl .u64 (.var 0) (.lit 56))) (.lit 56)) (.lit 63))) (.cv .u64 (.sh .shr .i64 (.sh .shr .i64 (.cv .i64 (.sh .shl .u64 (.var 1) (.lit 56))) (.lit 56)) (.lit 63)))) (.tri 0 (.cv .u64 (.sh .shr .i64 (.cv .i64 (.sh .shl .u64 (.var 0) (.lit 56))) (.lit 56))) (.cv .u64 (.sh .shr .i64 (.cv .i64 (.sh .shl .u64 (.var 1) (.lit 56))) (.lit 56))) (.lit 0))) (.lit 0)) (.tri 0 (.bin .add .u64 (.bin .add .u64 (.cv .u64 (.sh .shr .i64 (.cv .i64 (.sh .shl .u64 (.var 0) (.lit 56))) (.lit 56))) (.cv .u64 (.sh .shr .i64 (.cv .i64 (.sh .shl .u64 (.var 1) (.lit 56))) (.lit 56)))) (.lit 0)) (.lit 1) (.lit 0))) (.lit 63))) % 256 := by
              show shI .shr .u64 (shI .shl .u64 (binI .or .u64 (IE.ev (rho (x % 256) (y % 256) x y) (.sh .shr .u64 (.bin .add .u64 (.bin .add .u64 (.bin .add .u64 (.bin .add .u64 (.cv .u64 (.sh .shr .i64 (.cv .i64 (.sh .shl .u64 (.var 0) (.lit 56))) (.lit 56))) (.cv .u64 (.sh .shr .i64 (.cv .i64 (.sh .shl .u64 (.var 1) (.lit 56))) (.lit 56)))) (.lit 0)) (.lit 1)) (.lit 0)) (.lit 1))) (IE.ev (rho (x % 256) (y % 256) x y) (.sh .shl .u64 (.bin .add .u64 (.bin .add .u64 (.bin .add .u64 (.bin .add .u64 (.cv .u64 (.sh .shr .i64 (.sh .shr .i64 (.cv .i64 (.sh .shl .u64 (.var 0) (.lit 56))) (.lit 56)) (.lit 63))) (.cv .u64 (.sh .shr .i64 (.sh .shr .i64 (.cv .i64 (.sh .shl .u64 (.var 1) (.lit 56))) (.lit 56)) (.lit 63)))) (.tri 0 (.cv .u64 (.sh .shr .i64 (.cv .i64 (.sh .shl .u64 (.var 0) (.lit 56))) (.lit 56))) (.cv .u64 (.sh .shr .i64 (.cv .i64 (.sh .shl .u64 (.var 1) (.lit 56))) (.lit 56))) (.lit 0))) (.lit 0)) (.tri 0 (.bin .add .u64 (.bin .add .u64 (.cv .u64 (.sh .shr .i64 (.cv .i64 (.sh .shl .u64 (.var 0) (.lit 56))) (.lit 56))) (.cv .u64 (.sh .shr .i64 (.cv .i64 (.sh .shl .u64 (.var 1) (.lit 56))) (.lit 56)))) (.lit 0)) (.lit 1) (.lit 0))) (.lit 63)))) 56) 56 = _
              simp only [shr_u64_56, shl_u64_56, wrap_u64]
              omega
            rw [o2, o1]
            (simp (disch := omega) only [↓a4, ↓a10, IE.ev, rho_2, rho_3, shr_u64_1, ev_add, qi_p, wrapi_id] <;> try simp only [wrap_u64]) <;> omega
  · have hy : y < 0 ∨ 0 ≤ y := by omega
    rcases hy with hy | hy
    · have a0 := eix_p x y (by omega) (by omega)
      have a1 := eHx_p x y (by omega) (by omega)
      have a2 := ehx_p x y (by omega) (by omega)
      have a3 := eSx_p x y (by omega) (by omega)
      have a4 := esx_p x y (by omega) (by omega)
      have a5 := eVx_p x y (by omega) (by omega)
      have a6 := eiy_n x y (by omega) (by omega)
      have a7 := eHy_n x y (by omega) (by omega)
      have a8 := ehy_n x y (by omega) (by omega)
      have a9 := eNy_n x y (by omega) (by omega)
      have a10 := eSy_n x y (by omega) (by omega)
      have a11 := esy_n x y (by omega) (by omega)
      have a12 := eVy_n x y (by omega) (by omega)
      rcases Int.lt_or_le (x + y + 1) 0 with hs | hs
      · skip
        by_cases c6 : IE.ev (rho (x % 256) (y % 256) x y) (.bin .rem .i64 (.bin .add .i64 (.bin .add .i64 (.var 2) (.var 3)) (.lit 1)) (.lit 2)) < IE.ev (rho (x % 256) (y % 256) x y) (.lit 0)
        · have c6' := c6
          try (simp (disch := omega) only [IE.ev, rho_2, rho_3, ev_add, ri_n, wrapi_id] at c6' <;> try simp only [wrap_i64, wrap_u64] at c6')
          have hL : ∀ f ∈ L_5_20_0, f.ok (rho (x % 256) (y % 256) x y) := by
            intro f hf
            simp only [L_5_20_0, List.mem_cons, List.not_mem_nil, or_false] at hf
            rcases hf with rfl | rfl | rfl | rfl | rfl | rfl | rfl
            · exact ⟨rfl, cmp_eql_t (by (simp (disch := omega) only [↓a5, IE.ev, shr_u64_8] <;> try simp only [wrap_i64, wrap_u64]) <;> omega)⟩
            · exact ⟨rfl, cmp_eql_t (by (simp (disch := omega) only [↓a12, IE.ev, shr_u64_8] <;> try simp only [wrap_i64, wrap_u64]) <;> omega)⟩
            · exact ⟨rfl, cmp_geq_t (by (simp (disch := omega) only [↓a3, ↓a10, IE.ev, tri0] <;> try simp only [wrap_i64, wrap_u64]) <;> omega)⟩
            · exact ⟨rfl, cmp_leq_t (by (simp (disch := omega) only [↓a3, ↓a10, IE.ev, tri0] <;> try simp only [wrap_i64, wrap_u64]) <;> omega)⟩
            · exact ⟨rfl, cmp_geq_t (by (simp (disch := omega) only [↓a3, ↓a10, IE.ev, ev_add, tri0, wrapu_id] <;> try simp only [wrap_i64, wrap_u64]) <;> omega)⟩
            · exact ⟨rfl, cmp_leq_t (by (simp (disch := omega) only [↓a3, ↓a10, IE.ev, ev_add, tri0, wrapu_id] <;> try simp only [wrap_i64, wrap_u64]) <;> omega)⟩
            · exact ⟨rfl, cmp_lss_t c6⟩
          have ht : toldI 20 y = true := by simp [toldI]
          refine ⟨(IE.ev (rho (x % 256) (y % 256) x y) (.sh .shr .u64 (.sh .shl .u64 (.bin .or .u64 (.sh .shr .u64 (.bin .add .u64 (.bin .add .u64 (.bin .add .u64 (.bin .add .u64 (.cv .u64 (.sh .shr .i64 (.cv .i64 (.sh .shl .u64 (.var 0) (.lit 56))) (.lit 56))) (.cv .u64 (.sh .shr .i64 (.cv .i64 (.sh .shl .u64 (.var 1) (.lit 56))) (.lit 56)))) (.lit 0)) (.lit 1)) (.lit 0)) (.lit 1)) (.sh .shl .u64 (.bin .add .u64 (.bin .add .u64 (.bin .add .u64 (.bin .add .u64 (.cv .u64 (.sh .shr .i64 (.sh .shr .i64 (.cv .i64 (.sh .shl .u64 (.var 0) (.lit 56))) (.lit 56)) (.lit 63))) (.cv .u64 (.sh .shr .i64 (.sh .shr .i64 (.cv .i64 (.sh .shl .u64 (.var 1) (.lit 56))) (.lit 56)) (.lit 63)))) (.tri 0 (.cv .u64 (.sh .shr .i64 (.cv .i64 (.sh .shl .u64 (.var 0) (.lit 56))) (.lit 56))) (.cv .u64 (.sh .shr .i64 (.cv .i64 (.sh .shl .u64 (.var 1) (.lit 56))) (.lit 56))) (.lit 0))) (.lit 0)) (.tri 0 (.bin .add .u64 (.bin .add .u64 (.cv .u64 (.sh .shr .i64 (.cv .i64 (.sh .shl .u64 (.var 0) (.lit 56))) (.lit 56))) (.cv .u64 (.sh .shr .i64 (.cv .i64 (.sh .shl .u64 (.var 1) (.lit 56))) (.lit 56)))) (.lit 0)) (.lit 1) (.lit 0))) (.lit 63))) (.lit 56)) (.lit 56))), (IE.ev (rho (x % 256) (y % 256) x y) (.bin .sub .i64 (.bin .quo .i64 (.bin .add .i64 (.bin .add .i64 (.var 2) (.var 3)) (.lit 1)) (.lit 2)) (.lit 1))), fun w hG => ⟨calls_sym hL (run_5_20_0 _ aR aS) List.mem_cons_self rfl rfl rfl rfl hG, ?_⟩, ?_⟩
          · rw [ht]
            exact calls_sym hL (run_5_20_0 _ aR aS) (List.mem_cons_of_mem _ List.mem_cons_self) rfl rfl rfl rfl hG
          · intro _
            clear hL
            unfold clampI
            rw [if_neg (by decide)]
            have o1 := or63 (IE.ev (rho (x % 256) (y % 256) x y) (.sh .shr .u64 (.bin .add .u64 (.bin .add .u64 (.bin .add .u64 (.bin .add .u64 (.cv .u64 (.sh .shr .i64 (.cv .i64 (.sh .shl .u64 (.var 0) (.lit 56))) (.lit 56))) (.cv .u64 (.sh .shr .i64 (.cv .i64 (.sh .shl .u64 (.var 1) (.lit 56))) (.lit 56)))) (.lit 0)) (.lit 1)) (.lit 0)) (.lit 1))) (IE.ev (rho (x % 256) (y % 256) x y) (.sh .shl .u64 (.bin .add .u64 (.bin .add .u64 (.bin .add .u64 (.bin .add .u64 (.cv .u64 (.sh .shr .i64 (.sh .shr .i64 (.cv .i64 (.sh .shl .u64 (.var 0) (.lit 56))) (.lit 56)) (.lit 63))) (.cv .u64 (.sh .shr .i64 (.sh .shr .i64 (.cv .i64 (.sh .shl .u64 (.var 1) (.lit 56))) (.lit 56)) (.lit 63)))) (.tri 0 (.cv .u64 (.sh .shr .i64 (.cv .i64 (.sh .shl .u64 (.var 0) (.lit 56))) (.lit 56))) (.cv .u64 (.sh .shr .i64 (.cv .i64 (.sh .shl .u64 (.var 1) (.lit 56))) (.lit 56))) (.lit 0))) (.lit 0)) (.tri 0 (.bin .add .u64 (.bin .add .u64 (.cv .u64 (.sh .shr .i64 (.cv .i64 (.sh .shl .u64 (.var 0) (.lit 56))) (.lit 56))) (.cv .u64 (.sh .shr .i64 (.cv .i64 (.sh .shl .u64 (.var 1) (.lit 56))) (.lit 56)))) (.lit 0)) (.lit 1) (.lit 0))) (.lit 63))) (by (simp (disch := omega) only [↓a3, ↓a10, IE.ev, shr_u64_1, ev_add, wrapu_id] <;> try simp only [wrap_i64, wrap_u64]) <;> omega) (by (simp (disch := omega) only [↓a3, ↓a10, IE.ev, shr_u64_1, ev_add, wrapu_id] <;> try simp only [wrap_i64, wrap_u64]) <;> omega) (by (simp (disch := omega) only [↓a1, ↓a3, ↓a7, ↓a10, IE.ev, shl_u64_63, ev_add, tri0, wrapu_id] <;> try simp only [wrap_u64]) <;> omega) (by (simp (disch := omega) only [↓a1, ↓a3, ↓a7, ↓a10, IE.ev, shl_u64_63, ev_add, tri0, wrapu_id] <;> try simp only [wrap_u64]) <;> omega) (by (simp (disch := omega) only [↓a1, ↓a3, ↓a7, ↓a10, IE.ev, shl_u64_63, ev_add, tri0, wrapu_id] <;> try simp only [wrap_u64]) <;> omega)
            have o2 : IE.ev (rho (x % 256) (y % 256) x y) (.sh .shr .u64 (.sh .shl .u64 (.bin .or .u64 (.sh .shr .u64 (.bin .add .u64 (.bin .add .u64 (.bin .add .u64 (.bin .add .u64 (.cv .u64 (.sh .shr .i64 (.cv .i64 (.sh .shl .u64 (.var 0) (.lit 56))) (.lit 56))) (.cv .u64 (.sh .shr .i64 (.cv .i64 (.sh .shl .u64 (.var 1) (.lit 56))) (.lit 56)))) (.lit 0)) (.lit 1)) (.lit 0)) (.lit 1)) (.sh .shl .u64 (.bin .add .u64 (.bin .add .u64 (.bin .add .u64 (.bin .add .u64 (.cv .u64 (.sh .shr .i64 (.sh .shr .i64 (.cv .i64 (.sh .shl .u64 (.var 0) (.lit 56))) (.lit 56)) (.lit 63))) (.cv .u64 (.sh .shr .i64 (.sh .shr .i64 (.cv .i64 (.sh .shl .u64 (.var 1) (.lit 56))) (.lit 56)) (.lit 63)))) (.tri 0 (.cv .u64 (.sh .shr .i64 (.cv .i64 (.sh .shl .u64 (.var 0) (.lit 56))) (.lit 56))) (.cv .u64 (.sh .shr .i64 (.cv .i64 (.sh .shl .u64 (.var 1) (.lit 56))) (.lit 56))) (.lit 0))) (.lit 0)) (.tri 0 (.bin .add .u64 (.bin .add .u64 (.cv .u64 (.sh .shr .i64 (.cv .i64 (.sh .shl .u64 (.var 0) (.lit 56))) (.lit 56))) (.cv .u64 (.sh .shr .i64 (.cv .i64 (.sh .shl .u64 (.var 1) (.lit 56))) (.lit 56)))) (.lit 0)) (.lit 1) (.lit 0))) (.lit 63))) (.lit 56)) (.lit 56)) = binI .or .u64 (IE.ev (rho (x % 256) (y % 256) x y) (.sh .shr .u64 (.bin .add .u64 (.bin .add .u64 (.bin .add .u64 (.bin .add .u64 (.cv .u64 (.sh .shr .i64 (.cv .i64 (.sh .shl .u64 (.var 0) (.lit 56))) (.lit 56))) (.cv .u64 (.sh .shr .i64 (.cv .i64 (.sh .shl .u64 (.var 1) (.lit 56))) (.lit 56)))) (.lit 0)) (.lit 1)) (.lit 0)) (.lit 1))) (IE.ev (rho (x % 256) (y % 256) x y) (.sh .shl .u64 (.bin .add .u64 (.bin .add .u64 (.bin .add .u64 (.bin .add .u64 (.cv .u64 (.sh .shr .i64 (.sh .shr .i64 (.cv .i64 (.sh .shl .u64 (.var 0) (.lit 56))) (.lit 56)) (.lit 63))) (.cv .u64 (.sh .shr .i64 (.sh .shr .i64 (.cv .i64 (.sh .shl .u64 (.var 1) (.lit 56))) (.lit 56)) (.lit 63)))) (.tri 0 (.cv .u64 (.sh .shr .i64 (.cv .i64 (.sh .shl .u64 (.var 0) (.lit 56))) (.lit 56))) (.cv .u64 (.sh .shr .i64 (.cv .i64 (.sh .shl .u64 (.var 1) (.lit 56))) (.lit 56))) (.lit 0))) (.lit 0)) (.tri 0 (.bin .add .u64 (.bin .add .u64 (.cv .u64 (.sh .shr .i64 (.cv .i64 (.sh .shl .u64 (.var 0) (.lit 56))) (.lit 56))) (.cv .u64 (.sh .shr .i64 (.cv .i64 (.sh .shl .u64 (.var 1) (.lit 56))) (.lit 56)))) (.lit 0)) (.lit 1) (.lit 0))) (.lit 63))) % 256 := by
              show shI .shr .u64 (shI .shl .u64 (binI .or .u64 (IE.ev (rho (x % 256) (y % 256) x y) (.sh .shr .u64 (.bin .add .u64 (.bin .add .u64 (.bin .add .u64 (.bin .add .u64 (.cv .u64 (.sh .shr .i64 (.cv .i64 (.sh .shl .u64 (.var 0) (.lit 56))) (.lit 56))) (.cv .u64 (.sh .shr .i64 (.cv .i64 (.sh .shl .u64 (.var 1) (.lit 56))) (.lit 56)))) (.lit 0)) (.lit 1)) (.lit 0)) (.lit 1))) (IE.ev (rho (x % 256) (y % 256) x y) (.sh .shl .u64 (.bin .add .u64 (.bin .add .u64 (.bin .add .u64 (.bin .add .u64 (.cv .u64 (.sh .shr .i64 (.sh .shr .i64 (.cv .i64 (.sh .shl .u64 (.var 0) (.lit 56))) (.lit 56)) (.lit 63))) (.cv .u64 (.sh .shr .i64 (.sh .shr .i64 (.cv .i64 (.sh .shl .u64 (.var 1) (.lit 56))) (.lit 56)) (.lit 63)))) (.tri 0 (.cv .u64 (.sh .shr .i64 (.cv .i64 (.sh .shl .u64 (.var 0) (.lit 56))) (.lit 56))) (.cv .u64 (.sh .shr .i64 (.cv .i64 (.sh .shl .u64 (.var 1) (.lit 56))) (.lit 56))) (.lit 0))) (.lit 0)) (.tri 0 (.bin .add .u64 (.bin .add .u64 (.cv .u64 (.sh .shr .i64 (.cv .i64 (.sh .shl .u64 (.var 0) (.lit 56))) (.lit 56))) (.cv .u64 (.sh .shr .i64 (.cv .i64 (.sh .shl .u64 (.var 1) (.lit 56))) (.lit 56)))) (.lit 0)) (.lit 1) (.lit 0))) (.lit 63)))) 56) 56 = _
              simp only [shr_u64_56, shl_u64_56, wrap_u64]
              omega
            rw [o2, o1]
            (simp (disch := omega) only [↓a3, ↓a10, IE.ev, rho_2, rho_3, shr_u64_1, ev_add, ev_sub, qi_n, wrapi_id, wrapu_id] <;> try simp only [wrap_i64, wrap_u64]) <;> omega
        · have c6' := c6
          try (simp (disch := omega) only [IE.ev, rho_2, rho_3, ev_add, ri_n, wrapi_id] at c6' <;> try simp only [wrap_i64, wrap_u64] at c6')
          have hL : ∀ f ∈ L_5_20_1, f.ok (rho (x % 256) (y % 256) x y) := by
            intro f hf
            simp only [L_5_20_1, List.mem_cons, List.not_mem_nil, or_false] at hf
            rcases hf with rfl | rfl | rfl | rfl | rfl | rfl | rfl
            · exact ⟨rfl, cmp_eql_t (by (simp (disch := omega) only [↓a5, IE.ev, shr_u64_8] <;> try simp only [wrap_i64, wrap_u64]) <;> omega)⟩
            · exact ⟨rfl, cmp_eql_t (by (simp (disch := omega) only [↓a12, IE.ev, shr_u64_8] <;> try simp only [wrap_i64, wrap_u64]) <;> omega)⟩
            · exact ⟨rfl, cmp_geq_t (by (simp (disch := omega) only [↓a3, ↓a10, IE.ev, tri0] <;> try simp only [wrap_i64, wrap_u64]) <;> omega)⟩
            · exact ⟨rfl, cmp_leq_t (by (simp (disch := omega) only [↓a3, ↓a10, IE.ev, tri0] <;> try simp only [wrap_i64, wrap_u64]) <;> omega)⟩
            · exact ⟨rfl, cmp_geq_t (by (simp (disch := omega) only [↓a3, ↓a10, IE.ev, ev_add, tri0, wrapu_id] <;> try simp only [wrap_i64, wrap_u64]) <;> omega)⟩
            · exact ⟨rfl, cmp_leq_t (by (simp (disch := omega) only [↓a3, ↓a10, IE.ev, ev_add, tri0, wrapu_id] <;> try simp only [wrap_i64, wrap_u64]) <;> omega)⟩
            · exact ⟨rfl, cmp_lss_n c6⟩
          have ht : toldI 20 y = true := by simp [toldI]
          refine ⟨(IE.ev (rho (x % 256) (y % 256) x y) (.sh .shr .u64 (.sh .shl .u64 (.bin .or .u64 (.sh .shr .u64 (.bin .add .u64 (.bin .add .u64 (.bin .add .u64 (.bin .add .u64 (.cv .u64 (.sh .shr .i64 (.cv .i64 (.sh .shl .u64 (.var 0) (.lit 56))) (.lit 56))) (.cv .u64 (.sh .shr .i64 (.cv .i64 (.sh .shl .u64 (.var 1) (.lit 56))) (.lit 56)))) (.lit 0)) (.lit 1)) (.lit 0)) (.lit 1)) (.sh .shl .u64 (.bin .add .u64 (.bin .add .u64 (.bin .add .u64 (.bin .add .u64 (.cv .u64 (.sh .shr .i64 (.sh .shr .i64 (.cv .i64 (.sh .shl .u64 (.var 0) (.lit 56))) (.lit 56)) (.lit 63))) (.cv .u64 (.sh .shr .i64 (.sh .shr .i64 (.cv .i64 (.sh .shl .u64 (.var 1) (.lit 56))) (.lit 56)) (.lit 63)))) (.tri 0 (.cv .u64 (.sh .shr .i64 (.cv .i64 (.sh .shl .u64 (.var 0) (.lit 56))) (.lit 56))) (.cv .u64 (.sh .shr .i64 (.cv .i64 (.sh .shl .u64 (.var 1) (.lit 56))) (.lit 56))) (.lit 0))) (.lit 0)) (.tri 0 (.bin .add .u64 (.bin .add .u64 (.cv .u64 (.sh .shr .i64 (.cv .i64 (.sh .shl .u64 (.var 0) (.lit 56))) (.lit 56))) (.cv .u64 (.sh .shr .i64 (.cv .i64 (.sh .shl .u64 (.var 1) (.lit 56))) (.lit 56)))) (.lit 0)) (.lit 1) (.lit 0))) (.lit 63))) (.lit 56)) (.lit 56))), (IE.ev (rho (x % 256) (y % 256) x y) (.bin .quo .i64 (.bin .add .i64 (.bin .add .i64 (.var 2) (.var 3)) (.lit 1)) (.lit 2))), fun w hG => ⟨calls_sym hL (run_5_20_1 _ aR aS) List.mem_cons_self rfl rfl rfl rfl hG, ?_⟩, ?_⟩
          · rw [ht]
            exact calls_sym hL (run_5_20_1 _ aR aS) (List.mem_cons_of_mem _ List.mem_cons_self) rfl rfl rfl rfl hG
          · intro _
            clear hL
            unfold clampI
            rw [if_neg (by decide)]
            have o1 := or63 (IE.ev (rho (x % 256) (y % 256) x y) (.sh .shr .u64 (.bin .add .u64 (.bin .add .u64 (.bin .add .u64 (.bin .add .u64 (.cv .u64 (.sh .shr .i64 (.cv .i64 (.sh .shl .u64 (.var 0) (.lit 56))) (.lit 56))) (.cv .u64 (.sh .shr .i64 (.cv .i64 (.sh .shl .u64 (.var 1) (.lit 56))) (.lit 56)))) (.lit 0)) (.lit 1)) (.lit 0)) (.lit 1))) (IE.ev (rho (x % 256) (y % 256) x y) (.sh .shl .u64 (.bin .add .u64 (.bin .add .u64 (.bin .add .u64 (.bin .add .u64 (.cv .u64 (.sh .shr .i64 (.sh .shr .i64 (.cv .i64 (.sh .shl .u64 (.var 0) (.lit 56))) (.lit 56)) (.lit 63))) (.cv .u64 (.sh .shr .i64 (.sh .shr .i64 (.cv .i64 (.sh .shl .u64 (.var 1) (.lit 56))) (.lit 56)) (.lit 63)))) (.tri 0 (.cv .u64 (.sh .shr .i64 (.cv .i64 (.sh .shl .u64 (.var 0) (.lit 56))) (.lit 56))) (.cv .u64 (.sh .shr .i64 (.cv .i64 (.sh .shl .u64 (.var 1) (.lit 56))) (.lit 56))) (.lit 0))) (.lit 0)) (.tri 0 (.bin .add .u64 (.bin .add .u64 (.cv .u64 (.sh .shr .i64 (.cv .i64 (.sh .shl .u64 (.var 0) (.lit 56))) (.lit 56))) (.cv .u64 (.sh .shr .i64 (.cv .i64 (.sh .shl .u64 (.var 1) (.lit 56))) (.lit 56)))) (.lit 0)) (.lit 1) (.lit 0))) (.lit 63))) (by (simp (disch := omega) only [↓a3, ↓a10, IE.ev, shr_u64_1, ev_add, wrapu_id] <;> try simp only [wrap_i64, wrap_u64]) <;> omega) (by (simp (disch := omega) only [↓a3, ↓a10, IE.ev, shr_u64_1, ev_add, wrapu_id] <;> try simp only [wrap_i64, wrap_u64]) <;> omega) (by (simp (disch := omega) only [↓a1, ↓a3, ↓a7, ↓a10, IE.ev, shl_u64_63, ev_add, tri0, wrapu_id] <;> try simp only [wrap_u64]) <;> omega) (by (simp (disch := omega) only [↓a1, ↓a3, ↓a7, ↓a10, IE.ev, shl_u64_63, ev_add, tri0, wrapu_id] <;> try simp only [wrap_u64]) <;> omega) (by (simp (disch := omega) only [↓a1, ↓a3, ↓a7, ↓a10, IE.ev, shl_u64_63, ev_add, tri0, wrapu_id] <;> try simp only [wrap_u64]) <;> omega)
            have o2 : IE.ev (rho (x % 256) (y % 256) x y) (.sh .shr .u64 (.sh .shl .u64 (.bin .or .u64 (.sh .shr .u64 (.bin .add .u64 (.bin .add .u64 (.bin .add .u64 (.bin .add .u64 (.cv .u64 (.sh .shr .i64 (.cv .i64 (.sh .shl .u64 (.var 0) (.lit 56))) (.lit 56))) (.cv .u64 (.sh .shr .i64 (.cv .i64 (.sh .shl .u64 (.var 1) (.lit 56))) (.lit 56)))) (.lit 0)) (.lit 1)) (.lit 0)) (.lit 1)) (.sh .shl .u64 (.bin .add .u64 (.bin .add .u64 (.bin .add .u64 (.bin .add .u64 (.cv .u64 (.sh .shr .i64 (.sh .shr .i64 (.cv .i64 (.sh .shl .u64 (.var 0) (.lit 56))) (.lit 56)) (.lit 63))) (.cv .u64 (.sh .shr .i64 (.sh .shr .i64 (.cv .i64 (.sh .shl .u64 (.var 1) (.lit 56))) (.lit 56)) (.lit 63)))) (.tri 0 (.cv .u64 (.sh .shr .i64 (.cv .i64 (.sh .shl .u64 (.var 0) (.lit 56))) (.lit 56))) (.cv .u64 (.sh .shr .i64 (.cv .i64 (.sh .shl .u64 (.var 1) (.lit 56))) (.lit 56))) (.lit 0))) (.lit 0)) (.tri 0 (.bin .add .u64 (.bin .add .u64 (.cv .u64 (.sh .shr .i64 (.cv .i64 (.sh .shl .u64 (.var 0) (.lit 56))) (.lit 56))) (.cv .u64 (.sh .shr .i64 (.cv .i64 (.sh .shl .u64 (.var 1) (.lit 56))) (.lit 56)))) (.lit 0)) (.lit 1) (.lit 0))) (.lit 63))) (.lit 56)) (.lit 56)) = binI .or .u64 (IE.ev (rho (x % 256) (y % 256) x y) (.sh .shr .u64 (.bin .add .u64 (.bin .add .u64 (.bin .add .u64 (.bin .add .u64 (.cv .u64 (.sh .shr .i64 (.cv .i64 (.sh .shl .u64 (.var 0) (.lit 56))) (.lit 56))) (.cv .u64 (.sh .shr .i64 (.cv .i64 (.sh .shl .u64 (.var 1) (.lit 56))) (.lit 56)))) (.lit 0)) (.lit 1)) (.lit 0)) (.lit 1))) (IE.ev (rho (x % 256) (y % 256) x y) (.sh .shl .u64 (.bin .add .u64 (.bin .add .u64 (.bin .add .u64 (.bin .add .u64 (.cv .u64 (.sh .shr .i64 (.sh .shr .i64 (.cv .i64 (.sh .shl .u64 (.var 0) (.lit 56))) (.lit 56)) (.lit 63))) (.cv .u64 (.sh .shr .i64 (.sh .shr .i64 (.cv .i64 (.sh .shl .u64 (.var 1) (.lit 56))) (.lit 56)) (.lit 63)))) (.tri 0 (.cv .u64 (.sh .shr .i64 (.cv .i64 (.sh .shl .u64 (.var 0) (.lit 56))) (.lit 56))) (.cv .u64 (.sh .shr .i64 (.cv .i64 (.sh .shl .u64 (.var 1) (.lit 56))) (.lit 56))) (.lit 0))) (.lit 0)) (.tri 0 (.bin .add .u64 (.bin .add .u64 (.cv .u64 (.sh .shr .i64 (.cv .i64 (.sh .shl .u64 (.var 0) (.lit 56))) (.lit 56))) (.cv .u64 (.sh .shr .i64 (.cv .i64 (.sh .shl .u64 (.var 1) (.lit 56))) (.lit 56)))) (.lit 0)) (.lit 1) (.lit 0))) (.lit 63))) % 256 := by
              show shI .shr .u64 (shI .shl .u64 (binI .or .u64 (IE.ev (rho (x % 256) (y % 256) x y) (.sh .shr .u64 (.bin .add .u64 (.bin .add .u64 (.bin .add .u64 (.bin .add .u64 (.cv .u64 (.sh .shr .i64 (.cv .i64 (.sh .shl .u64 (.var 0) (.lit 56))) (.lit 56))) (.cv .u64 (.sh .shr .i64 (.cv .i64 (.sh .shl .u64 (.var 1) (.lit 56))) (.lit 56)))) (.lit 0)) (.lit 1)) (.lit 0)) (.lit 1))) (IE.ev (rho (x % 256) (y % 256) x y) (.sh .shl .u64 (.bin .add .u64 (.bin .add .u64 (.bin .add .u64 (.bin .add .u64 (.cv .u64 (.sh .shr .i64 (.sh .shr .i64 (.cv .i64 (.sh .shl .u64 (.var 0) (.lit 56))) (.lit 56)) (.lit 63))) (.cv .u64 (.sh .shr .i64 (.sh .shr .i64 (.cv .i64 (.sh .shl .u64 (.var 1) (.lit 56))) (.lit 56)) (.lit 63)))) (.tri 0 (.cv .u64 (.sh .shr .i64 (.cv .i64 (.sh .shl .u64 (.var 0) (.lit 56))) (.lit 56))) (.cv .u64 (.sh .shr .i64 (.cv .i64 (.sh .shl .u64 (.var 1) (.lit 56))) (.lit 56))) (.lit 0))) (.lit 0)) (.tri 0 (.bin .add .u64 (.bin .add .u64 (.cv .u64 (.sh .shr .i64 (.cv .i64 (.sh .shl .u64 (.var 0) (.lit 56))) (.lit 56))) (.cv .u64 (.sh .shr .i64 (.cv .i64 (.sh .shl .u64 (.var 1) (.lit 56))) (.lit 56)))) (.lit 0)) (.lit 1) (.lit 0))) (.lit 63)))) 56) 56 = _
              simp only [shr_u64_56, shl_u64_56, wrap_u64]
              omega
            rw [o2, o1]
            (simp (disch := omega) only [↓a3, ↓a10, IE.ev, rho_2, rho_3, shr_u64_1, ev_add, qi_n, wrapi_id, wrapu_id] <;> try simp only [wrap_i64, wrap_u64]) <;> omega
      · skip
        by_cases c6 : IE.ev (rho (x % 256) (y % 256) x y) (.bin .rem .i64 (.bin .add .i64 (.bin .add .i64 (.var 2) (.var 3)) (.lit 1)) (.lit 2)) < IE.ev (rho (x % 256) (y % 256) x y) (.lit 0)
        · have c6' := c6
          try (simp (disch := omega) only [IE.ev, rho_2, rho_3, ev_add, ri_p, wrapi_id] at c6' <;> try simp only [wrap_i64, wrap_u64] at c6')
          have hL : ∀ f ∈ L_5_20_0, f.ok (rho (x % 256) (y % 256) x y) := by
            intro f hf
            simp only [L_5_20_0, List.mem_cons, List.not_mem_nil, or_false] at hf
            rcases hf with rfl | rfl | rfl | rfl | rfl | rfl | rfl
            · exact ⟨rfl, cmp_eql_t (by (simp (disch := omega) only [↓a5, IE.ev, shr_u64_8] <;> try simp only [wrap_i64, wrap_u64]) <;> omega)⟩
            · exact ⟨rfl, cmp_eql_t (by (simp (disch := omega) only [↓a12, IE.ev, shr_u64_8] <;> try simp only [wrap_i64, wrap_u64]) <;> omega)⟩
            · exact ⟨rfl, cmp_geq_t (by (simp (disch := omega) only [↓a3, ↓a10, IE.ev, tri0] <;> try simp only [wrap_i64, wrap_u64]) <;> omega)⟩
            · exact ⟨rfl, cmp_leq_t (by (simp (disch := omega) only [↓a3, ↓a10, IE.ev, tri0] <;> try simp only [wrap_i64, wrap_u64]) <;> omega)⟩
            · exact ⟨rfl, cmp_geq_t (by (simp (disch := omega) only [↓a3, ↓a10, IE.ev, ev_add, tri0, wrapu_id] <;> try simp only [wrap_i64, wrap_u64]) <;> omega)⟩
            · exact ⟨rfl, cmp_leq_t (by (simp (disch := omega) only [↓a3, ↓a10, IE.ev, ev_add, tri0, wrapu_id] <;> try simp only [wrap_i64, wrap_u64]) <;> omega)⟩
            · exact ⟨rfl, cmp_lss_t c6⟩
          have ht : toldI 20 y = true := by simp [toldI]
          refine ⟨(IE.ev (rho (x % 256) (y % 256) x y) (.sh .shr .u64 (.sh .shl .u64 (.bin .or .u64 (.sh .shr .u64 (.bin .add .u64 (.bin .add .u64 (.bin .add .u64 (.bin .add .u64 (.cv .u64 (.sh .shr .i64 (.cv .i64 (.sh .shl .u64 (.var 0) (.lit 56))) (.lit 56))) (.cv .u64 (.sh .shr .i64 (.cv .i64 (.sh .shl .u64 (.var 1) (.lit 56))) (.lit 56)))) (.lit 0)) (.lit 1)) (.lit 0)) (.lit 1)) (.sh .shl .u64 (.bin .add .u64 (.bin .add .u64 (.bin .add .u64 (.bin .add .u64 (.cv .u64 (.sh .shr .i64 (.sh .shr .i64 (.cv .i64 (.sh .shl .u64 (.var 0) (.lit 56))) (.lit 56)) (.lit 63))) (.cv .u64 (.sh .shr .i64 (.sh .shr .i64 (.cv .i64 (.sh .shl .u64 (.var 1) (.lit 56))) (.lit 56)) (.lit 63)))) (.tri 0 (.cv .u64 (.sh .shr .i64 (.cv .i64 (.sh .shl .u64 (.var 0) (.lit 56))) (.lit 56))) (.cv .u64 (.sh .shr .i64 (.cv .i64 (.sh .shl .u64 (.var 1) (.lit 56))) (.lit 56))) (.lit 0))) (.lit 0)) (.tri 0 (.bin .add .u64 (.bin .add .u64 (.cv .u64 (.sh .shr .i64 (.cv .i64 (.sh .shl .u64 (.var 0) (.lit 56))) (.lit 56))) (.cv .u64 (.sh .shr .i64 (.cv .i64 (.sh .shl .u64 (.var 1) (.lit 56))) (.lit 56)))) (.lit 0)) (.lit 1) (.lit 0))) (.lit 63))) (.lit 56)) (.lit 56))), (IE.ev (rho (x % 256) (y % 256) x y) (.bin .sub .i64 (.bin .quo .i64 (.bin .add .i64 (.bin .add .i64 (.var 2) (.var 3)) (.lit 1)) (.lit 2)) (.lit 1))), fun w hG => ⟨calls_sym hL (run_5_20_0 _ aR aS) List.mem_cons_self rfl rfl rfl rfl hG, ?_⟩, ?_⟩
          · rw [ht]
            exact calls_sym hL (run_5_20_0 _ aR aS) (List.mem_cons_of_mem _ List.mem_cons_self) rfl rfl rfl rfl hG
          · intro _
            clear hL
            unfold clampI
            rw [if_neg (by decide)]
            have o1 := or63 (IE.ev (rho (x % 256) (y % 256) x y) (.sh .shr .u64 (.bin .add .u64 (.bin .add .u64 (.bin .add .u64 (.bin .add .u64 (.cv .u64 (.sh .shr .i64 (.cv .i64 (.sh .shl .u64 (.var 0) (.lit 56))) (.lit 56))) (.cv .u64 (.sh .shr .i64 (.cv .i64 (.sh .shl .u64 (.var 1) (.lit 56))) (.lit 56)))) (.lit 0)) (.lit 1)) (.lit 0)) (.lit 1))) (IE.ev (rho (x % 256) (y % 256) x y) (.sh .shl .u64 (.bin .add .u64 (.bin .add .u64 (.bin .add .u64 (.bin .add .u64 (.cv .u64 (.sh .shr .i64 (.sh .shr .i64 (.cv .i64 (.sh .shl .u64 (.var 0) (.lit 56))) (.lit 56)) (.lit 63))) (.cv .u64 (.sh .shr .i64 (.sh .shr .i64 (.cv .i64 (.sh .shl .u64 (.var 1) (.lit 56))) (.lit 56)) (.lit 63)))) (.tri 0 (.cv .u64 (.sh .shr .i64 (.cv .i64 (.sh .shl .u64 (.var 0) (.lit 56))) (.lit 56))) (.cv .u64 (.sh .shr .i64 (.cv .i64 (.sh .shl .u64 (.var 1) (.lit 56))) (.lit 56))) (.lit 0))) (.lit 0)) (.tri 0 (.bin .add .u64 (.bin .add .u64 (.cv .u64 (.sh .shr .i64 (.cv .i64 (.sh .shl .u64 (.var 0) (.lit 56))) (.lit 56))) (.cv .u64 (.sh .shr .i64 (.cv .i64 (.sh .shl .u64 (.var 1) (.lit 56))) (.lit 56)))) (.lit 0)) (.lit 1) (.lit 0))) (.lit 63))) (by (simp (disch := omega) only [↓a3, ↓a10, IE.ev, shr_u64_1, ev_add, wrapu_id] <;> try simp only [wrap_i64, wrap_u64]) <;> omega) (by (simp (disch := omega) only [↓a3, ↓a10, IE.ev, shr_u64_1, ev_add, wrapu_id] <;> try simp only [wrap_i64, wrap_u64]) <;> omega) (by (simp (disch := omega) only [↓a1, ↓a3, ↓a7, ↓a10, IE.ev, shl_u64_63, ev_add, tri0, wrapu_id] <;> try simp only [wrap_i64, wrap_u64]) <;> omega) (by (simp (disch := omega) only [↓a1, ↓a3, ↓a7, ↓a10, IE.ev, shl_u64_63, ev_add, tri0, wrapu_id] <;> try simp only [wrap_i64, wrap_u64]) <;> omega) (by (simp (disch := omega) only [↓a1, ↓a3, ↓a7, ↓a10, IE.ev, shl_u64_63, ev_add, tri0, wrapu_id] <;> try simp only [wrap_i64, wrap_u64]) <;> omega)
            have o2 : IE.ev (rho (x % 256) (y % 256) x y) (.sh .shr .u64 (.sh .shl .u64 (.bin .or .u64 (.sh .shr .u64 (.bin .add .u64 (.bin .add .u64 (.bin .add .u64 (.bin .add .u64 (.cv .u64 (.sh .shr .i64 (.cv .i64 (.sh .shl .u64 (.var 0) (.lit 56))) (.lit 56))) (.cv .u64 (.sh .shr .i64 (.cv .i64 (.sh .shl .u64 (.var 1) (.lit 56))) (.lit 56)))) (.lit 0)) (.lit 1)) (.lit 0)) (.lit 1)) (.sh .shl .u64 (.bin .add .u64 (.bin .add .u64 (.bin .add .u64 (.bin .add .u64 (.cv .u64 (.sh .shr .i64 (.sh .shr .i64 (.cv .i64 (.sh .shl .u64 (.var 0) (.lit 56))) (.lit 56)) (.lit 63))) (.cv .u64 (.sh .shr .i64 (.sh .shr .i64 (.cv .i64 (.sh .shl .u64 (.var 1) (.lit 56))) (.lit 56)) (.lit 63)))) (.tri 0 (.cv .u64 (.sh .shr .i64 (.cv .i64 (.sh .shl .u64 (.var 0) (.lit 56))) (.lit 56))) (.cv .u64 (.sh .shr .i64 (.cv .i64 (.sh .shl .u64 (.var 1) (.lit 56))) (.lit 56))) (.lit 0))) (.lit 0)) (.tri 0 (.bin .add .u64 (.bin .add .u64 (.cv .u64 (.sh .shr .i64 (.cv .i64 (.sh .shl .u64 (.var 0) (.lit 56))) (.lit 56))) (.cv .u64 (.sh .shr .i64 (.cv .i64 (.sh .shl .u64 (.var 1) (.lit 56))) (.lit 56)))) (.lit 0)) (.lit 1) (.lit 0))) (.lit 63))) (.lit 56)) (.lit 56)) = binI .or .u64 (IE.ev (rho (x % 256) (y % 256) x y) (.sh .shr .u64 (.bin .add .u64 (.bin .add .u64 (.bin .add .u64 (.bin .add .u64 (.cv .u64 (.sh .shr .i64 (.cv .i64 (.sh .shl .u64 (.var 0) (.lit 56))) (.lit 56))) (.cv .u64 (.sh .shr .i64 (.cv .i64 (.sh .shl .u64 (.var 1) (.lit 56))) (.lit 56)))) (.lit 0)) (.lit 1)) (.lit 0)) (.lit 1))) (IE.ev (rho (x % 256) (y % 256) x y) (.sh .shl .u64 (.bin .add .u64 (.bin .add .u64 (.bin .add .u64 (.bin .add .u64 (.cv .u64 (.sh .shr .i64 (.sh .shr .i64 (.cv .i64 (.sh .shl .u64 (.var 0) (.lit 56))) (.lit 56)) (.lit 63))) (.cv .u64 (.sh .shr .i64 (.sh .shr .i64 (.cv .i64 (.sh .shl .u64 (.var 1) (.lit 56))) (.lit 56)) (.lit 63)))) (.tri 0 (.cv .u64 (.sh .shr .i64 (.cv .i64 (.sh .shl .u64 (.var 0) (.lit 56))) (.lit 56))) (.cv .u64 (.sh .shr .i64 (.cv .i64 (.sh .shl .u64 (.var 1) (.lit 56))) (.lit 56))) (.lit 0))) (.lit 0)) (.tri 0 (.bin .add .u64 (.bin .add .u64 (.cv .u64 (.sh .shr .i64 (.cv .i64 (.sh .shl .u64 (.var 0) (.lit 56))) (.lit 56))) (.cv .u64 (.sh .shr .i64 (.cv .i64 (.sh .shl .u64 (.var 1) (.lit 56))) (.lit 56)))) (.lit 0)) (.lit 1) (.lit 0))) (.lit 63))) % 256 := by
              show shI .shr .u64 (shI .shl .u64 (binI .or .u64 (IE.ev (rho (x % 256) (y % 256) x y) (.sh .shr .u64 (.bin .add .u64 (.bin .add .u64 (.bin .add .u64 (.bin .add .u64 (.cv .u64 (.sh .shr .i64 (.cv .i64 (.sh .shl .u64 (.var 0) (.lit 56))) (.lit 56))) (.cv .u64 (.sh .shr .i64 (.cv .i64 (.sh .shl .u64 (.var 1) (.lit 56))) (.lit 56)))) (.lit 0)) (.lit 1)) (.lit 0)) (.lit 1))) (IE.ev (rho (x % 256) (y % 256) x y) (.sh .shl .u64 (.bin .add .u64 (.bin .add .u64 (.bin .add .u64 (.bin .add .u64 (.cv .u64 (.sh .shr .i64 (.sh .shr .i64 (.cv .i64 (.sh .shl .u64 (.var 0) (.lit 56))) (.lit 56)) (.lit 63))) (.cv .u64 (.sh .shr .i64 (.sh .shr .i64 (.cv .i64 (.sh .shl .u64 (.var 1) (.lit 56))) (.lit 56)) (.lit 63)))) (.tri 0 (.cv .u64 (.sh .shr .i64 (.cv .i64 (.sh .shl .u64 (.var 0) (.lit 56))) (.lit 56))) (.cv .u64 (.sh .shr .i64 (.cv .i64 (.sh .shl .u64 (.var 1) (.lit 56))) (.lit 56))) (.lit 0))) (.lit 0)) (.tri 0 (.bin .add .u64 (.bin .add .u64 (.cv .u64 (.sh .shr .i64 (.cv .i64 (.sh .shl .u64 (.var 0) (.lit 56))) (.lit 56))) (.cv .u64 (.sh .shr .i64 (.cv .i64 (.sh .shl .u64 (.var 1) (.lit 56))) (.lit 56)))) (.lit 0)) (.lit 1) (.lit 0))) (.lit 63)))) 56) 56 = _
              simp only [shr_u64_56, shl_u64_56, wrap_u64]
              omega
            rw [o2, o1]
            (simp (disch := omega) only [↓a3, ↓a10, IE.ev, rho_2, rho_3, shr_u64_1, ev_add, ev_sub, qi_p, wrapi_id, wrapu_id] <;> try simp only [wrap_i64, wrap_u64]) <;> omega
        · have c6' := c6
          try (simp (disch := omega) only [IE.ev, rho_2, rho_3, ev_add, ri_p, wrapi_id] at c6' <;> try simp only [wrap_i64, wrap_u64] at c6')
          have hL : ∀ f ∈ L_5_20_1, f.ok (rho (x % 256) (y % 256) x y) := by
            intro f hf
            simp only [L_5_20_1, List.mem_cons, List.not_mem_nil, or_false] at hf
            rcases hf with rfl | rfl | rfl | rfl | rfl | rfl | rfl
            · exact ⟨rfl, cmp_eql_t (by (simp (disch := omega) only [↓a5, IE.ev, shr_u64_8] <;> try simp only [wrap_i64, wrap_u64]) <;> omega)⟩
            · exact ⟨rfl, cmp_eql_t (by (simp (disch := omega) only [↓a12, IE.ev, shr_u64_8] <;> try simp only [wrap_i64, wrap_u64]) <;> omega)⟩
            · exact ⟨rfl, cmp_geq_t (by (simp (disch := omega) only [↓a3, ↓a10, IE.ev, tri0] <;> try simp only [wrap_i64, wrap_u64]) <;> omega)⟩
            · exact ⟨rfl, cmp_leq_t (by (simp (disch := omega) only [↓a3, ↓a10, IE.ev, tri0] <;> try simp only [wrap_i64, wrap_u64]) <;> omega)⟩
            · exact ⟨rfl, cmp_geq_t (by (simp (disch := omega) only [↓a3, ↓a10, IE.ev, ev_add, tri0] <;> try simp only [wrap_u64]) <;> omega)⟩
            · exact ⟨rfl, cmp_leq_t (by (simp (disch := omega) only [↓a3, ↓a10, IE.ev, ev_add, tri0] <;> try simp only [wrap_u64]) <;> omega)⟩
            · exact ⟨rfl, cmp_lss_n c6⟩
          have ht : toldI 20 y = true := by simp [toldI]
          refine ⟨(IE.ev (rho (x % 256) (y % 256) x y) (.sh .shr .u64 (.sh .shl .u64 (.bin .or .u64 (.sh .shr .u64 (.bin .add .u64 (.bin .add .u64 (.bin .add .u64 (.bin .add .u64 (.cv .u64 (.sh .shr .i64 (.cv .i64 (.sh .shl .u64 (.var 0) (.lit 56))) (.lit 56))) (.cv .u64 (.sh .shr .i64 (.cv .i64 (.sh .shl .u64 (.var 1) (.lit 56))) (.lit 56)))) (.lit 0)) (.lit 1)) (.lit 0)) (.lit 1)) (.sh .shl .u64 (.bin .add .u64 (.bin .add .u64 (.bin .add .u64 (.bin .add .u64 (.cv .u64 (.sh .shr .i64 (.sh .shr .i64 (.cv .i64 (.sh .shl .u64 (.var 0) (.lit 56))) (.lit 56)) (.lit 63))) (.cv .u64 (.sh .shr .i64 (.sh .shr .i64 (.cv .i64 (.sh .shl .u64 (.var 1) (.lit 56))) (.lit 56)) (.lit 63)))) (.tri 0 (.cv .u64 (.sh .shr .i64 (.cv .i64 (.sh .shl .u64 (.var 0) (.lit 56))) (.lit 56))) (.cv .u64 (.sh .shr .i64 (.cv .i64 (.sh .shl .u64 (.var 1) (.lit 56))) (.lit 56))) (.lit 0))) (.lit 0)) (.tri 0 (.bin .add .u64 (.bin .add .u64 (.cv .u64 (.sh .shr .i64 (.cv .i64 (.sh .shl .u64 (.var 0) (.lit 56))) (.lit 56))) (.cv .u64 (.sh .shr .i64 (.cv .i64 (.sh .shl .u64 (.var 1) (.lit 56))) (.lit 56)))) (.lit 0)) (.lit 1) (.lit 0))) (.lit 63))) (.lit 56)) (.lit 56))), (IE.ev (rho (x % 256) (y % 256) x y) (.bin .quo .i64 (.bin .add .i64 (.bin .add .i64 (.var 2) (.var 3)) (.lit 1)) (.lit 2))), fun w hG => ⟨calls_sym hL (run_5_20_1 _ aR aS) List.mem_cons_self rfl rfl rfl rfl hG, ?_⟩, ?_⟩
          · rw [ht]
            exact calls_sym hL (run_5_20_1 _ aR aS) (List.mem_cons_of_mem _ List.mem_cons_self) rfl rfl rfl rfl hG
          · intro _
            clear hL
            unfold clampI
            rw [if_neg (by decide)]
            have o1 := or63 (IE.ev (rho (x % 256) (y % 256) x y) (.sh .shr .u64 (.bin .add .u64 (.bin .add .u64 (.bin .add .u64 (.bin .add .u64 (.cv .u64 (.sh .shr .i64 (.cv .i64 (.sh .shl .u64 (.var 0) (.lit 56))) (.lit 56))) (.cv .u64 (.sh .shr .i64 (.cv .i64 (.sh .shl .u64 (.var 1) (.lit 56))) (.lit 56)))) (.lit 0)) (.lit 1)) (.lit 0)) (.lit 1))) (IE.ev (rho (x % 256) (y % 256) x y) (.sh .shl .u64 (.bin .add .u64 (.bin .add .u64 (.bin .add .u64 (.bin .add .u64 (.cv .u64 (.sh .shr .i64 (.sh .shr .i64 (.cv .i64 (.sh .shl .u64 (.var 0) (.lit 56))) (.lit 56)) (.lit 63))) (.cv .u64 (.sh .shr .i64 (.sh .shr .i64 (.cv .i64 (.sh .shl .u64 (.var 1) (.lit 56))) (.lit 56)) (.lit 63)))) (.tri 0 (.cv .u64 (.sh .shr .i64 (.cv .i64 (.sh .shl .u64 (.var 0) (.lit 56))) (.lit 56))) (.cv .u64 (.sh .shr .i64 (.cv .i64 (.sh .shl .u64 (.var 1) (.lit 56))) (.lit 56))) (.lit 0))) (.lit 0)) (.tri 0 (.bin .add .u64 (.bin .add .u64 (.cv .u64 (.sh .shr .i64 (.cv .i64 (.sh .shl .u64 (.var 0) (.lit 56))) (.lit 56))) (.cv .u64 (.sh .shr .i64 (.cv .i64 (.sh .shl .u64 (.var 1) (.lit 56))) (.lit 56)))) (.lit 0)) (.lit 1) (.lit 0))) (.lit 63))) (by (simp (disch := omega) only [↓a3, ↓a10, IE.ev, shr_u64_1, ev_add] <;> try simp only [wrap_u64]) <;> omega) (by (simp (disch := omega) only [↓a3, ↓a10, IE.ev, shr_u64_1, ev_add] <;> try simp only [wrap_u64]) <;> omega) (by (simp (disch := omega) only [↓a1, ↓a3, ↓a7, ↓a10, IE.ev, shl_u64_63, ev_add, tri0, wrapu_id] <;> try simp only [wrap_u64]) <;> omega) (by (simp (disch := omega) only [↓a1, ↓a3, ↓a7, ↓a10, IE.ev, shl_u64_63, ev_add, tri0, wrapu_id] <;> try simp only [wrap_u64]) <;> omega) (by (simp (disch := omega) only [↓a1, ↓a3, ↓a7, ↓a10, IE.ev, shl_u64_63, ev_add, tri0, wrapu_id] <;> try simp only [wrap_u64]) <;> omega)
            have o2 : IE.ev (rho (x % 256) (y % 256) x y) (.sh .shr .u64 (.sh .shl .u64 (.bin .or .u64 (.sh .shr .u64 (.bin .add .u64 (.bin .add .u64 (.bin .add .u64 (.bin .add .u64 (.cv .u64 (.sh .shr .i64 (.cv .i64 (.sh .shl .u64 (.var 0) (.lit 56))) (.lit 56))) (.cv .u64 (.sh .shr .i64 (.cv .i64 (.sh .shl .u64 (.var 1) (.lit 56))) (.lit 56)))) (.lit 0)) (.lit 1)) (.lit 0)) (.lit 1)) (.sh .shl .u64 (.bin .add .u64 (.bin .add .u64 (.bin .add .u64 (.bin .add .u64 (.cv .u64 (.sh .shr .i64 (.sh .shr .i64 (.cv .i64 (.sh .shl .u64 (.var 0) (.lit 56))) (.lit 56)) (.lit 63))) (.cv .u64 (.sh .shr .i64 (.sh .shr .i64 (.cv .i64 (.sh .shl .u64 (.var 1) (.lit 56))) (.lit 56)) (.lit 63)))) (.tri 0 (.cv .u64 (.sh .shr .i64 (.cv .i64 (.sh .shl .u64 (.var 0) (.lit 56))) (.lit 56))) (.cv .u64 (.sh .shr .i64 (.cv .i64 (.sh .shl .u64 (.var 1) (.lit 56))) (.lit 56))) (.lit 0))) (.lit 0)) (.tri 0 (.bin .add .u64 (.bin .add .u64 (.cv .u64 (.sh .shr .i64 (.cv .i64 (.sh .shl .u64 (.var 0) (.lit 56))) (.lit 56))) (.cv .u64 (.sh .shr .i64 (.cv .i64 (.sh .shl .u64 (.var 1) (.lit 56))) (.lit 56)))) (.lit 0)) (.lit 1) (.lit 0))) (.lit 63))) (.lit 56)) (.lit 56)) = binI .or .u64 (IE.ev (rho (x % 256) (y % 256) x y) (.sh .shr .u64 (.bin .add .u64 (.bin .add .u64 (.bin .add .u64 (.bin .add .u64 (.cv .u64 (.sh .shr .i64 (.cv .i64 (.sh .shl .u64 (.var 0) (.lit 56))) (.lit 56))) (.cv .u64 (.sh .shr .i64 (.cv .i64 (.sh .shl .u64 (.var 1) (.lit 56))) (.lit 56)))) (.lit 0)) (.lit 1)) (.lit 0)) (.lit 1))) (IE.ev (rho (x % 256) (y % 256) x y) (.sh .shl .u64 (.bin .add .u64 (.bin .add .u64 (.bin .add .u64 (.bin .add .u64 (.cv .u64 (.sh .shr .i64 (.sh .shr .i64 (.cv .i64 (.sh .shl .u64 (.var 0) (.lit 56))) (.lit 56)) (.lit 63))) (.cv .u64 (.sh .shr .i64 (.sh .shr .i64 (.cv .i64 (.sh .shl .u64 (.var 1) (.lit 56))) (.lit 56)) (.lit 63)))) (.tri 0 (.cv .u64 (.sh .shr .i64 (.cv .i64 (.sh .shl .u64 (.var 0) (.lit 56))) (.lit 56))) (.cv .u64 (.sh .shr .i64 (.cv .i64 (.sh .shl .u64 (.var 1) (.lit 56))) (.lit 56))) (.lit 0))) (.lit 0)) (.tri 0 (.bin .add .u64 (.bin .add .u64 (.cv .u64 (.sh .shr .i64 (.cv .i64 (.sh .shl .u64 (.var 0) (.lit 56))) (.lit 56))) (.cv .u64 (.sh .shr .i64 (.cv .i64 (.sh .shl .u64 (.var 1) (.lit 56))) (.lit 56)))) (.lit 0)) (.lit 1) (.lit 0))) (.lit 63))) % 256 := by
              show shI .shr .u64 (shI .shl .u64 (binI .or .u64 (IE.ev (rho (x % 256) (y % 256) x y) (.sh .shr .u64 (.bin .add .u64 (.bin .add .u64 (.bin .add .u64 (.bin .add .u64 (.cv .u64 (.sh .shr .i64 (.cv .i64 (.sh .shl .u64 (.var 0) (.lit 56))) (.lit 56))) (.cv .u64 (.sh .shr .i64 (.cv .i64 (.sh .shl .u64 (.var 1) (.lit 56))) (.lit 56)))) (.lit 0)) (.lit 1)) (.lit 0)) (.lit 1))) (IE.ev (rho (x % 256) (y % 256) x y) (.sh .shl .u64 (.bin .add .u64 (.bin .add .u64 (.bin .add .u64 (.bin .add .u64 (.cv .u64 (.sh .shr .i64 (.sh .shr .i64 (.cv .i64 (.sh .shl .u64 (.var 0) (.lit 56))) (.lit 56)) (.lit 63))) (.cv .u64 (.sh .shr .i64 (.sh .shr .i64 (.cv .i64 (.sh .shl .u64 (.var 1) (.lit 56))) (.lit 56)) (.lit 63)))) (.tri 0 (.cv .u64 (.sh .shr .i64 (.cv .i64 (.sh .shl .u64 (.var 0) (.lit 56))) (.lit 56))) (.cv .u64 (.sh .shr .i64 (.cv .i64 (.sh .shl .u64 (.var 1) (.lit 56))) (.lit 56))) (.lit 0))) (.lit 0)) (.tri 0 (.bin .add .u64 (.bin .add .u64 (.cv .u64 (.sh .shr .i64 (.cv .i64 (.sh .shl .u64 (.var 0) (.lit 56))) (.lit 56))) (.cv .u64 (.sh .shr .i64 (.cv .i64 (.sh .shl .u64 (.var 1) (.lit 56))) (.lit 56)))) (.lit 0)) (.lit 1) (.lit 0))) (.lit 63)))) 56) 56 = _
              simp only [shr_u64_56, shl_u64_56, wrap_u64]
              omega
            rw [o2, o1]
            (simp (disch := omega) only [↓a3, ↓a10, IE.ev, rho_2, rho_3, shr_u64_1, ev_add, qi_p, wrapi_id] <;> try simp only [wrap_u64]) <;> omega
    · have a0 := eix_p x y (by omega) (by omega)
      have a1 := eHx_p x y (by omega) (by omega)
      have a2 := ehx_p x y (by omega) (by omega)
      have a3 := eSx_p x y (by omega) (by omega)
      have a4 := esx_p x y (by omega) (by omega)
      have a5 := eVx_p x y (by omega) (by omega)
      have a6 := eiy_p x y (by omega) (by omega)
      have a7 := eHy_p x y (by omega) (by omega)
      have a8 := ehy_p x y (by omega) (by omega)
      have a9 := eSy_p x y (by omega) (by omega)
      have a10 := esy_p x y (by omega) (by omega)
      have a11 := eVy_p x y (by omega) (by omega)
      rcases Int.lt_or_le (x + y + 1) 0 with hs | hs
      · skip
        by_cases c6 : IE.ev (rho (x % 256) (y % 256) x y) (.bin .rem .i64 (.bin .add .i64 (.bin .add .i64 (.var 2) (.var 3)) (.lit 1)) (.lit 2)) < IE.ev (rho (x % 256) (y % 256) x y) (.lit 0)
        · exact absurd c6 (by (simp (disch := omega) only [IE.ev, rho_2, rho_3, ev_add, ri_p, wrapi_id] <;> try simp only [wrap_i64, wrap_u64]) <;> omega)
        · have c6' := c6
          try (simp (disch := omega) only [IE.ev, rho_2, rho_3, ev_add, ri_p, wrapi_id] at c6' <;> try simp only [wrap_i64, wrap_u64] at c6')
          have hL : ∀ f ∈ L_5_20_1, f.ok (rho (x % 256) (y % 256) x y) := by
            intro f hf
            simp only [L_5_20_1, List.mem_cons, List.not_mem_nil, or_false] at hf
            rcases hf with rfl | rfl | rfl | rfl | rfl | rfl | rfl
            · exact ⟨rfl, cmp_eql_t (by (simp (disch := omega) only [↓a5, IE.ev, shr_u64_8] <;> try simp only [wrap_i64, wrap_u64]) <;> omega)⟩
            · exact ⟨rfl, cmp_eql_t (by (simp (disch := omega) only [↓a11, IE.ev, shr_u64_8] <;> try simp only [wrap_i64, wrap_u64]) <;> omega)⟩
            · exact ⟨rfl, cmp_geq_t (by (simp (disch := omega) only [↓a3, ↓a9, IE.ev, tri0] <;> try simp only [wrap_i64, wrap_u64]) <;> omega)⟩
            · exact ⟨rfl, cmp_leq_t (by (simp (disch := omega) only [↓a3, ↓a9, IE.ev, tri0] <;> try simp only [wrap_i64, wrap_u64]) <;> omega)⟩
            · exact ⟨rfl, cmp_geq_t (by (simp (disch := omega) only [↓a3, ↓a9, IE.ev, ev_add, tri0, wrapu_id] <;> try simp only [wrap_i64, wrap_u64]) <;> omega)⟩
            · exact ⟨rfl, cmp_leq_t (by (simp (disch := omega) only [↓a3, ↓a9, IE.ev, ev_add, tri0, wrapu_id] <;> try simp only [wrap_i64, wrap_u64]) <;> omega)⟩
            · exact ⟨rfl, cmp_lss_n c6⟩
          have ht : toldI 20 y = true := by simp [toldI]
          refine ⟨(IE.ev (rho (x % 256) (y % 256) x y) (.sh .shr .u64 (.sh .shl .u64 (.bin .or .u64 (.sh .shr .u64 (.bin .add .u64 (.bin .add .u64 (.bin .add .u64 (.bin .add .u64 (.cv .u64 (.sh .shr .i64 (.cv .i64 (.sh .shl .u64 (.var 0) (.lit 56))) (.lit 56))) (.cv .u64 (.sh .shr .i64 (.cv .i64 (.sh .shl .u64 (.var 1) (.lit 56))) (.lit 56)))) (.lit 0)) (.lit 1)) (.lit 0)) (.lit 1)) (.sh .shl .u64 (.bin .add .u64 (.bin .add .u64 (.bin .add .u64 (.bin .add .u64 (.cv .u64 (.sh .shr .i64 (.sh .shr .i64 (.cv .i64 (.sh .shl .u64 (.var 0) (.lit 56))) (.lit 56)) (.lit 63))) (.cv .u64 (.sh .shr .i64 (.sh .shr .i64 (.cv .i64 (.sh .shl .u64 (.var 1) (.lit 56))) (.lit 56)) (.lit 63)))) (.tri 0 (.cv .u64 (.sh .shr .i64 (.cv .i64 (.sh .shl .u64 (.var 0) (.lit 56))) (.lit 56))) (.cv .u64 (.sh .shr .i64 (.cv .i64 (.sh .shl .u64 (.var 1) (.lit 56))) (.lit 56))) (.lit 0))) (.lit 0)) (.tri 0 (.bin .add .u64 (.bin .add .u64 (.cv .u64 (.sh .shr .i64 (.cv .i64 (.sh .shl .u64 (.var 0) (.lit 56))) (.lit 56))) (.cv .u64 (.sh .shr .i64 (.cv .i64 (.sh .shl .u64 (.var 1) (.lit 56))) (.lit 56)))) (.lit 0)) (.lit 1) (.lit 0))) (.lit 63))) (.lit 56)) (.lit 56))), (IE.ev (rho (x % 256) (y % 256) x y) (.bin .quo .i64 (.bin .add .i64 (.bin .add .i64 (.var 2) (.var 3)) (.lit 1)) (.lit 2))), fun w hG => ⟨calls_sym hL (run_5_20_1 _ aR aS) List.mem_cons_self rfl rfl rfl rfl hG, ?_⟩, ?_⟩
          · rw [ht]
            exact calls_sym hL (run_5_20_1 _ aR aS) (List.mem_cons_of_mem _ List.mem_cons_self) rfl rfl rfl rfl hG
          · intro _
            clear hL
            unfold clampI
            rw [if_neg (by decide)]
            have o1 := or63 (IE.ev (rho (x % 256) (y % 256) x y) (.sh .shr .u64 (.bin .add .u64 (.bin .add .u64 (.bin .add .u64 (.bin .add .u64 (.cv .u64 (.sh .shr .i64 (.cv .i64 (.sh .shl .u64 (.var 0) (.lit 56))) (.lit 56))) (.cv .u64 (.sh .shr .i64 (.cv .i64 (.sh .shl .u64 (.var 1) (.lit 56))) (.lit 56)))) (.lit 0)) (.lit 1)) (.lit 0)) (.lit 1))) (IE.ev (rho (x % 256) (y % 256) x y) (.sh .shl .u64 (.bin .add .u64 (.bin .add .u64 (.bin .add .u64 (.bin .add .u64 (.cv .u64 (.sh .shr .i64 (.sh .shr .i64 (.cv .i64 (.sh .shl .u64 (.var 0) (.lit 56))) (.lit 56)) (.lit 63))) (.cv .u64 (.sh .shr .i64 (.sh .shr .i64 (.cv .i64 (.sh .shl .u64 (.var 1) (.lit 56))) (.lit 56)) (.lit 63)))) (.tri 0 (.cv .u64 (.sh .shr .i64 (.cv .i64 (.sh .shl .u64 (.var 0) (.lit 56))) (.lit 56))) (.cv .u64 (.sh .shr .i64 (.cv .i64 (.sh .shl .u64 (.var 1) (.lit 56))) (.lit 56))) (.lit 0))) (.lit 0)) (.tri 0 (.bin .add .u64 (.bin .add .u64 (.cv .u64 (.sh .shr .i64 (.cv .i64 (.sh .shl .u64 (.var 0) (.lit 56))) (.lit 56))) (.cv .u64 (.sh .shr .i64 (.cv .i64 (.sh .shl .u64 (.var 1) (.lit 56))) (.lit 56)))) (.lit 0)) (.lit 1) (.lit 0))) (.lit 63))) (by (simp (disch := omega) only [↓a3, ↓a9, IE.ev, shr_u64_1, ev_add, wrapu_id] <;> try simp only [wrap_i64, wrap_u64]) <;> omega) (by (simp (disch := omega) only [↓a3, ↓a9, IE.ev, shr_u64_1, ev_add, wrapu_id] <;> try simp only [wrap_i64, wrap_u64]) <;> omega) (by (simp (disch := omega) only [↓a1, ↓a3, ↓a7, ↓a9, IE.ev, shl_u64_63, ev_add, tri0, wrapu_id] <;> try simp only [wrap_i64, wrap_u64]) <;> omega) (by (simp (disch := omega) only [↓a1, ↓a3, ↓a7, ↓a9, IE.ev, shl_u64_63, ev_add, tri0, wrapu_id] <;> try simp only [wrap_i64, wrap_u64]) <;> omega) (by (simp (disch := omega) only [↓a1, ↓a3, ↓a7, ↓a9, IE.ev, shl_u64_63, ev_add, tri0, wrapu_id] <;> try simp only [wrap_i64, wrap_u64]) <;> omega)
            have o2 : IE.ev (rho (x % 256) (y % 256) x y) (.sh .shr .u64 (.sh .shl .u64 (.bin .or .u64 (.sh .shr .u64 (.bin .add .u64 (.bin .add .u64 (.bin .add .u64 (.bin .add .u64 (.cv .u64 (.sh .shr .i64 (.cv .i64 (.sh .shl .u64 (.var 0) (.lit 56))) (.lit 56))) (.cv .u64 (.sh .shr .i64 (.cv .i64 (.sh .shl .u64 (.var 1) (.lit 56))) (.lit 56)))) (.lit 0)) (.lit 1)) (.lit 0)) (.lit 1)) (.sh .shl .u64 (.bin .add .u64 (.bin .add .u64 (.bin .add .u64 (.bin .add .u64 (.cv .u64 (.sh .shr .i64 (.sh .shr .i64 (.cv .i64 (.sh .shl .u64 (.var 0) (.lit 56))) (.lit 56)) (.lit 63))) (.cv .u64 (.sh .shr .i64 (.sh .shr .i64 (.cv .i64 (.sh .shl .u64 (.var 1) (.lit 56))) (.lit 56)) (.lit 63)))) (.tri 0 (.cv .u64 (.sh .shr .i64 (.cv .i64 (.sh .shl .u64 (.var 0) (.lit 56))) (.lit 56))) (.cv .u64 (.sh .shr .i64 (.cv .i64 (.sh .shl .u64 (.var 1) (.lit 56))) (.lit 56))) (.lit 0))) (.lit 0)) (.tri 0 (.bin .add .u64 (.bin .add .u64 (.cv .u64 (.sh .shr .i64 (.cv .i64 (.sh .shl .u64 (.var 0) (.lit 56))) (.lit 56))) (.cv .u64 (.sh .shr .i64 (.cv .i64 (.sh .shl .u64 (.var 1) (.lit 56))) (.lit 56)))) (.lit 0)) (.lit 1) (.lit 0))) (.lit 63))) (.lit 56)) (.lit 56)) = binI .or .u64 (IE.ev (rho (x % 256) (y % 256) x y) (.sh .shr .u64 (.bin .add .u64 (.bin .add .u64 (.bin .add .u64 (.bin .add .u64 (.cv .u64 (.sh .shr .i64 (.cv .i64 (.sh .shl .u64 (.var 0) (.lit 56))) (.lit 56))) (.cv .u64 (.sh .shr .i64 (.cv .i64 (.sh .shl .u64 (.var 1) (.lit 56))) (.lit 56)))) (.lit 0)) (.lit 1)) (.lit 0)) (.lit 1))) (IE.ev (rho (x % 256) (y % 256) x y) (.sh .shl .u64 (.bin .add .u64 (.bin .add .u64 (.bin .add .u64 (.bin .add .u64 (.cv .u64 (.sh .shr .i64 (.sh .shr .i64 (.cv .i64 (.sh .shl .u64 (.var 0) (.lit 56))) (.lit 56)) (.lit 63))) (.cv .u64 (.sh .shr .i64 (.sh .shr .i64 (.cv .i64 (.sh .shl .u64 (.var 1) (.lit 56))) (.lit 56)) (.lit 63)))) (.tri 0 (.cv .u64 (.sh .shr .i64 (.cv .i64 (.sh .shl .u64 (.var 0) (.lit 56))) (.lit 56))) (.cv .u64 (.sh .shr .i64 (.cv .i64 (.sh .shl .u64 (.var 1) (.lit 56))) (.lit 56))) (.lit 0))) (.lit 0)) (.tri 0 (.bin .add .u64 (.bin .add .u64 (.cv .u64 (.sh .shr .i64 (.cv .i64 (.sh .shl .u64 (.var 0) (.lit 56))) (.lit 56))) (.cv .u64 (.sh .shr .i64 (.cv .i64 (.sh .shl .u64 (.var 1) (.lit 56))) (.lit 56)))) (.lit 0)) (.lit 1) (.lit 0))) (.lit 63))) % 256 := by
              show shI .shr .u64 (shI .shl .u64 (binI .or .u64 (IE.ev (rho (x % 256) (y % 256) x y) (.sh .shr .u64 (.bin .add .u64 (.bin .add .u64 (.bin .add .u64 (.bin .add .u64 (.cv .u64 (.sh .shr .i64 (.cv .i64 (.sh .shl .u64 (.var 0) (.lit 56))) (.lit 56))) (.cv .u64 (.sh .shr .i64 (.cv .i64 (.sh .shl .u64 (.var 1) (.lit 56))) (.lit 56)))) (.lit 0)) (.lit 1)) (.lit 0)) (.lit 1))) (IE.ev (rho (x % 256) (y % 256) x y) (.sh .shl .u64 (.bin .add .u64 (.bin .add .u64 (.bin .add .u64 (.bin .add .u64 (.cv .u64 (.sh .shr .i64 (.sh .shr .i64 (.cv .i64 (.sh .shl .u64 (.var 0) (.lit 56))) (.lit 56)) (.lit 63))) (.cv .u64 (.sh .shr .i64 (.sh .shr .i64 (.cv .i64 (.sh .shl .u64 (.var 1) (.lit 56))) (.lit 56)) (.lit 63)))) (.tri 0 (.cv .u64 (.sh .shr .i64 (.cv .i64 (.sh .shl .u64 (.var 0) (.lit 56))) (.lit 56))) (.cv .u64 (.sh .shr .i64 (.cv .i64 (.sh .shl .u64 (.var 1) (.lit 56))) (.lit 56))) (.lit 0))) (.lit 0)) (.tri 0 (.bin .add .u64 (.bin .add .u64 (.cv .u64 (.sh .shr .i64 (.cv .i64 (.sh .shl .u64 (.var 0) (.lit 56))) (.lit 56))) (.cv .u64 (.sh .shr .i64 (.cv .i64 (.sh .shl .u64 (.var 1) (.lit 56))) (.lit 56)))) (.lit 0)) (.lit 1) (.lit 0))) (.lit 63)))) 56) 56 = _
              simp only [shr_u64_56, shl_u64_56, wrap_u64]
              omega
            rw [o2, o1]
            (simp (disch := omega) only [↓a3, ↓a9, IE.ev, rho_2, rho_3, shr_u64_1, ev_add, qi_p, wrapi_id, wrapu_id] <;> try simp only [wrap_i64, wrap_u64]) <;> omega
      · skip
        by_cases c6 : IE.ev (rho (x % 256) (y % 256) x y) (.bin .rem .i64 (.bin .add .i64 (.bin .add .i64 (.var 2) (.var 3)) (.lit 1)) (.lit 2)) < IE.ev (rho (x % 256) (y % 256) x y) (.lit 0)
        · exact absurd c6 (by (simp (disch := omega) only [IE.ev, rho_2, rho_3, ev_add, ri_p, wrapi_id] <;> try simp only [wrap_i64, wrap_u64]) <;> omega)
        · have c6' := c6
          try (simp (disch := omega) only [IE.ev, rho_2, rho_3, ev_add, ri_p, wrapi_id] at c6' <;> try simp only [wrap_i64, wrap_u64] at c6')
          have hL : ∀ f ∈ L_5_20_1, f.ok (rho (x % 256) (y % 256) x y) := by
            intro f hf
            simp only [L_5_20_1, List.mem_cons, List.not_mem_nil, or_false] at hf
            rcases hf with rfl | rfl | rfl | rfl | rfl | rfl | rfl
            · exact ⟨rfl, cmp_eql_t (by (simp (disch := omega) only [↓a5, IE.ev, shr_u64_8] <;> try simp only [wrap_i64, wrap_u64]) <;> omega)⟩
            · exact ⟨rfl, cmp_eql_t (by (simp (disch := omega) only [↓a11, IE.ev, shr_u64_8] <;> try simp only [wrap_i64, wrap_u64]) <;> omega)⟩
            · exact ⟨rfl, cmp_geq_t (by (simp (disch := omega) only [↓a3, ↓a9, IE.ev, tri0] <;> try simp only [wrap_i64, wrap_u64]) <;> omega)⟩
            · exact ⟨rfl, cmp_leq_t (by (simp (disch := omega) only [↓a3, ↓a9, IE.ev, tri0] <;> try simp only [wrap_i64, wrap_u64]) <;> omega)⟩
            · exact ⟨rfl, cmp_geq_t (by (simp (disch := omega) only [↓a3, ↓a9, IE.ev, ev_add, tri0, wrapu_id] <;> try simp only [wrap_i64, wrap_u64]) <;> omega)⟩
            · exact ⟨rfl, cmp_leq_t (by (simp (disch := omega) only [↓a3, ↓a9, IE.ev, ev_add, tri0, wrapu_id] <;> try simp only [wrap_i64, wrap_u64]) <;> omega)⟩
            · exact ⟨rfl, cmp_lss_n c6⟩
          have ht : toldI 20 y = true := by simp [toldI]
          refine ⟨(IE.ev (rho (x % 256) (y % 256) x y) (.sh .shr .u64 (.sh .shl .u64 (.bin .or .u64 (.sh .shr .u64 (.bin .add .u64 (.bin .add .u64 (.bin .add .u64 (.bin .add .u64 (.cv .u64 (.sh .shr .i64 (.cv .i64 (.sh .shl .u64 (.var 0) (.lit 56))) (.lit 56))) (.cv .u64 (.sh .shr .i64 (.cv .i64 (.sh .shl .u64 (.var 1) (.lit 56))) (.lit 56)))) (.lit 0)) (.lit 1)) (.lit 0)) (.lit 1)) (.sh .shl .u64 (.bin .add .u64 (.bin .add .u64 (.bin .add .u64 (.bin .add .u64 (.cv .u64 (.sh .shr .i64 (.sh .shr .i64 (.cv .i64 (.sh .shl .u64 (.var 0) (.lit 56))) (.lit 56)) (.lit 63))) (.cv .u64 (.sh .shr .i64 (.sh .shr .i64 (.cv .i64 (.sh .shl .u64 (.var 1) (.lit 56))) (.lit 56)) (.lit 63)))) (.tri 0 (.cv .u64 (.sh .shr .i64 (.cv .i64 (.sh .shl .u64 (.var 0) (.lit 56))) (.lit 56))) (.cv .u64 (.sh .shr .i64 (.cv .i64 (.sh .shl .u64 (.var 1) (.lit 56))) (.lit 56))) (.lit 0))) (.lit 0)) (.tri 0 (.bin .add .u64 (.bin .add .u64 (.cv .u64 (.sh .shr .i64 (.cv .i64 (.sh .shl .u64 (.var 0) (.lit 56))) (.lit 56))) (.cv .u64 (.sh .shr .i64 (.cv .i64 (.sh .shl .u64 (.var 1) (.lit 56))) (.lit 56)))) (.lit 0)) (.lit 1) (.lit 0))) (.lit 63))) (.lit 56)) (.lit 56))), (IE.ev (rho (x % 256) (y % 256) x y) (.bin .quo .i64 (.bin .add .i64 (.bin .add .i64 (.var 2) (.var 3)) (.lit 1)) (.lit 2))), fun w hG => ⟨calls_sym hL (run_5_20_1 _ aR aS) List.mem_cons_self rfl rfl rfl rfl hG, ?_⟩, ?_⟩
          · rw [ht]
            exact calls_sym hL (run_5_20_1 _ aR aS) (List.mem_cons_of_mem _ List.mem_cons_self) rfl rfl rfl rfl hG
          · intro _
            clear hL
            unfold clampI
            rw [if_neg (by decide)]
            have o1 := or63 (IE.ev (rho (x % 256) (y % 256) x y) (.sh .shr .u64 (.bin .add .u64 (.bin .add .u64 (.bin .add .u64 (.bin .add .u64 (.cv .u64 (.sh .shr .i64 (.cv .i64 (.sh .shl .u64 (.var 0) (.lit 56))) (.lit 56))) (.cv .u64 (.sh .shr .i64 (.cv .i64 (.sh .shl .u64 (.var 1) (.lit 56))) (.lit 56)))) (.lit 0)) (.lit 1)) (.lit 0)) (.lit 1))) (IE.ev (rho (x % 256) (y % 256) x y) (.sh .shl .u64 (.bin .add .u64 (.bin .add .u64 (.bin .add .u64 (.bin .add .u64 (.cv .u64 (.sh .shr .i64 (.sh .shr .i64 (.cv .i64 (.sh .shl .u64 (.var 0) (.lit 56))) (.lit 56)) (.lit 63))) (.cv .u64 (.sh .shr .i64 (.sh .shr .i64 (.cv .i64 (.sh .shl .u64 (.var 1) (.lit 56))) (.lit 56)) (.lit 63)))) (.tri 0 (.cv .u64 (.sh .shr .i64 (.cv .i64 (.sh .shl .u64 (.var 0) (.lit 56))) (.lit 56))) (.cv .u64 (.sh .shr .i64 (.cv .i64 (.sh .shl .u64 (.var 1) (.lit 56))) (.lit 56))) (.lit 0))) (.lit 0)) (.tri 0 (.bin .add .u64 (.bin .add .u64 (.cv .u64 (.sh .shr .i64 (.cv .i64 (.sh .shl .u64 (.var 0) (.lit 56))) (.lit 56))) (.cv .u64 (.sh .shr .i64 (.cv .i64 (.sh .shl .u64 (.var 1) (.lit 56))) (.lit 56)))) (.lit 0)) (.lit 1) (.lit 0))) (.lit 63))) (by (simp (disch := omega) only [↓a3, ↓a9, IE.ev, shr_u64_1, ev_add, wrapu_id] <;> try simp only [wrap_i64, wrap_u64]) <;> omega) (by (simp (disch := omega) only [↓a3, ↓a9, IE.ev, shr_u64_1, ev_add, wrapu_id] <;> try simp only [wrap_i64, wrap_u64]) <;> omega) (by (simp (disch := omega) only [↓a1, ↓a3, ↓a7, ↓a9, IE.ev, shl_u64_63, ev_add, tri0, wrapu_id] <;> try simp only [wrap_i64, wrap_u64]) <;> omega) (by (simp (disch := omega) only [↓a1, ↓a3, ↓a7, ↓a9, IE.ev, shl_u64_63, ev_add, tri0, wrapu_id] <;> try simp only [wrap_i64, wrap_u64]) <;> omega) (by (simp (disch := omega) only [↓a1, ↓a3, ↓a7, ↓a9, IE.ev, shl_u64_63, ev_add, tri0, wrapu_id] <;> try simp only [wrap_i64, wrap_u64]) <;> omega)
            have o2 : IE.ev (rho (x % 256) (y % 256) x y) (.sh .shr .u64 (.sh .shl .u64 (.bin .or .u64 (.sh .shr .u64 (.bin .add .u64 (.bin .add .u64 (.bin .add .u64 (.bin .add .u64 (.cv .u64 (.sh .shr .i64 (.cv .i64 (.sh .shl .u64 (.var 0) (.lit 56))) (.lit 56))) (.cv .u64 (.sh .shr .i64 (.cv .i64 (.sh .shl .u64 (.var 1) (.lit 56))) (.lit 56)))) (.lit 0)) (.lit 1)) (.lit 0)) (.lit 1)) (.sh .shl .u64 (.bin .add .u64 (.bin .add .u64 (.bin .add .u64 (.bin .add .u64 (.cv .u64 (.sh .shr .i64 (.sh .shr .i64 (.cv .i64 (.sh .shl .u64 (.var 0) (.lit 56))) (.lit 56)) (.lit 63))) (.cv .u64 (.sh .shr .i64 (.sh .shr .i64 (.cv .i64 (.sh .shl .u64 (.var 1) (.lit 56))) (.lit 56)) (.lit 63)))) (.tri 0 (.cv .u64 (.sh .shr .i64 (.cv .i64 (.sh .shl .u64 (.var 0) (.lit 56))) (.lit 56))) (.cv .u64 (.sh .shr .i64 (.cv .i64 (.sh .shl .u64 (.var 1) (.lit 56))) (.lit 56))) (.lit 0))) (.lit 0)) (.tri 0 (.bin .add .u64 (.bin .add .u64 (.cv .u64 (.sh .shr .i64 (.cv .i64 (.sh .shl .u64 (.var 0) (.lit 56))) (.lit 56))) (.cv .u64 (.sh .shr .i64 (.cv .i64 (.sh .shl .u64 (.var 1) (.lit 56))) (.lit 56)))) (.lit 0)) (.lit 1) (.lit 0))) (.lit 63))) (.lit 56)) (.lit 56)) = binI .or .u64 (IE.ev (rho (x % 256) (y % 256) x y) (.sh .shr .u64 (.bin .add .u64 (.bin .add .u64 (.bin .add .u64 (.bin .add .u64 (.cv .u64 (.sh .shr .i64 (.cv .i64 (.sh .shl .u64 (.var 0) (.lit 56))) (.lit 56))) (.cv .u64 (.sh .shr .i64 (.cv .i64 (.sh .shl .u64 (.var 1) (.lit 56))) (.lit 56)))) (.lit 0)) (.lit 1)) (.lit 0)) (.lit 1))) (IE.ev (rho (x % 256) (y % 256) x y) (.sh .shl .u64 (.bin .add .u64 (.bin .add .u64 (.bin .add .u64 (.bin .add .u64 (.cv .u64 (.sh .shr .i64 (.sh .shr .i64 (.cv .i64 (.sh .shl .u64 (.var 0) (.lit 56))) (.lit 56)) (.lit 63))) (.cv .u64 (.sh .shr .i64 (.sh .shr .i64 (.cv .i64 (.sh .shl .u64 (.var 1) (.lit 56))) (.lit 56)) (.lit 63)))) (.tri 0 (.cv .u64 (.sh .shr .i64 (.cv .i64 (.sh .shl .u64 (.var 0) (.lit 56))) (.lit 56))) (.cv .u64 (.sh .shr .i64 (.cv .i64 (.sh .shl .u64 (.var 1) (.lit 56))) (.lit 56))) (.lit 0))) (.lit 0)) (.tri 0 (.bin .add .u64 (.bin .add .u64 (.cv .u64 (.sh .shr .i64 (.cv .i64 (.sh .shl .u64 (.var 0) (.lit 56))) (.lit 56))) (.cv .u64 (.sh .shr .i64 (.cv .i64 (.sh .shl .u64 (.var 1) (.lit 56))) (.lit 56)))) (.lit 0)) (.lit 1) (.lit 0))) (.lit 63))) % 256 := by
              show shI .shr .u64 (shI .shl .u64 (binI .or .u64 (IE.ev (rho (x % 256) (y % 256) x y) (.sh .shr .u64 (.bin .add .u64 (.bin .add .u64 (.bin .add .u64 (.bin .add .u64 (.cv .u64 (.sh .shr .i64 (.cv .i64 (.sh .shl .u64 (.var 0) (.lit 56))) (.lit 56))) (.cv .u64 (.sh .shr .i64 (.cv .i64 (.sh .shl .u64 (.var 1) (.lit 56))) (.lit 56)))) (.lit 0)) (.lit 1)) (.lit 0)) (.lit 1))) (IE.ev (rho (x % 256) (y % 256) x y) (.sh .shl .u64 (.bin .add .u64 (.bin .add .u64 (.bin .add .u64 (.bin .add .u64 (.cv .u64 (.sh .shr .i64 (.sh .shr .i64 (.cv .i64 (.sh .shl .u64 (.var 0) (.lit 56))) (.lit 56)) (.lit 63))) (.cv .u64 (.sh .shr .i64 (.sh .shr .i64 (.cv .i64 (.sh .shl .u64 (.var 1) (.lit 56))) (.lit 56)) (.lit 63)))) (.tri 0 (.cv .u64 (.sh .shr .i64 (.cv .i64 (.sh .shl .u64 (.var 0) (.lit 56))) (.lit 56))) (.cv .u64 (.sh .shr .i64 (.cv .i64 (.sh .shl .u64 (.var 1) (.lit 56))) (.lit 56))) (.lit 0))) (.lit 0)) (.tri 0 (.bin .add .u64 (.bin .add .u64 (.cv .u64 (.sh .shr .i64 (.cv .i64 (.sh .shl .u64 (.var 0) (.lit 56))) (.lit 56))) (.cv .u64 (.sh .shr .i64 (.cv .i64 (.sh .shl .u64 (.var 1) (.lit 56))) (.lit 56)))) (.lit 0)) (.lit 1) (.lit 0))) (.lit 63)))) 56) 56 = _
              simp only [shr_u64_56, shl_u64_56, wrap_u64]
              omega
            rw [o2, o1]
            (simp (disch := omega) only [↓a3, ↓a9, IE.ev, rho_2, rho_3, shr_u64_1, ev_add, qi_p, wrapi_id, wrapu_id] <;> try simp only [wrap_i64, wrap_u64]) <;> omega
end
end Go.Proofs.YtedbnohkkepajaaGreatDoor
