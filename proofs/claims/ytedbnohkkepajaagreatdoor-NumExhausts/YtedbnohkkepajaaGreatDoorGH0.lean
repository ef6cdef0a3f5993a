import Derived.Test.YtedbnohkkepajaaGreatDoorGE
namespace Go.Proofs.YtedbnohkkepajaaGreatDoor
noncomputable section
open Go Go.RX
open Go.RowKit (Below)
set_option maxRecDepth 1000000
set_option maxHeartbeats 4000000
def L_1_8_0 : List CF := [⟨.eql, (.sh .shr .u64 (.var 0) (.lit 8)), (.lit 0), true⟩,
  ⟨.eql, (.sh .shr .u64 (.var 1) (.lit 8)), (.lit 0), true⟩]
def J_1_8_0 : List SEntry := [(5, [.v (.int .i64 8), .agg [.v (.int .i64 1), .sym (.int .u64 (.var 0))], .agg [.v (.int .i64 1), .sym (.int .u64 (.var 1))]], .tuple [.agg [.v (.int .i64 1), .sym (.int .u64 (.sh .shr .u64 (.sh .shl .u64 (.bin .mul .u64 (.var 0) (.var 1)) (.lit 56)) (.lit 56)))], .v (.int .i64 0)]),
  (7, [.v (.int .i64 8), .sym (.int .i64 (.var 2)), .sym (.int .i64 (.var 3))], .tuple [.sym (.int .i64 (.bin .mul .i64 (.var 2) (.var 3))), .v (.bool true)])]
theorem run_1_8_0 (ρ : Nat → Int) (aR aS : Addr) : J_1_8_0.map (fun e => (@call (E ρ (knowL L_1_8_0) []) Tryz.prog (glob aR aS) noO 300 60 (.fn e.1) e.2.1 []).map fun r => nrm r.1) = J_1_8_0.map fun e => some e.2.2 := by kernel_rfl
theorem good_1_8 (aR aS : Addr) (x y : Int) (hx0 : 0 ≤ x) (hx1 : x ≤ 255) (hy0 : 0 ≤ y) (hy1 : y ≤ 255) : Good aR aS 8 1 1 0 255 x y := by
  have a0 := eVx_u x y hx0 hx1
  have a1 := eVy_u x y hy0 hy1
  have hL : ∀ f ∈ L_1_8_0, f.ok (rho (x % 256) (y % 256) x y) := by
    intro f hf
    simp only [L_1_8_0, List.mem_cons, List.not_mem_nil, or_false] at hf
    rcases hf with rfl | rfl
    · exact ⟨rfl, cmp_eql_t (by (simp (disch := omega) only [↓a0, IE.ev, shr_u64_8] <;> try simp only [wrap_i64, wrap_u64]) <;> omega)⟩
    · exact ⟨rfl, cmp_eql_t (by (simp (disch := omega) only [↓a1, IE.ev, shr_u64_8] <;> try simp only [wrap_i64, wrap_u64]) <;> omega)⟩
  have ht : toldI 8 y = true := by simp [toldI]
  refine ⟨(IE.ev (rho (x % 256) (y % 256) x y) (.sh .shr .u64 (.sh .shl .u64 (.bin .mul .u64 (.var 0) (.var 1)) (.lit 56)) (.lit 56))), (IE.ev (rho (x % 256) (y % 256) x y) (.bin .mul .i64 (.var 2) (.var 3))), fun w hG => ⟨calls_sym hL (run_1_8_0 _ aR aS) List.mem_cons_self rfl rfl rfl rfl hG, ?_⟩, ?_⟩
  · rw [ht]
    exact calls_sym hL (run_1_8_0 _ aR aS) (List.mem_cons_of_mem _ List.mem_cons_self) rfl rfl rfl rfl hG
  · intro _
    clear hL
    unfold clampI
    rw [if_neg (by decide)]
    (simp (disch := omega) only [↓a0, ↓a1, IE.ev, rho_2, rho_3, shl_u64_56, shr_u64_56, ev_mul] <;> try simp only [wrap_i64, wrap_u64])
    generalize x * y = p
    omega
def L_1_9_0 : List CF := [⟨.eql, (.sh .shr .u64 (.var 0) (.lit 8)), (.lit 0), true⟩,
  ⟨.eql, (.sh .shr .u64 (.var 1) (.lit 8)), (.lit 0), true⟩,
  ⟨.eql, (.var 1), (.lit 0), true⟩,
  ⟨.gtr, (.var 3), (.lit 0), false⟩,
  ⟨.lss, (.var 3), (.lit 0), false⟩]
def J_1_9_0 : List SEntry := [(5, [.v (.int .i64 9), .agg [.v (.int .i64 1), .sym (.int .u64 (.var 0))], .agg [.v (.int .i64 1), .sym (.int .u64 (.var 1))]], .v (.tuple #[.agg #[.int .i64 1, .int .u64 0], .int .i64 0])),
  (7, [.v (.int .i64 9), .sym (.int .i64 (.var 2)), .sym (.int .i64 (.var 3))], .v (.tuple #[.int .i64 0, .bool true]))]
theorem run_1_9_0 (ρ : Nat → Int) (aR aS : Addr) : J_1_9_0.map (fun e => (@call (E ρ (knowL L_1_9_0) []) Tryz.prog (glob aR aS) noO 300 60 (.fn e.1) e.2.1 []).map fun r => nrm r.1) = J_1_9_0.map fun e => some e.2.2 := by kernel_rfl
def L_1_9_1 : List CF := [⟨.eql, (.sh .shr .u64 (.var 0) (.lit 8)), (.lit 0), true⟩,
  ⟨.eql, (.sh .shr .u64 (.var 1) (.lit 8)), (.lit 0), true⟩,
  ⟨.eql, (.var 1), (.lit 0), false⟩,
  ⟨.neq, (.var 1), (.lit 0), true⟩,
  ⟨.gtr, (.var 3), (.lit 0), true⟩,
  ⟨.neq, (.var 3), (.lit 0), true⟩,
  ⟨.lss, (.bin .rem .i64 (.var 2) (.var 3)), (.lit 0), false⟩]
def J_1_9_1 : List SEntry := [(5, [.v (.int .i64 9), .agg [.v (.int .i64 1), .sym (.int .u64 (.var 0))], .agg [.v (.int .i64 1), .sym (.int .u64 (.var 1))]], .tuple [.agg [.v (.int .i64 1), .sym (.int .u64 (.sh .shr .u64 (.sh .shl .u64 (.bin .quo .u64 (.var 0) (.var 1)) (.lit 56)) (.lit 56)))], .v (.int .i64 0)]),
  (7, [.v (.int .i64 9), .sym (.int .i64 (.var 2)), .sym (.int .i64 (.var 3))], .tuple [.sym (.int .i64 (.bin .quo .i64 (.var 2) (.var 3))), .v (.bool true)])]
theorem run_1_9_1 (ρ : Nat → Int) (aR aS : Addr) : J_1_9_1.map (fun e => (@call (E ρ (knowL L_1_9_1) []) Tryz.prog (glob aR aS) noO 300 60 (.fn e.1) e.2.1 []).map fun r => nrm r.1) = J_1_9_1.map fun e => some e.2.2 := by kernel_rfl
theorem good_1_9 (aR aS : Addr) (x y : Int) (hx0 : 0 ≤ x) (hx1 : x ≤ 255) (hy0 : 0 ≤ y) (hy1 : y ≤ 255) : Good aR aS 9 1 1 0 255 x y := by
  have a0 := eVx_u x y hx0 hx1
  have a1 := eVy_u x y hy0 hy1
  have hy : y = 0 ∨ 0 < y := by omega
  rcases hy with hy | hy
  · by_cases c2 : IE.ev (rho (x % 256) (y % 256) x y) (.var 1) = IE.ev (rho (x % 256) (y % 256) x y) (.lit 0)
    · have c2' := c2
      try (simp (disch := omega) only [↓a1, IE.ev] at c2' <;> try simp only [wrap_i64, wrap_u64] at c2')
      have hL : ∀ f ∈ L_1_9_0, f.ok (rho (x % 256) (y % 256) x y) := by
        intro f hf
        simp only [L_1_9_0, List.mem_cons, List.not_mem_nil, or_false] at hf
        rcases hf with rfl | rfl | rfl | rfl | rfl
        · exact ⟨rfl, cmp_eql_t (by (simp (disch := omega) only [↓a0, IE.ev, shr_u64_8] <;> try simp only [wrap_i64, wrap_u64]) <;> omega)⟩
        · exact ⟨rfl, cmp_eql_t (by (simp (disch := omega) only [↓a1, IE.ev, shr_u64_8] <;> try simp only [wrap_i64, wrap_u64]) <;> omega)⟩
        · exact ⟨rfl, cmp_eql_t c2⟩
        · exact ⟨rfl, cmp_gtr_f (by (simp (disch := omega) only [IE.ev, rho_3] <;> try simp only [wrap_i64, wrap_u64]) <;> omega)⟩
        · exact ⟨rfl, cmp_lss_f (by (simp (disch := omega) only [IE.ev, rho_3] <;> try simp only [wrap_i64, wrap_u64]) <;> omega)⟩
      have ht : toldI 9 y = true := by simp [toldI]
      refine ⟨0, 0, fun w hG => ⟨calls_sym hL (run_1_9_0 _ aR aS) List.mem_cons_self rfl rfl rfl rfl hG, ?_⟩, ?_⟩
      · rw [ht]
        exact calls_sym hL (run_1_9_0 _ aR aS) (List.mem_cons_of_mem _ List.mem_cons_self) rfl rfl rfl rfl hG
      · intro _
        clear hL
        unfold clampI
        rw [if_neg (by decide)]
        all_goals omega
    · exact absurd (by (simp (disch := omega) only [↓a1, IE.ev] <;> try simp only [wrap_i64, wrap_u64]) <;> omega) c2
  · have hq0 : 0 ≤ x / y := Int.ediv_nonneg (by omega) (by omega)
    have hq1 : x / y ≤ x := Int.ediv_le_self _ (by omega)
    have hr0 : 0 ≤ x % y := Int.emod_nonneg _ (by omega)
    have hr1 : x % y < y := Int.emod_lt_of_pos _ (by omega)
    by_cases c2 : IE.ev (rho (x % 256) (y % 256) x y) (.var 1) = IE.ev (rho (x % 256) (y % 256) x y) (.lit 0)
    · exact absurd c2 (by (simp (disch := omega) only [↓a1, IE.ev] <;> try simp only [wrap_i64, wrap_u64]) <;> omega)
    · have c2' := c2
      try (simp (disch := omega) only [↓a1, IE.ev] at c2' <;> try simp only [wrap_i64, wrap_u64] at c2')
      have hL : ∀ f ∈ L_1_9_1, f.ok (rho (x % 256) (y % 256) x y) := by
        intro f hf
        simp only [L_1_9_1, List.mem_cons, List.not_mem_nil, or_false] at hf
        rcases hf with rfl | rfl | rfl | rfl | rfl | rfl | rfl
        · exact ⟨rfl, cmp_eql_t (by (simp (disch := omega) only [↓a0, IE.ev, shr_u64_8] <;> try simp only [wrap_i64, wrap_u64]) <;> omega)⟩
        · exact ⟨rfl, cmp_eql_t (by (simp (disch := omega) only [↓a1, IE.ev, shr_u64_8] <;> try simp only [wrap_i64, wrap_u64]) <;> omega)⟩
        · exact ⟨rfl, cmp_eql_n c2⟩
        · exact ⟨rfl, cmp_neq_t (by (simp (disch := omega) only [↓a1, IE.ev] <;> try simp only [wrap_i64, wrap_u64]) <;> omega)⟩
        · exact ⟨rfl, cmp_gtr_t (by (simp (disch := omega) only [IE.ev, rho_3] <;> try simp only [wrap_i64, wrap_u64]) <;> omega)⟩
        · exact ⟨rfl, cmp_neq_t (by (simp (disch := omega) only [IE.ev, rho_3] <;> try simp only [wrap_i64, wrap_u64]) <;> omega)⟩
        · exact ⟨rfl, cmp_lss_f (by (simp (disch := omega) only [IE.ev, rho_2, rho_3, ri_p] <;> try simp only [wrap_i64, wrap_u64]) <;> omega)⟩
      have ht : toldI 9 y = true := by simp [toldI]
      refine ⟨(IE.ev (rho (x % 256) (y % 256) x y) (.sh .shr .u64 (.sh .shl .u64 (.bin .quo .u64 (.var 0) (.var 1)) (.lit 56)) (.lit 56))), (IE.ev (rho (x % 256) (y % 256) x y) (.bin .quo .i64 (.var 2) (.var 3))), fun w hG => ⟨calls_sym hL (run_1_9_1 _ aR aS) List.mem_cons_self rfl rfl rfl rfl hG, ?_⟩, ?_⟩
      · rw [ht]
        exact calls_sym hL (run_1_9_1 _ aR aS) (List.mem_cons_of_mem _ List.mem_cons_self) rfl rfl rfl rfl hG
      · intro _
        clear hL
        unfold clampI
        rw [if_neg (by decide)]
        (simp (disch := omega) only [↓a0, ↓a1, IE.ev, rho_2, rho_3, shl_u64_56, shr_u64_56, quo_u64, qi_p, wrapu_id] <;> try simp only [wrap_i64, wrap_u64])
        all_goals omega
def L_1_10_0 : List CF := [⟨.eql, (.sh .shr .u64 (.var 0) (.lit 8)), (.lit 0), true⟩,
  ⟨.eql, (.sh .shr .u64 (.var 1) (.lit 8)), (.lit 0), true⟩,
  ⟨.eql, (.var 1), (.lit 0), true⟩,
  ⟨.eql, (.var 3), (.lit 0), true⟩]
def J_1_10_0 : List SEntry := [(5, [.v (.int .i64 10), .agg [.v (.int .i64 1), .sym (.int .u64 (.var 0))], .agg [.v (.int .i64 1), .sym (.int .u64 (.var 1))]], .v (.tuple #[.agg #[.int .i64 1, .int .u64 0], .int .i64 0])),
  (7, [.v (.int .i64 10), .sym (.int .i64 (.var 2)), .sym (.int .i64 (.var 3))], .v (.tuple #[.int .i64 0, .bool true]))]
theorem run_1_10_0 (ρ : Nat → Int) (aR aS : Addr) : J_1_10_0.map (fun e => (@call (E ρ (knowL L_1_10_0) []) Tryz.prog (glob aR aS) noO 300 60 (.fn e.1) e.2.1 []).map fun r => nrm r.1) = J_1_10_0.map fun e => some e.2.2 := by kernel_rfl
def L_1_10_1 : List CF := [⟨.eql, (.sh .shr .u64 (.var 0) (.lit 8)), (.lit 0), true⟩,
  ⟨.eql, (.sh .shr .u64 (.var 1) (.lit 8)), (.lit 0), true⟩,
  ⟨.eql, (.var 1), (.lit 0), false⟩,
  ⟨.neq, (.var 1), (.lit 0), true⟩,
  ⟨.eql, (.var 3), (.lit 0), false⟩,
  ⟨.neq, (.tri 2 (.var 3) (.bin .sub .i64 (.lit 0) (.var 3)) (.lit 0)), (.lit 0), true⟩,
  ⟨.lss, (.bin .rem .i64 (.var 2) (.tri 2 (.var 3) (.bin .sub .i64 (.lit 0) (.var 3)) (.lit 0))), (.lit 0), false⟩]
def J_1_10_1 : List SEntry := [(5, [.v (.int .i64 10), .agg [.v (.int .i64 1), .sym (.int .u64 (.var 0))], .agg [.v (.int .i64 1), .sym (.int .u64 (.var 1))]], .tuple [.agg [.v (.int .i64 1), .sym (.int .u64 (.sh .shr .u64 (.sh .shl .u64 (.bin .rem .u64 (.var 0) (.var 1)) (.lit 56)) (.lit 56)))], .v (.int .i64 0)]),
  (7, [.v (.int .i64 10), .sym (.int .i64 (.var 2)), .sym (.int .i64 (.var 3))], .tuple [.sym (.int .i64 (.bin .sub .i64 (.var 2) (.bin .mul .i64 (.bin .quo .i64 (.var 2) (.tri 2 (.var 3) (.bin .sub .i64 (.lit 0) (.var 3)) (.lit 0))) (.tri 2 (.var 3) (.bin .sub .i64 (.lit 0) (.var 3)) (.lit 0))))), .v (.bool true)])]
theorem run_1_10_1 (ρ : Nat → Int) (aR aS : Addr) : J_1_10_1.map (fun e => (@call (E ρ (knowL L_1_10_1) []) Tryz.prog (glob aR aS) noO 300 60 (.fn e.1) e.2.1 []).map fun r => nrm r.1) = J_1_10_1.map fun e => some e.2.2 := by kernel_rfl
theorem good_1_10 (aR aS : Addr) (x y : Int) (hx0 : 0 ≤ x) (hx1 : x ≤ 255) (hy0 : 0 ≤ y) (hy1 : y ≤ 255) : Good aR aS 10 1 1 0 255 x y := by
  have a0 := eVx_u x y hx0 hx1
  have a1 := eVy_u x y hy0 hy1
  have hy : y = 0 ∨ 0 < y := by omega
  rcases hy with hy | hy
  · by_cases c2 : IE.ev (rho (x % 256) (y % 256) x y) (.var 1) = IE.ev (rho (x % 256) (y % 256) x y) (.lit 0)
    · have c2' := c2
      try (simp (disch := omega) only [↓a1, IE.ev] at c2' <;> try simp only [wrap_i64, wrap_u64] at c2')
      have hL : ∀ f ∈ L_1_10_0, f.ok (rho (x % 256) (y % 256) x y) := by
        intro f hf
        simp only [L_1_10_0, List.mem_cons, List.not_mem_nil, or_false] at hf
        rcases hf with rfl | rfl | rfl | rfl
        · exact ⟨rfl, cmp_eql_t (by (simp (disch := omega) only [↓a0, IE.ev, shr_u64_8] <;> try simp only [wrap_i64, wrap_u64]) <;> omega)⟩
        · exact ⟨rfl, cmp_eql_t (by (simp (disch := omega) only [↓a1, IE.ev, shr_u64_8] <;> try simp only [wrap_i64, wrap_u64]) <;> omega)⟩
        · exact ⟨rfl, cmp_eql_t c2⟩
        · exact ⟨rfl, cmp_eql_t (by (simp (disch := omega) only [IE.ev, rho_3] <;> try simp only [wrap_i64, wrap_u64]) <;> omega)⟩
      have ht : toldI 10 y = true := by simp [toldI]
      refine ⟨0, 0, fun w hG => ⟨calls_sym hL (run_1_10_0 _ aR aS) List.mem_cons_self rfl rfl rfl rfl hG, ?_⟩, ?_⟩
      · rw [ht]
        exact calls_sym hL (run_1_10_0 _ aR aS) (List.mem_cons_of_mem _ List.mem_cons_self) rfl rfl rfl rfl hG
      · intro _
        clear hL
        unfold clampI
        rw [if_neg (by decide)]
        all_goals omega
    · exact absurd (by (simp (disch := omega) only [↓a1, IE.ev] <;> try simp only [wrap_i64, wrap_u64]) <;> omega) c2
  · have hq0 : 0 ≤ x / y := Int.ediv_nonneg (by omega) (by omega)
    have hq1 : x / y ≤ x := Int.ediv_le_self _ (by omega)
    have hr0 : 0 ≤ x % y := Int.emod_nonneg _ (by omega)
    have hr1 : x % y < y := Int.emod_lt_of_pos _ (by omega)
    have hM : max y (-y) = y := by omega
    have m1 : x / y * y = x - x % y := divmul _ _
    have m2 : -(x / y) * y = -(x - x % y) := by rw [Int.neg_mul, m1]
    have m3 : (-(x / y) - 1) * y = -(x - x % y) - y := by rw [Int.sub_mul, m2, Int.one_mul]
    by_cases c2 : IE.ev (rho (x % 256) (y % 256) x y) (.var 1) = IE.ev (rho (x % 256) (y % 256) x y) (.lit 0)
    · exact absurd c2 (by (simp (disch := omega) only [↓a1, IE.ev] <;> try simp only [wrap_i64, wrap_u64]) <;> omega)
    · have c2' := c2
      try (simp (disch := omega) only [↓a1, IE.ev] at c2' <;> try simp only [wrap_i64, wrap_u64] at c2')
      have hL : ∀ f ∈ L_1_10_1, f.ok (rho (x % 256) (y % 256) x y) := by
        intro f hf
        simp only [L_1_10_1, List.mem_cons, List.not_mem_nil, or_false] at hf
        rcases hf with rfl | rfl | rfl | rfl | rfl | rfl | rfl
        · exact ⟨rfl, cmp_eql_t (by (simp (disch := omega) only [↓a0, IE.ev, shr_u64_8] <;> try simp only [wrap_i64, wrap_u64]) <;> omega)⟩
        · exact ⟨rfl, cmp_eql_t (by (simp (disch := omega) only [↓a1, IE.ev, shr_u64_8] <;> try simp only [wrap_i64, wrap_u64]) <;> omega)⟩
        · exact ⟨rfl, cmp_eql_n c2⟩
        · exact ⟨rfl, cmp_neq_t (by (simp (disch := omega) only [↓a1, IE.ev] <;> try simp only [wrap_i64, wrap_u64]) <;> omega)⟩
        · exact ⟨rfl, cmp_eql_f (by (simp (disch := omega) only [IE.ev, rho_3] <;> try simp only [wrap_i64, wrap_u64]) <;> omega)⟩
        · exact ⟨rfl, cmp_neq_t (by (simp (disch := omega) only [IE.ev, rho_3, ev_sub, tri2, Int.zero_sub, hM, wrapi_id] <;> try simp only [wrap_i64, wrap_u64]) <;> omega)⟩
        · exact ⟨rfl, cmp_lss_f (by (simp (disch := omega) only [IE.ev, rho_2, rho_3, ev_sub, tri2, ri_p, Int.zero_sub, hM, wrapi_id] <;> try simp only [wrap_i64, wrap_u64]) <;> omega)⟩
      have ht : toldI 10 y = true := by simp [toldI]
      refine ⟨(IE.ev (rho (x % 256) (y % 256) x y) (.sh .shr .u64 (.sh .shl .u64 (.bin .rem .u64 (.var 0) (.var 1)) (.lit 56)) (.lit 56))), (IE.ev (rho (x % 256) (y % 256) x y) (.bin .sub .i64 (.var 2) (.bin .mul .i64 (.bin .quo .i64 (.var 2) (.tri 2 (.var 3) (.bin .sub .i64 (.lit 0) (.var 3)) (.lit 0))) (.tri 2 (.var 3) (.bin .sub .i64 (.lit 0) (.var 3)) (.lit 0))))), fun w hG => ⟨calls_sym hL (run_1_10_1 _ aR aS) List.mem_cons_self rfl rfl rfl rfl hG, ?_⟩, ?_⟩
      · rw [ht]
        exact calls_sym hL (run_1_10_1 _ aR aS) (List.mem_cons_of_mem _ List.mem_cons_self) rfl rfl rfl rfl hG
      · intro _
        clear hL
        unfold clampI
        rw [if_neg (by decide)]
        (simp (disch := omega) only [↓a0, ↓a1, IE.ev, rho_2, rho_3, shl_u64_56, shr_u64_56, ev_sub, ev_mul, rem_u64, tri2, qi_p, Int.zero_sub, hM, m1, wrapi_id, wrapu_id] <;> try simp only [wrap_i64, wrap_u64])
        all_goals omega
def L_1_16_0 : List CF := [⟨.eql, (.sh .shr .u64 (.var 0) (.lit 8)), (.lit 0), true⟩,
  ⟨.eql, (.sh .shr .u64 (.var 1) (.lit 8)), (.lit 0), true⟩,
  ⟨.geq, (.var 1), (.lit 64), false⟩,
  ⟨.geq, (.var 1), (.lit 0), true⟩,
  ⟨.geq, (.bin .rem .i64 (.bin .and .i64 (.var 3) (.lit 255)) (.lit 64)), (.lit 0), true⟩,
  ⟨.lss, (.bin .and .i64 (.var 3) (.lit 255)), (.lit 24), true⟩]
def J_1_16_0 : List SEntry := [(5, [.v (.int .i64 16), .agg [.v (.int .i64 1), .sym (.int .u64 (.var 0))], .agg [.v (.int .i64 1), .sym (.int .u64 (.var 1))]], .tuple [.agg [.v (.int .i64 1), .sym (.int .u64 (.sh .shr .u64 (.sh .shl .u64 (.sh .shl .u64 (.var 0) (.var 1)) (.lit 56)) (.lit 56)))], .v (.int .i64 0)]),
  (7, [.v (.int .i64 16), .sym (.int .i64 (.var 2)), .sym (.int .i64 (.var 3))], .tuple [.sym (.int .i64 (.bin .and .i64 (.sh .shl .i64 (.var 2) (.bin .rem .i64 (.bin .and .i64 (.var 3) (.lit 255)) (.lit 64))) (.lit 4294967295))), .v (.bool true)])]
theorem run_1_16_0 (ρ : Nat → Int) (aR aS : Addr) : J_1_16_0.map (fun e => (@call (E ρ (knowL L_1_16_0) []) Tryz.prog (glob aR aS) noO 300 60 (.fn e.1) e.2.1 []).map fun r => nrm r.1) = J_1_16_0.map fun e => some e.2.2 := by kernel_rfl
def L_1_16_1 : List CF := [⟨.eql, (.sh .shr .u64 (.var 0) (.lit 8)), (.lit 0), true⟩,
  ⟨.eql, (.sh .shr .u64 (.var 1) (.lit 8)), (.lit 0), true⟩,
  ⟨.geq, (.var 1), (.lit 64), false⟩,
  ⟨.geq, (.var 1), (.lit 0), true⟩,
  ⟨.geq, (.bin .rem .i64 (.bin .and .i64 (.var 3) (.lit 255)) (.lit 64)), (.lit 0), true⟩,
  ⟨.lss, (.bin .and .i64 (.var 3) (.lit 255)), (.lit 24), false⟩]
def J_1_16_1 : List SEntry := [(5, [.v (.int .i64 16), .agg [.v (.int .i64 1), .sym (.int .u64 (.var 0))], .agg [.v (.int .i64 1), .sym (.int .u64 (.var 1))]], .tuple [.agg [.v (.int .i64 1), .sym (.int .u64 (.sh .shr .u64 (.sh .shl .u64 (.sh .shl .u64 (.var 0) (.var 1)) (.lit 56)) (.lit 56)))], .v (.int .i64 0)]),
  (7, [.v (.int .i64 16), .sym (.int .i64 (.var 2)), .sym (.int .i64 (.var 3))], .tuple [.sym (.int .i64 (.bin .and .i64 (.sh .shl .i64 (.var 2) (.bin .rem .i64 (.bin .and .i64 (.var 3) (.lit 255)) (.lit 64))) (.lit 4294967295))), .v (.bool false)])]
theorem run_1_16_1 (ρ : Nat → Int) (aR aS : Addr) : J_1_16_1.map (fun e => (@call (E ρ (knowL L_1_16_1) []) Tryz.prog (glob aR aS) noO 300 60 (.fn e.1) e.2.1 []).map fun r => nrm r.1) = J_1_16_1.map fun e => some e.2.2 := by kernel_rfl
def L_1_16_2 : List CF := [⟨.eql, (.sh .shr .u64 (.var 0) (.lit 8)), (.lit 0), true⟩,
  ⟨.eql, (.sh .shr .u64 (.var 1) (.lit 8)), (.lit 0), true⟩,
  ⟨.geq, (.var 1), (.lit 64), true⟩,
  ⟨.geq, (.bin .rem .i64 (.bin .and .i64 (.var 3) (.lit 255)) (.lit 64)), (.lit 0), true⟩,
  ⟨.lss, (.bin .and .i64 (.var 3) (.lit 255)), (.lit 24), false⟩]
def J_1_16_2 : List SEntry := [(5, [.v (.int .i64 16), .agg [.v (.int .i64 1), .sym (.int .u64 (.var 0))], .agg [.v (.int .i64 1), .sym (.int .u64 (.var 1))]], .v (.tuple #[.agg #[.int .i64 1, .int .u64 0], .int .i64 0])),
  (7, [.v (.int .i64 16), .sym (.int .i64 (.var 2)), .sym (.int .i64 (.var 3))], .tuple [.sym (.int .i64 (.bin .and .i64 (.sh .shl .i64 (.var 2) (.bin .rem .i64 (.bin .and .i64 (.var 3) (.lit 255)) (.lit 64))) (.lit 4294967295))), .v (.bool false)])]
theorem run_1_16_2 (ρ : Nat → Int) (aR aS : Addr) : J_1_16_2.map (fun e => (@call (E ρ (knowL L_1_16_2) []) Tryz.prog (glob aR aS) noO 300 60 (.fn e.1) e.2.1 []).map fun r => nrm r.1) = J_1_16_2.map fun e => some e.2.2 := by kernel_rfl
theorem good_1_16 (aR aS : Addr) (x y : Int) (hx0 : 0 ≤ x) (hx1 : x ≤ 255) (hy0 : 0 ≤ y) (hy1 : y ≤ 255) : Good aR aS 16 1 1 0 255 x y := by
  have a0 := eVx_u x y hx0 hx1
  have a1 := eVy_u x y hy0 hy1
  by_cases c2 : IE.ev (rho (x % 256) (y % 256) x y) (.var 1) ≥ IE.ev (rho (x % 256) (y % 256) x y) (.lit 64)
  · have c2' := c2
    try (simp (disch := omega) only [↓a1, IE.ev] at c2' <;> try simp only [wrap_i64, wrap_u64] at c2')
    have hL : ∀ f ∈ L_1_16_2, f.ok (rho (x % 256) (y % 256) x y) := by
      intro f hf
      simp only [L_1_16_2, List.mem_cons, List.not_mem_nil, or_false] at hf
      rcases hf with rfl | rfl | rfl | rfl | rfl
      · exact ⟨rfl, cmp_eql_t (by (simp (disch := omega) only [↓a0, IE.ev, shr_u64_8] <;> try simp only [wrap_i64, wrap_u64]) <;> omega)⟩
      · exact ⟨rfl, cmp_eql_t (by (simp (disch := omega) only [↓a1, IE.ev, shr_u64_8] <;> try simp only [wrap_i64, wrap_u64]) <;> omega)⟩
      · exact ⟨rfl, cmp_geq_t c2⟩
      · exact ⟨rfl, cmp_geq_t (by (simp (disch := omega) only [IE.ev, rho_3, and_i64_8, ri_p] <;> try simp only [wrap_i64, wrap_u64]) <;> omega)⟩
      · exact ⟨rfl, cmp_lss_f (by (simp (disch := omega) only [IE.ev, rho_3, and_i64_8] <;> try simp only [wrap_i64, wrap_u64]) <;> omega)⟩
    have ht : toldI 16 y = false := by simp only [toldI, if_true]; exact decide_eq_false (by omega)
    refine ⟨0, (IE.ev (rho (x % 256) (y % 256) x y) (.bin .and .i64 (.sh .shl .i64 (.var 2) (.bin .rem .i64 (.bin .and .i64 (.var 3) (.lit 255)) (.lit 64))) (.lit 4294967295))), fun w hG => ⟨calls_sym hL (run_1_16_2 _ aR aS) List.mem_cons_self rfl rfl rfl rfl hG, ?_⟩, ?_⟩
    · rw [ht]
      exact calls_sym hL (run_1_16_2 _ aR aS) (List.mem_cons_of_mem _ List.mem_cons_self) rfl rfl rfl rfl hG
    · intro h
      rw [ht] at h
      cases h
  · have c2' := c2
    try (simp (disch := omega) only [↓a1, IE.ev] at c2' <;> try simp only [wrap_i64, wrap_u64] at c2')
    by_cases c5 : IE.ev (rho (x % 256) (y % 256) x y) (.bin .and .i64 (.var 3) (.lit 255)) < IE.ev (rho (x % 256) (y % 256) x y) (.lit 24)
    · have c5' := c5
      try (simp (disch := omega) only [IE.ev, rho_3, and_i64_8] at c5' <;> try simp only [wrap_i64, wrap_u64] at c5')
      have hL : ∀ f ∈ L_1_16_0, f.ok (rho (x % 256) (y % 256) x y) := by
        intro f hf
        simp only [L_1_16_0, List.mem_cons, List.not_mem_nil, or_false] at hf
        rcases hf with rfl | rfl | rfl | rfl | rfl | rfl
        · exact ⟨rfl, cmp_eql_t (by (simp (disch := omega) only [↓a0, IE.ev, shr_u64_8] <;> try simp only [wrap_i64, wrap_u64]) <;> omega)⟩
        · exact ⟨rfl, cmp_eql_t (by (simp (disch := omega) only [↓a1, IE.ev, shr_u64_8] <;> try simp only [wrap_i64, wrap_u64]) <;> omega)⟩
        · exact ⟨rfl, cmp_geq_n c2⟩
        · exact ⟨rfl, cmp_geq_t (by (simp (disch := omega) only [↓a1, IE.ev] <;> try simp only [wrap_i64, wrap_u64]) <;> omega)⟩
        · exact ⟨rfl, cmp_geq_t (by (simp (disch := omega) only [IE.ev, rho_3, and_i64_8, ri_p] <;> try simp only [wrap_i64, wrap_u64]) <;> omega)⟩
        · exact ⟨rfl, cmp_lss_t c5⟩
      have ht : toldI 16 y = true := by simp only [toldI, if_true]; exact decide_eq_true (by omega)
      refine ⟨(IE.ev (rho (x % 256) (y % 256) x y) (.sh .shr .u64 (.sh .shl .u64 (.sh .shl .u64 (.var 0) (.var 1)) (.lit 56)) (.lit 56))), (IE.ev (rho (x % 256) (y % 256) x y) (.bin .and .i64 (.sh .shl .i64 (.var 2) (.bin .rem .i64 (.bin .and .i64 (.var 3) (.lit 255)) (.lit 64))) (.lit 4294967295))), fun w hG => ⟨calls_sym hL (run_1_16_0 _ aR aS) List.mem_cons_self rfl rfl rfl rfl hG, ?_⟩, ?_⟩
      · rw [ht]
        exact calls_sym hL (run_1_16_0 _ aR aS) (List.mem_cons_of_mem _ List.mem_cons_self) rfl rfl rfl rfl hG
      · intro _
        clear hL
        unfold clampI
        rw [if_neg (by decide)]
        have hy : y = 0 ∨ y = 1 ∨ y = 2 ∨ y = 3 ∨ y = 4 ∨ y = 5 ∨ y = 6 ∨ y = 7 ∨ y = 8 ∨ y = 9 ∨ y = 10 ∨ y = 11 ∨ y = 12 ∨ y = 13 ∨ y = 14 ∨ y = 15 ∨ y = 16 ∨ y = 17 ∨ y = 18 ∨ y = 19 ∨ y = 20 ∨ y = 21 ∨ y = 22 ∨ y = 23 := by omega
        rcases hy with rfl | rfl | rfl | rfl | rfl | rfl | rfl | rfl | rfl | rfl | rfl | rfl | rfl | rfl | rfl | rfl | rfl | rfl | rfl | rfl | rfl | rfl | rfl | rfl
        all_goals (simp (disch := omega) only [↓a0, ↓a1, IE.ev, rho_2, rho_3, shl_u64_56, shr_u64_56, and_i64_8, and_i64_32, ri_p, shl_u64_0, shl_u64_1, shl_u64_2, shl_u64_3, shl_u64_4, shl_u64_5, shl_u64_6, shl_u64_7, shl_u64_8, shl_u64_9, shl_u64_10, shl_u64_11, shl_u64_12, shl_u64_13, shl_u64_14, shl_u64_15, shl_u64_16, shl_u64_17, shl_u64_18, shl_u64_19, shl_u64_20, shl_u64_21, shl_u64_22, shl_u64_23, shl_i64_0, shl_i64_1, shl_i64_2, shl_i64_3, shl_i64_4, shl_i64_5, shl_i64_6, shl_i64_7, shl_i64_8, shl_i64_9, shl_i64_10, shl_i64_11, shl_i64_12, shl_i64_13, shl_i64_14, shl_i64_15, shl_i64_16, shl_i64_17, shl_i64_18, shl_i64_19, shl_i64_20, shl_i64_21, shl_i64_22, shl_i64_23, Int.reduceMod, wrapi_id, wrapu_id] <;> try simp only [wrap_u64]) <;> omega
    · have c5' := c5
      try (simp (disch := omega) only [IE.ev, rho_3, and_i64_8] at c5' <;> try simp only [wrap_i64, wrap_u64] at c5')
      have hL : ∀ f ∈ L_1_16_1, f.ok (rho (x % 256) (y % 256) x y) := by
        intro f hf
        simp only [L_1_16_1, List.mem_cons, List.not_mem_nil, or_false] at hf
        rcases hf with rfl | rfl | rfl | rfl | rfl | rfl
        · exact ⟨rfl, cmp_eql_t (by (simp (disch := omega) only [↓a0, IE.ev, shr_u64_8] <;> try simp only [wrap_i64, wrap_u64]) <;> omega)⟩
        · exact ⟨rfl, cmp_eql_t (by (simp (disch := omega) only [↓a1, IE.ev, shr_u64_8] <;> try simp only [wrap_i64, wrap_u64]) <;> omega)⟩
        · exact ⟨rfl, cmp_geq_n c2⟩
        · exact ⟨rfl, cmp_geq_t (by (simp (disch := omega) only [↓a1, IE.ev] <;> try simp only [wrap_i64, wrap_u64]) <;> omega)⟩
        · exact ⟨rfl, cmp_geq_t (by (simp (disch := omega) only [IE.ev, rho_3, and_i64_8, ri_p] <;> try simp only [wrap_i64, wrap_u64]) <;> omega)⟩
        · exact ⟨rfl, cmp_lss_n c5⟩
      have ht : toldI 16 y = false := by simp only [toldI, if_true]; exact decide_eq_false (by omega)
      refine ⟨(IE.ev (rho (x % 256) (y % 256) x y) (.sh .shr .u64 (.sh .shl .u64 (.sh .shl .u64 (.var 0) (.var 1)) (.lit 56)) (.lit 56))), (IE.ev (rho (x % 256) (y % 256) x y) (.bin .and .i64 (.sh .shl .i64 (.var 2) (.bin .rem .i64 (.bin .and .i64 (.var 3) (.lit 255)) (.lit 64))) (.lit 4294967295))), fun w hG => ⟨calls_sym hL (run_1_16_1 _ aR aS) List.mem_cons_self rfl rfl rfl rfl hG, ?_⟩, ?_⟩
      · rw [ht]
        exact calls_sym hL (run_1_16_1 _ aR aS) (List.mem_cons_of_mem _ List.mem_cons_self) rfl rfl rfl rfl hG
      · intro h
        rw [ht] at h
        cases h
end
end Go.Proofs.YtedbnohkkepajaaGreatDoor
