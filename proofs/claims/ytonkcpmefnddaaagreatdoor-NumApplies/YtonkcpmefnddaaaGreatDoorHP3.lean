import Derived.Test.YtonkcpmefnddaaaGreatDoorHA
namespace Go.Proofs.YtonkcpmefnddaaaGreatDoor
noncomputable section
open Go Go.RX
open Go.RowKit (Below)
set_option maxRecDepth 1000000
set_option maxHeartbeats 4000000
def L_u8bad : List CF := [⟨.leq, (.var 0), (.lit 255), false⟩,
  ⟨.eql, (.sh .shr .u64 (.var 0) (.lit 8)), (.lit 0), false⟩]
theorem ok_u8bad (b : Int) (hb0 : 0 ≤ b) (hb1 : b < 18446744073709551616) (h0 : 255 < b) : ∀ f ∈ L_u8bad, f.ok (rho b 0 1 0 0 0) := by
  intro f hf
  simp only [L_u8bad, List.mem_cons, List.not_mem_nil, or_false] at hf
  rcases hf with rfl | rfl
  · exact ⟨rfl, cmp_leq_f (by simp (disch := omega) only [IE.ev, rho_0] <;> omega)⟩
  · exact ⟨rfl, cmp_eql_f (by simp (disch := omega) only [IE.ev, rho_0, shr_u64_8] <;> omega)⟩
def J_u8bad : List SEntry := [(35, [.agg [.v (.int .i64 1), .sym (.int .u64 (.var 0))]], .v (.int .i64 1)),
  (25, [.agg [.v (.int .i64 1), .sym (.int .u64 (.var 0))]], .v (.int .i64 1))]
theorem run_u8bad (ρ : Nat → Int) (aR aS : Addr) : runE (wF 0) (cF 0) ρ aR aS L_u8bad [] [] J_u8bad := by unfold runE; kernel_rfl
theorem v_u8bad (aR aS : Addr) (b : Int) (hb0 : 0 ≤ b) (hb1 : b < 18446744073709551616) (h0 : 255 < b) : Chk aR aS 1 b 1 := fun w hG =>
  ⟨calls_symF (W := wF 0) (C := cF 0) (ρ := rho b 0 1 0 0 0) (T := []) (U := []) (ok_u8bad b hb0 hb1 h0) (fun _ h => by cases h) (fun _ h => by cases h) (run_u8bad _ aR aS) List.mem_cons_self rfl rfl rfl rfl hG,
  calls_symF (W := wF 0) (C := cF 0) (ρ := rho b 0 1 0 0 0) (T := []) (U := []) (ok_u8bad b hb0 hb1 h0) (fun _ h => by cases h) (fun _ h => by cases h) (run_u8bad _ aR aS) (List.mem_cons_of_mem _ List.mem_cons_self) rfl rfl rfl rfl hG⟩
def L_u32bad : List CF := [⟨.leq, (.var 0), (.lit 4294967295), false⟩,
  ⟨.eql, (.sh .shr .u64 (.var 0) (.lit 32)), (.lit 0), false⟩]
theorem ok_u32bad (b : Int) (hb0 : 0 ≤ b) (hb1 : b < 18446744073709551616) (h0 : 4294967295 < b) : ∀ f ∈ L_u32bad, f.ok (rho b 0 3 0 0 0) := by
  intro f hf
  simp only [L_u32bad, List.mem_cons, List.not_mem_nil, or_false] at hf
  rcases hf with rfl | rfl
  · exact ⟨rfl, cmp_leq_f (by simp (disch := omega) only [IE.ev, rho_0] <;> omega)⟩
  · exact ⟨rfl, cmp_eql_f (by simp (disch := omega) only [IE.ev, rho_0, shr_u64_32] <;> omega)⟩
def J_u32bad : List SEntry := [(35, [.agg [.v (.int .i64 3), .sym (.int .u64 (.var 0))]], .v (.int .i64 1)),
  (25, [.agg [.v (.int .i64 3), .sym (.int .u64 (.var 0))]], .v (.int .i64 1))]
theorem run_u32bad (ρ : Nat → Int) (aR aS : Addr) : runE (wF 0) (cF 0) ρ aR aS L_u32bad [] [] J_u32bad := by unfold runE; kernel_rfl
theorem v_u32bad (aR aS : Addr) (b : Int) (hb0 : 0 ≤ b) (hb1 : b < 18446744073709551616) (h0 : 4294967295 < b) : Chk aR aS 3 b 1 := fun w hG =>
  ⟨calls_symF (W := wF 0) (C := cF 0) (ρ := rho b 0 3 0 0 0) (T := []) (U := []) (ok_u32bad b hb0 hb1 h0) (fun _ h => by cases h) (fun _ h => by cases h) (run_u32bad _ aR aS) List.mem_cons_self rfl rfl rfl rfl hG,
  calls_symF (W := wF 0) (C := cF 0) (ρ := rho b 0 3 0 0 0) (T := []) (U := []) (ok_u32bad b hb0 hb1 h0) (fun _ h => by cases h) (fun _ h => by cases h) (run_u32bad _ aR aS) (List.mem_cons_of_mem _ List.mem_cons_self) rfl rfl rfl rfl hG⟩
def L_i8bad : List CF := [⟨.leq, (.var 0), (.lit 255), false⟩,
  ⟨.eql, (.sh .shr .u64 (.var 0) (.lit 8)), (.lit 0), false⟩]
theorem ok_i8bad (b : Int) (hb0 : 0 ≤ b) (hb1 : b < 18446744073709551616) (h0 : 255 < b) : ∀ f ∈ L_i8bad, f.ok (rho b 0 5 0 0 0) := by
  intro f hf
  simp only [L_i8bad, List.mem_cons, List.not_mem_nil, or_false] at hf
  rcases hf with rfl | rfl
  · exact ⟨rfl, cmp_leq_f (by simp (disch := omega) only [IE.ev, rho_0] <;> omega)⟩
  · exact ⟨rfl, cmp_eql_f (by simp (disch := omega) only [IE.ev, rho_0, shr_u64_8] <;> omega)⟩
def J_i8bad : List SEntry := [(35, [.agg [.v (.int .i64 5), .sym (.int .u64 (.var 0))]], .v (.int .i64 1)),
  (25, [.agg [.v (.int .i64 5), .sym (.int .u64 (.var 0))]], .v (.int .i64 1))]
theorem run_i8bad (ρ : Nat → Int) (aR aS : Addr) : runE (wF 0) (cF 0) ρ aR aS L_i8bad [] [] J_i8bad := by unfold runE; kernel_rfl
theorem v_i8bad (aR aS : Addr) (b : Int) (hb0 : 0 ≤ b) (hb1 : b < 18446744073709551616) (h0 : 255 < b) : Chk aR aS 5 b 1 := fun w hG =>
  ⟨calls_symF (W := wF 0) (C := cF 0) (ρ := rho b 0 5 0 0 0) (T := []) (U := []) (ok_i8bad b hb0 hb1 h0) (fun _ h => by cases h) (fun _ h => by cases h) (run_i8bad _ aR aS) List.mem_cons_self rfl rfl rfl rfl hG,
  calls_symF (W := wF 0) (C := cF 0) (ρ := rho b 0 5 0 0 0) (T := []) (U := []) (ok_i8bad b hb0 hb1 h0) (fun _ h => by cases h) (fun _ h => by cases h) (run_i8bad _ aR aS) (List.mem_cons_of_mem _ List.mem_cons_self) rfl rfl rfl rfl hG⟩
def L_i32pos : List CF := [⟨.leq, (.var 0), (.lit 4294967295), true⟩,
  ⟨.eql, (.sh .shr .u64 (.var 0) (.lit 32)), (.lit 0), true⟩,
  ⟨.gtr, (.var 0), (.lit 2147483647), false⟩]
theorem ok_i32pos (b : Int) (hb0 : 0 ≤ b) (hb1 : b < 18446744073709551616) (h0 : b ≤ 2147483647) : ∀ f ∈ L_i32pos, f.ok (rho b 0 7 0 0 0) := by
  intro f hf
  simp only [L_i32pos, List.mem_cons, List.not_mem_nil, or_false] at hf
  rcases hf with rfl | rfl | rfl
  · exact ⟨rfl, cmp_leq_t (by simp (disch := omega) only [IE.ev, rho_0] <;> omega)⟩
  · exact ⟨rfl, cmp_eql_t (by simp (disch := omega) only [IE.ev, rho_0, shr_u64_32] <;> omega)⟩
  · exact ⟨rfl, cmp_gtr_f (by simp (disch := omega) only [IE.ev, rho_0] <;> omega)⟩
def J_i32pos : List SEntry := [(35, [.agg [.v (.int .i64 7), .sym (.int .u64 (.var 0))]], .v (.int .i64 0)),
  (25, [.agg [.v (.int .i64 7), .sym (.int .u64 (.var 0))]], .v (.int .i64 0)),
  (33, [.agg [.v (.int .i64 7), .sym (.int .u64 (.var 0))]], .agg [.sym (.int .u64 (.cv .u64 (.sh .shr .i64 (.sh .shr .i64 (.cv .i64 (.sh .shl .u64 (.var 0) (.lit 32))) (.lit 32)) (.lit 63)))), .sym (.int .u64 (.cv .u64 (.sh .shr .i64 (.cv .i64 (.sh .shl .u64 (.var 0) (.lit 32))) (.lit 32))))]),
  (126, [.agg [.v (.int .i64 7), .sym (.int .u64 (.var 0))]], .sym (.int .i64 (.cv .i64 (.var 0))))]
theorem run_i32pos (ρ : Nat → Int) (aR aS : Addr) : runE (wF 0) (cF 0) ρ aR aS L_i32pos [] [] J_i32pos := by unfold runE; kernel_rfl
theorem v_i32pos (aR aS : Addr) (b : Int) (hb0 : 0 ≤ b) (hb1 : b < 18446744073709551616) (h0 : b ≤ 2147483647) : Chk aR aS 7 b 0 := fun w hG =>
  ⟨calls_symF (W := wF 0) (C := cF 0) (ρ := rho b 0 7 0 0 0) (T := []) (U := []) (ok_i32pos b hb0 hb1 h0) (fun _ h => by cases h) (fun _ h => by cases h) (run_i32pos _ aR aS) List.mem_cons_self rfl rfl rfl rfl hG,
  calls_symF (W := wF 0) (C := cF 0) (ρ := rho b 0 7 0 0 0) (T := []) (U := []) (ok_i32pos b hb0 hb1 h0) (fun _ h => by cases h) (fun _ h => by cases h) (run_i32pos _ aR aS) (List.mem_cons_of_mem _ List.mem_cons_self) rfl rfl rfl rfl hG⟩
theorem n_i32pos (aR aS : Addr) (b : Int) (hb0 : 0 ≤ b) (hb1 : b < 18446744073709551616) (h0 : b ≤ 2147483647) : IntV aR aS 7 b b := fun w hG => by
  have e1 : IE.ev (rho b 0 7 0 0 0) (.cv .u64 (.sh .shr .i64 (.sh .shr .i64 (.cv .i64 (.sh .shl .u64 (.var 0) (.lit 32))) (.lit 32)) (.lit 63))) = hiI b := by
    rw [hiI_pos (by omega)]
    simp (disch := omega) only [IE.ev, rho_0, shl_u64_32, shr_i64_32, shr_i64_63, wrap_i64, wrap_u64] <;> omega
  have e2 : IE.ev (rho b 0 7 0 0 0) (.cv .u64 (.sh .shr .i64 (.cv .i64 (.sh .shl .u64 (.var 0) (.lit 32))) (.lit 32))) = loI b := by
    unfold loI
    simp (disch := omega) only [IE.ev, rho_0, shl_u64_32, shr_i64_32, wrap_i64, wrap_u64] <;> omega
  have e3 : IE.ev (rho b 0 7 0 0 0) (.cv .i64 (.var 0)) = IntKind.wrap .i64 b := by
    rw [wrap_i64]
    simp (disch := omega) only [IE.ev, rho_0, wrap_i64] <;> omega
  rw [← e1, ← e2, ← e3]
  exact ⟨calls_symF (W := wF 0) (C := cF 0) (ρ := rho b 0 7 0 0 0) (T := []) (U := []) (ok_i32pos b hb0 hb1 h0) (fun _ h => by cases h) (fun _ h => by cases h) (run_i32pos _ aR aS) (List.mem_cons_of_mem _ (List.mem_cons_of_mem _ List.mem_cons_self)) rfl rfl rfl rfl hG,
  calls_symF (W := wF 0) (C := cF 0) (ρ := rho b 0 7 0 0 0) (T := []) (U := []) (ok_i32pos b hb0 hb1 h0) (fun _ h => by cases h) (fun _ h => by cases h) (run_i32pos _ aR aS) (List.mem_cons_of_mem _ (List.mem_cons_of_mem _ (List.mem_cons_of_mem _ List.mem_cons_self))) rfl rfl rfl rfl hG⟩
def L_i64neg : List CF := [⟨.leq, (.var 0), (.lit 18446744073709551615), true⟩,
  ⟨.eql, (.sh .shr .u64 (.var 0) (.lit 64)), (.lit 0), true⟩,
  ⟨.gtr, (.var 0), (.lit 9223372036854775807), true⟩]
theorem ok_i64neg (b : Int) (hb0 : 0 ≤ b) (hb1 : b < 18446744073709551616) (h0 : 9223372036854775807 < b) : ∀ f ∈ L_i64neg, f.ok (rho b 0 8 0 0 0) := by
  intro f hf
  simp only [L_i64neg, List.mem_cons, List.not_mem_nil, or_false] at hf
  rcases hf with rfl | rfl | rfl
  · exact ⟨rfl, cmp_leq_t (by simp (disch := omega) only [IE.ev, rho_0] <;> omega)⟩
  · exact ⟨rfl, cmp_eql_t (by simp (disch := omega) only [IE.ev, rho_0, shr_u64_64] <;> omega)⟩
  · exact ⟨rfl, cmp_gtr_t (by simp (disch := omega) only [IE.ev, rho_0] <;> omega)⟩
def J_i64neg : List SEntry := [(35, [.agg [.v (.int .i64 8), .sym (.int .u64 (.var 0))]], .v (.int .i64 0)),
  (25, [.agg [.v (.int .i64 8), .sym (.int .u64 (.var 0))]], .v (.int .i64 0)),
  (33, [.agg [.v (.int .i64 8), .sym (.int .u64 (.var 0))]], .agg [.sym (.int .u64 (.cv .u64 (.sh .shr .i64 (.sh .shr .i64 (.cv .i64 (.sh .shl .u64 (.var 0) (.lit 0))) (.lit 0)) (.lit 63)))), .sym (.int .u64 (.cv .u64 (.sh .shr .i64 (.cv .i64 (.sh .shl .u64 (.var 0) (.lit 0))) (.lit 0))))]),
  (126, [.agg [.v (.int .i64 8), .sym (.int .u64 (.var 0))]], .sym (.int .i64 (.cv .i64 (.bin .or .u64 (.var 0) (.lit 0)))))]
theorem run_i64neg (ρ : Nat → Int) (aR aS : Addr) : runE (wF 0) (cF 0) ρ aR aS L_i64neg [] [] J_i64neg := by unfold runE; kernel_rfl
theorem v_i64neg (aR aS : Addr) (b : Int) (hb0 : 0 ≤ b) (hb1 : b < 18446744073709551616) (h0 : 9223372036854775807 < b) : Chk aR aS 8 b 0 := fun w hG =>
  ⟨calls_symF (W := wF 0) (C := cF 0) (ρ := rho b 0 8 0 0 0) (T := []) (U := []) (ok_i64neg b hb0 hb1 h0) (fun _ h => by cases h) (fun _ h => by cases h) (run_i64neg _ aR aS) List.mem_cons_self rfl rfl rfl rfl hG,
  calls_symF (W := wF 0) (C := cF 0) (ρ := rho b 0 8 0 0 0) (T := []) (U := []) (ok_i64neg b hb0 hb1 h0) (fun _ h => by cases h) (fun _ h => by cases h) (run_i64neg _ aR aS) (List.mem_cons_of_mem _ List.mem_cons_self) rfl rfl rfl rfl hG⟩
theorem n_i64neg (aR aS : Addr) (b : Int) (hb0 : 0 ≤ b) (hb1 : b < 18446744073709551616) (h0 : 9223372036854775807 < b) : IntV aR aS 8 b (b - 18446744073709551616) := fun w hG => by
  have e1 : IE.ev (rho b 0 8 0 0 0) (.cv .u64 (.sh .shr .i64 (.sh .shr .i64 (.cv .i64 (.sh .shl .u64 (.var 0) (.lit 0))) (.lit 0)) (.lit 63))) = hiI (b - 18446744073709551616) := by
    rw [hiI_neg (by omega)]
    simp (disch := omega) only [IE.ev, rho_0, shl_u64_0, shr_i64_0, shr_i64_63, wrap_i64, wrap_u64] <;> omega
  have e2 : IE.ev (rho b 0 8 0 0 0) (.cv .u64 (.sh .shr .i64 (.cv .i64 (.sh .shl .u64 (.var 0) (.lit 0))) (.lit 0))) = loI (b - 18446744073709551616) := by
    unfold loI
    simp (disch := omega) only [IE.ev, rho_0, shl_u64_0, shr_i64_0, wrap_i64, wrap_u64] <;> omega
  have e3 : IE.ev (rho b 0 8 0 0 0) (.cv .i64 (.bin .or .u64 (.var 0) (.lit 0))) = IntKind.wrap .i64 (b - 18446744073709551616) := by
    rw [wrap_i64]
    simp (disch := omega) only [IE.ev, rho_0, or_u64_64, wrap_i64] <;> omega
  rw [← e1, ← e2, ← e3]
  exact ⟨calls_symF (W := wF 0) (C := cF 0) (ρ := rho b 0 8 0 0 0) (T := []) (U := []) (ok_i64neg b hb0 hb1 h0) (fun _ h => by cases h) (fun _ h => by cases h) (run_i64neg _ aR aS) (List.mem_cons_of_mem _ (List.mem_cons_of_mem _ List.mem_cons_self)) rfl rfl rfl rfl hG,
  calls_symF (W := wF 0) (C := cF 0) (ρ := rho b 0 8 0 0 0) (T := []) (U := []) (ok_i64neg b hb0 hb1 h0) (fun _ h => by cases h) (fun _ h => by cases h) (run_i64neg _ aR aS) (List.mem_cons_of_mem _ (List.mem_cons_of_mem _ (List.mem_cons_of_mem _ List.mem_cons_self))) rfl rfl rfl rfl hG⟩
def L_f32ok : List CF := [⟨.leq, (.var 0), (.lit 4294967295), true⟩,
  ⟨.neq, (.bin .rem .u64 (.bin .quo .u64 (.var 0) (.lit 8388608)) (.lit 256)), (.lit 255), true⟩,
  ⟨.neq, (.var 0), (.lit 2147483648), true⟩,
  ⟨.eql, (.sh .shr .u64 (.var 0) (.lit 32)), (.lit 0), true⟩,
  ⟨.neq, (.bin .and .u32 (.cv .u32 (.var 0)) (.lit 2139095040)), (.lit 2139095040), true⟩,
  ⟨.neq, (.cv .u32 (.var 0)), (.lit 2147483648), true⟩]
theorem ok_f32ok (b : Int) (hb0 : 0 ≤ b) (hb1 : b < 18446744073709551616) (h0 : b < 4294967296) (h1 : b / 8388608 % 256 ≠ 255) (h2 : b ≠ 2147483648) : ∀ f ∈ L_f32ok, f.ok (rho b 0 9 0 0 0) := by
  intro f hf
  simp only [L_f32ok, List.mem_cons, List.not_mem_nil, or_false] at hf
  rcases hf with rfl | rfl | rfl | rfl | rfl | rfl
  · exact ⟨rfl, cmp_leq_t (by simp (disch := omega) only [IE.ev, rho_0] <;> omega)⟩
  · exact ⟨rfl, cmp_neq_t (by simp (disch := omega) only [IE.ev, rho_0, quo_u64, rem_u64] <;> omega)⟩
  · exact ⟨rfl, cmp_neq_t (by simp (disch := omega) only [IE.ev, rho_0] <;> omega)⟩
  · exact ⟨rfl, cmp_eql_t (by simp (disch := omega) only [IE.ev, rho_0, shr_u64_32] <;> omega)⟩
  · exact ⟨rfl, cmp_neq_t (by simp (disch := omega) only [IE.ev, rho_0, and_u32_exp, wrap_u32] <;> omega)⟩
  · exact ⟨rfl, cmp_neq_t (by simp (disch := omega) only [IE.ev, rho_0, wrap_u32] <;> omega)⟩
def J_f32ok : List SEntry := [(35, [.agg [.v (.int .i64 9), .sym (.int .u64 (.var 0))]], .v (.int .i64 0)),
  (25, [.agg [.v (.int .i64 9), .sym (.int .u64 (.var 0))]], .v (.int .i64 0))]
theorem run_f32ok (ρ : Nat → Int) (aR aS : Addr) : runE (wF 0) (cF 0) ρ aR aS L_f32ok [] [] J_f32ok := by unfold runE; kernel_rfl
theorem v_f32ok (aR aS : Addr) (b : Int) (hb0 : 0 ≤ b) (hb1 : b < 18446744073709551616) (h0 : b < 4294967296) (h1 : b / 8388608 % 256 ≠ 255) (h2 : b ≠ 2147483648) : Chk aR aS 9 b 0 := fun w hG =>
  ⟨calls_symF (W := wF 0) (C := cF 0) (ρ := rho b 0 9 0 0 0) (T := []) (U := []) (ok_f32ok b hb0 hb1 h0 h1 h2) (fun _ h => by cases h) (fun _ h => by cases h) (run_f32ok _ aR aS) List.mem_cons_self rfl rfl rfl rfl hG,
  calls_symF (W := wF 0) (C := cF 0) (ρ := rho b 0 9 0 0 0) (T := []) (U := []) (ok_f32ok b hb0 hb1 h0 h1 h2) (fun _ h => by cases h) (fun _ h => by cases h) (run_f32ok _ aR aS) (List.mem_cons_of_mem _ List.mem_cons_self) rfl rfl rfl rfl hG⟩
def L_c64hizero : List CF := [⟨.leq, (.var 0), (.lit 18446744073709551615), true⟩,
  ⟨.neq, (.bin .rem .u64 (.bin .quo .u64 (.bin .rem .u64 (.var 0) (.lit 4294967296)) (.lit 8388608)) (.lit 256)), (.lit 255), true⟩,
  ⟨.neq, (.bin .rem .u64 (.var 0) (.lit 4294967296)), (.lit 2147483648), true⟩,
  ⟨.neq, (.bin .rem .u64 (.bin .quo .u64 (.bin .quo .u64 (.var 0) (.lit 4294967296)) (.lit 8388608)) (.lit 256)), (.lit 255), true⟩,
  ⟨.neq, (.bin .quo .u64 (.var 0) (.lit 4294967296)), (.lit 2147483648), false⟩,
  ⟨.eql, (.sh .shr .u64 (.var 0) (.lit 64)), (.lit 0), true⟩,
  ⟨.neq, (.bin .and .u32 (.cv .u32 (.var 0)) (.lit 2139095040)), (.lit 2139095040), true⟩,
  ⟨.neq, (.cv .u32 (.var 0)), (.lit 2147483648), true⟩,
  ⟨.neq, (.bin .and .u32 (.cv .u32 (.sh .shr .u64 (.var 0) (.lit 32))) (.lit 2139095040)), (.lit 2139095040), true⟩,
  ⟨.neq, (.cv .u32 (.sh .shr .u64 (.var 0) (.lit 32))), (.lit 2147483648), false⟩]
theorem ok_c64hizero (b : Int) (hb0 : 0 ≤ b) (hb1 : b < 18446744073709551616) (h0 : (b % 4294967296) / 8388608 % 256 ≠ 255) (h1 : (b % 4294967296) ≠ 2147483648) (h2 : (b / 4294967296) = 2147483648) : ∀ f ∈ L_c64hizero, f.ok (rho b 0 10 0 0 0) := by
  intro f hf
  simp only [L_c64hizero, List.mem_cons, List.not_mem_nil, or_false] at hf
  rcases hf with rfl | rfl | rfl | rfl | rfl | rfl | rfl | rfl | rfl | rfl
  · exact ⟨rfl, cmp_leq_t (by simp (disch := omega) only [IE.ev, rho_0] <;> omega)⟩
  · exact ⟨rfl, cmp_neq_t (by simp (disch := omega) only [IE.ev, rho_0, quo_u64, rem_u64] <;> omega)⟩
  · exact ⟨rfl, cmp_neq_t (by simp (disch := omega) only [IE.ev, rho_0, rem_u64] <;> omega)⟩
  · exact ⟨rfl, cmp_neq_t (by simp (disch := omega) only [IE.ev, rho_0, quo_u64, rem_u64] <;> omega)⟩
  · exact ⟨rfl, cmp_neq_f (by simp (disch := omega) only [IE.ev, rho_0, quo_u64] <;> omega)⟩
  · exact ⟨rfl, cmp_eql_t (by simp (disch := omega) only [IE.ev, rho_0, shr_u64_64] <;> omega)⟩
  · exact ⟨rfl, cmp_neq_t (by simp (disch := omega) only [IE.ev, rho_0, and_u32_exp, wrap_u32] <;> omega)⟩
  · exact ⟨rfl, cmp_neq_t (by simp (disch := omega) only [IE.ev, rho_0, wrap_u32] <;> omega)⟩
  · exact ⟨rfl, cmp_neq_t (by simp (disch := omega) only [IE.ev, rho_0, and_u32_exp, shr_u64_32, wrap_u32] <;> omega)⟩
  · exact ⟨rfl, cmp_neq_f (by simp (disch := omega) only [IE.ev, rho_0, shr_u64_32, wrap_u32] <;> omega)⟩
def J_c64hizero : List SEntry := [(35, [.agg [.v (.int .i64 10), .sym (.int .u64 (.var 0))]], .v (.int .i64 1)),
  (25, [.agg [.v (.int .i64 10), .sym (.int .u64 (.var 0))]], .v (.int .i64 1))]
theorem run_c64hizero (ρ : Nat → Int) (aR aS : Addr) : runE (wF 0) (cF 0) ρ aR aS L_c64hizero [] [] J_c64hizero := by unfold runE; kernel_rfl
theorem v_c64hizero (aR aS : Addr) (b : Int) (hb0 : 0 ≤ b) (hb1 : b < 18446744073709551616) (h0 : (b % 4294967296) / 8388608 % 256 ≠ 255) (h1 : (b % 4294967296) ≠ 2147483648) (h2 : (b / 4294967296) = 2147483648) : Chk aR aS 10 b 1 := fun w hG =>
  ⟨calls_symF (W := wF 0) (C := cF 0) (ρ := rho b 0 10 0 0 0) (T := []) (U := []) (ok_c64hizero b hb0 hb1 h0 h1 h2) (fun _ h => by cases h) (fun _ h => by cases h) (run_c64hizero _ aR aS) List.mem_cons_self rfl rfl rfl rfl hG,
  calls_symF (W := wF 0) (C := cF 0) (ρ := rho b 0 10 0 0 0) (T := []) (U := []) (ok_c64hizero b hb0 hb1 h0 h1 h2) (fun _ h => by cases h) (fun _ h => by cases h) (run_c64hizero _ aR aS) (List.mem_cons_of_mem _ List.mem_cons_self) rfl rfl rfl rfl hG⟩
def L_neg : List CF := [⟨.lss, (.var 2), (.lit 0), true⟩]
theorem ok_neg (b vk : Int) (h0 : vk < 0) : ∀ f ∈ L_neg, f.ok (rho b 0 vk 0 0 0) := by
  intro f hf
  simp only [L_neg, List.mem_cons, List.not_mem_nil, or_false] at hf
  subst hf
  · exact ⟨rfl, cmp_lss_t (by simp (disch := omega) only [IE.ev, rho_2] <;> omega)⟩
def J_neg : List SEntry := [(35, [.agg [.sym (.int .i64 (.var 2)), .sym (.int .u64 (.var 0))]], .v (.int .i64 11)),
  (25, [.agg [.sym (.int .i64 (.var 2)), .sym (.int .u64 (.var 0))]], .v (.int .i64 11))]
theorem run_neg (ρ : Nat → Int) (aR aS : Addr) : runE (wF 0) (cF 0) ρ aR aS L_neg [] [] J_neg := by unfold runE; kernel_rfl
theorem v_neg (aR aS : Addr) (b vk : Int) (h0 : vk < 0) : Chk aR aS vk b 11 := fun w hG =>
  ⟨calls_symF (W := wF 0) (C := cF 0) (ρ := rho b 0 vk 0 0 0) (T := []) (U := []) (ok_neg b vk h0) (fun _ h => by cases h) (fun _ h => by cases h) (run_neg _ aR aS) List.mem_cons_self rfl rfl rfl rfl hG,
  calls_symF (W := wF 0) (C := cF 0) (ρ := rho b 0 vk 0 0 0) (T := []) (U := []) (ok_neg b vk h0) (fun _ h => by cases h) (fun _ h => by cases h) (run_neg _ aR aS) (List.mem_cons_of_mem _ List.mem_cons_self) rfl rfl rfl rfl hG⟩
def L_big : List CF := [⟨.lss, (.var 2), (.lit 0), false⟩,
  ⟨.geq, (.var 2), (.lit 11), true⟩]
theorem ok_big (b vk : Int) (h0 : 11 ≤ vk) : ∀ f ∈ L_big, f.ok (rho b 0 vk 0 0 0) := by
  intro f hf
  simp only [L_big, List.mem_cons, List.not_mem_nil, or_false] at hf
  rcases hf with rfl | rfl
  · exact ⟨rfl, cmp_lss_f (by simp (disch := omega) only [IE.ev, rho_2] <;> omega)⟩
  · exact ⟨rfl, cmp_geq_t (by simp (disch := omega) only [IE.ev, rho_2] <;> omega)⟩
def J_big : List SEntry := [(35, [.agg [.sym (.int .i64 (.var 2)), .sym (.int .u64 (.var 0))]], .v (.int .i64 11)),
  (25, [.agg [.sym (.int .i64 (.var 2)), .sym (.int .u64 (.var 0))]], .v (.int .i64 11))]
theorem run_big (ρ : Nat → Int) (aR aS : Addr) : runE (wF 0) (cF 0) ρ aR aS L_big [] [] J_big := by unfold runE; kernel_rfl
theorem v_big (aR aS : Addr) (b vk : Int) (h0 : 11 ≤ vk) : Chk aR aS vk b 11 := fun w hG =>
  ⟨calls_symF (W := wF 0) (C := cF 0) (ρ := rho b 0 vk 0 0 0) (T := []) (U := []) (ok_big b vk h0) (fun _ h => by cases h) (fun _ h => by cases h) (run_big _ aR aS) List.mem_cons_self rfl rfl rfl rfl hG,
  calls_symF (W := wF 0) (C := cF 0) (ρ := rho b 0 vk 0 0 0) (T := []) (U := []) (ok_big b vk h0) (fun _ h => by cases h) (fun _ h => by cases h) (run_big _ aR aS) (List.mem_cons_of_mem _ List.mem_cons_self) rfl rfl rfl rfl hG⟩
end
end Go.Proofs.YtonkcpmefnddaaaGreatDoor
