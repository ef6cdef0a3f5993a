import Derived.Test.YtonkcpmefnddaaaGreatDoorHA
namespace Go.Proofs.YtonkcpmefnddaaaGreatDoor
noncomputable section
open Go Go.RX
open Go.RowKit (Below)
set_option maxRecDepth 1000000
set_option maxHeartbeats 4000000
def L_u8ok : List CF := [⟨.leq, (.var 0), (.lit 255), true⟩,
  ⟨.eql, (.sh .shr .u64 (.var 0) (.lit 8)), (.lit 0), true⟩]
theorem ok_u8ok (b : Int) (hb0 : 0 ≤ b) (hb1 : b < 18446744073709551616) (h0 : b ≤ 255) : ∀ f ∈ L_u8ok, f.ok (rho b 0 1 0 0 0) := by
  intro f hf
  simp only [L_u8ok, List.mem_cons, List.not_mem_nil, or_false] at hf
  rcases hf with rfl | rfl
  · exact ⟨rfl, cmp_leq_t (by simp (disch := omega) only [IE.ev, rho_0] <;> omega)⟩
  · exact ⟨rfl, cmp_eql_t (by simp (disch := omega) only [IE.ev, rho_0, shr_u64_8] <;> omega)⟩
def J_u8ok : List SEntry := [(35, [.agg [.v (.int .i64 1), .sym (.int .u64 (.var 0))]], .v (.int .i64 0)),
  (25, [.agg [.v (.int .i64 1), .sym (.int .u64 (.var 0))]], .v (.int .i64 0)),
  (33, [.agg [.v (.int .i64 1), .sym (.int .u64 (.var 0))]], .agg [.v (.int .u64 0), .sym (.int .u64 (.var 0))]),
  (126, [.agg [.v (.int .i64 1), .sym (.int .u64 (.var 0))]], .sym (.int .i64 (.cv .i64 (.var 0))))]
theorem run_u8ok (ρ : Nat → Int) (aR aS : Addr) : runE (wF 0) (cF 0) ρ aR aS L_u8ok [] [] J_u8ok := by unfold runE; kernel_rfl
theorem v_u8ok (aR aS : Addr) (b : Int) (hb0 : 0 ≤ b) (hb1 : b < 18446744073709551616) (h0 : b ≤ 255) : Chk aR aS 1 b 0 := fun w hG =>
  ⟨calls_symF (W := wF 0) (C := cF 0) (ρ := rho b 0 1 0 0 0) (T := []) (U := []) (ok_u8ok b hb0 hb1 h0) (fun _ h => by cases h) (fun _ h => by cases h) (run_u8ok _ aR aS) List.mem_cons_self rfl rfl rfl rfl hG,
  calls_symF (W := wF 0) (C := cF 0) (ρ := rho b 0 1 0 0 0) (T := []) (U := []) (ok_u8ok b hb0 hb1 h0) (fun _ h => by cases h) (fun _ h => by cases h) (run_u8ok _ aR aS) (List.mem_cons_of_mem _ List.mem_cons_self) rfl rfl rfl rfl hG⟩
theorem n_u8ok (aR aS : Addr) (b : Int) (hb0 : 0 ≤ b) (hb1 : b < 18446744073709551616) (h0 : b ≤ 255) : IntV aR aS 1 b b := fun w hG => by
  have e1 : 0 = hiI b := by
    rw [hiI_pos (by omega)]
  have e2 : IE.ev (rho b 0 1 0 0 0) (.var 0) = loI b := by
    unfold loI
    simp (disch := omega) only [IE.ev, rho_0] <;> omega
  have e3 : IE.ev (rho b 0 1 0 0 0) (.cv .i64 (.var 0)) = IntKind.wrap .i64 b := by
    rw [wrap_i64]
    simp (disch := omega) only [IE.ev, rho_0, wrap_i64] <;> omega
  rw [← e1, ← e2, ← e3]
  exact ⟨calls_symF (W := wF 0) (C := cF 0) (ρ := rho b 0 1 0 0 0) (T := []) (U := []) (ok_u8ok b hb0 hb1 h0) (fun _ h => by cases h) (fun _ h => by cases h) (run_u8ok _ aR aS) (List.mem_cons_of_mem _ (List.mem_cons_of_mem _ List.mem_cons_self)) rfl rfl rfl rfl hG,
  calls_symF (W := wF 0) (C := cF 0) (ρ := rho b 0 1 0 0 0) (T := []) (U := []) (ok_u8ok b hb0 hb1 h0) (fun _ h => by cases h) (fun _ h => by cases h) (run_u8ok _ aR aS) (List.mem_cons_of_mem _ (List.mem_cons_of_mem _ (List.mem_cons_of_mem _ List.mem_cons_self))) rfl rfl rfl rfl hG⟩
def L_u32ok : List CF := [⟨.leq, (.var 0), (.lit 4294967295), true⟩,
  ⟨.eql, (.sh .shr .u64 (.var 0) (.lit 32)), (.lit 0), true⟩]
theorem ok_u32ok (b : Int) (hb0 : 0 ≤ b) (hb1 : b < 18446744073709551616) (h0 : b ≤ 4294967295) : ∀ f ∈ L_u32ok, f.ok (rho b 0 3 0 0 0) := by
  intro f hf
  simp only [L_u32ok, List.mem_cons, List.not_mem_nil, or_false] at hf
  rcases hf with rfl | rfl
  · exact ⟨rfl, cmp_leq_t (by simp (disch := omega) only [IE.ev, rho_0] <;> omega)⟩
  · exact ⟨rfl, cmp_eql_t (by simp (disch := omega) only [IE.ev, rho_0, shr_u64_32] <;> omega)⟩
def J_u32ok : List SEntry := [(35, [.agg [.v (.int .i64 3), .sym (.int .u64 (.var 0))]], .v (.int .i64 0)),
  (25, [.agg [.v (.int .i64 3), .sym (.int .u64 (.var 0))]], .v (.int .i64 0)),
  (33, [.agg [.v (.int .i64 3), .sym (.int .u64 (.var 0))]], .agg [.v (.int .u64 0), .sym (.int .u64 (.var 0))]),
  (126, [.agg [.v (.int .i64 3), .sym (.int .u64 (.var 0))]], .sym (.int .i64 (.cv .i64 (.var 0))))]
theorem run_u32ok (ρ : Nat → Int) (aR aS : Addr) : runE (wF 0) (cF 0) ρ aR aS L_u32ok [] [] J_u32ok := by unfold runE; kernel_rfl
theorem v_u32ok (aR aS : Addr) (b : Int) (hb0 : 0 ≤ b) (hb1 : b < 18446744073709551616) (h0 : b ≤ 4294967295) : Chk aR aS 3 b 0 := fun w hG =>
  ⟨calls_symF (W := wF 0) (C := cF 0) (ρ := rho b 0 3 0 0 0) (T := []) (U := []) (ok_u32ok b hb0 hb1 h0) (fun _ h => by cases h) (fun _ h => by cases h) (run_u32ok _ aR aS) List.mem_cons_self rfl rfl rfl rfl hG,
  calls_symF (W := wF 0) (C := cF 0) (ρ := rho b 0 3 0 0 0) (T := []) (U := []) (ok_u32ok b hb0 hb1 h0) (fun _ h => by cases h) (fun _ h => by cases h) (run_u32ok _ aR aS) (List.mem_cons_of_mem _ List.mem_cons_self) rfl rfl rfl rfl hG⟩
theorem n_u32ok (aR aS : Addr) (b : Int) (hb0 : 0 ≤ b) (hb1 : b < 18446744073709551616) (h0 : b ≤ 4294967295) : IntV aR aS 3 b b := fun w hG => by
  have e1 : 0 = hiI b := by
    rw [hiI_pos (by omega)]
  have e2 : IE.ev (rho b 0 3 0 0 0) (.var 0) = loI b := by
    unfold loI
    simp (disch := omega) only [IE.ev, rho_0] <;> omega
  have e3 : IE.ev (rho b 0 3 0 0 0) (.cv .i64 (.var 0)) = IntKind.wrap .i64 b := by
    rw [wrap_i64]
    simp (disch := omega) only [IE.ev, rho_0, wrap_i64] <;> omega
  rw [← e1, ← e2, ← e3]
  exact ⟨calls_symF (W := wF 0) (C := cF 0) (ρ := rho b 0 3 0 0 0) (T := []) (U := []) (ok_u32ok b hb0 hb1 h0) (fun _ h => by cases h) (fun _ h => by cases h) (run_u32ok _ aR aS) (List.mem_cons_of_mem _ (List.mem_cons_of_mem _ List.mem_cons_self)) rfl rfl rfl rfl hG,
  calls_symF (W := wF 0) (C := cF 0) (ρ := rho b 0 3 0 0 0) (T := []) (U := []) (ok_u32ok b hb0 hb1 h0) (fun _ h => by cases h) (fun _ h => by cases h) (run_u32ok _ aR aS) (List.mem_cons_of_mem _ (List.mem_cons_of_mem _ (List.mem_cons_of_mem _ List.mem_cons_self))) rfl rfl rfl rfl hG⟩
def L_i8neg : List CF := [⟨.leq, (.var 0), (.lit 255), true⟩,
  ⟨.eql, (.sh .shr .u64 (.var 0) (.lit 8)), (.lit 0), true⟩,
  ⟨.gtr, (.var 0), (.lit 127), true⟩]
theorem ok_i8neg (b : Int) (hb0 : 0 ≤ b) (hb1 : b < 18446744073709551616) (h0 : 127 < b) (h1 : b ≤ 255) : ∀ f ∈ L_i8neg, f.ok (rho b 0 5 0 0 0) := by
  intro f hf
  simp only [L_i8neg, List.mem_cons, List.not_mem_nil, or_false] at hf
  rcases hf with rfl | rfl | rfl
  · exact ⟨rfl, cmp_leq_t (by simp (disch := omega) only [IE.ev, rho_0] <;> omega)⟩
  · exact ⟨rfl, cmp_eql_t (by simp (disch := omega) only [IE.ev, rho_0, shr_u64_8] <;> omega)⟩
  · exact ⟨rfl, cmp_gtr_t (by simp (disch := omega) only [IE.ev, rho_0] <;> omega)⟩
def J_i8neg : List SEntry := [(35, [.agg [.v (.int .i64 5), .sym (.int .u64 (.var 0))]], .v (.int .i64 0)),
  (25, [.agg [.v (.int .i64 5), .sym (.int .u64 (.var 0))]], .v (.int .i64 0)),
  (33, [.agg [.v (.int .i64 5), .sym (.int .u64 (.var 0))]], .agg [.sym (.int .u64 (.cv .u64 (.sh .shr .i64 (.sh .shr .i64 (.cv .i64 (.sh .shl .u64 (.var 0) (.lit 56))) (.lit 56)) (.lit 63)))), .sym (.int .u64 (.cv .u64 (.sh .shr .i64 (.cv .i64 (.sh .shl .u64 (.var 0) (.lit 56))) (.lit 56))))]),
  (126, [.agg [.v (.int .i64 5), .sym (.int .u64 (.var 0))]], .sym (.int .i64 (.cv .i64 (.bin .or .u64 (.var 0) (.lit 18446744073709551360)))))]
theorem run_i8neg (ρ : Nat → Int) (aR aS : Addr) : runE (wF 0) (cF 0) ρ aR aS L_i8neg [] [] J_i8neg := by unfold runE; kernel_rfl
theorem v_i8neg (aR aS : Addr) (b : Int) (hb0 : 0 ≤ b) (hb1 : b < 18446744073709551616) (h0 : 127 < b) (h1 : b ≤ 255) : Chk aR aS 5 b 0 := fun w hG =>
  ⟨calls_symF (W := wF 0) (C := cF 0) (ρ := rho b 0 5 0 0 0) (T := []) (U := []) (ok_i8neg b hb0 hb1 h0 h1) (fun _ h => by cases h) (fun _ h => by cases h) (run_i8neg _ aR aS) List.mem_cons_self rfl rfl rfl rfl hG,
  calls_symF (W := wF 0) (C := cF 0) (ρ := rho b 0 5 0 0 0) (T := []) (U := []) (ok_i8neg b hb0 hb1 h0 h1) (fun _ h => by cases h) (fun _ h => by cases h) (run_i8neg _ aR aS) (List.mem_cons_of_mem _ List.mem_cons_self) rfl rfl rfl rfl hG⟩
theorem n_i8neg (aR aS : Addr) (b : Int) (hb0 : 0 ≤ b) (hb1 : b < 18446744073709551616) (h0 : 127 < b) (h1 : b ≤ 255) : IntV aR aS 5 b (b - 256) := fun w hG => by
  have e1 : IE.ev (rho b 0 5 0 0 0) (.cv .u64 (.sh .shr .i64 (.sh .shr .i64 (.cv .i64 (.sh .shl .u64 (.var 0) (.lit 56))) (.lit 56)) (.lit 63))) = hiI (b - 256) := by
    rw [hiI_neg (by omega)]
    simp (disch := omega) only [IE.ev, rho_0, shl_u64_56, shr_i64_56, shr_i64_63, wrap_i64, wrap_u64] <;> omega
  have e2 : IE.ev (rho b 0 5 0 0 0) (.cv .u64 (.sh .shr .i64 (.cv .i64 (.sh .shl .u64 (.var 0) (.lit 56))) (.lit 56))) = loI (b - 256) := by
    unfold loI
    simp (disch := omega) only [IE.ev, rho_0, shl_u64_56, shr_i64_56, wrap_i64, wrap_u64] <;> omega
  have e3 : IE.ev (rho b 0 5 0 0 0) (.cv .i64 (.bin .or .u64 (.var 0) (.lit 18446744073709551360))) = IntKind.wrap .i64 (b - 256) := by
    rw [wrap_i64]
    simp (disch := omega) only [IE.ev, rho_0, or_u64_8, wrap_i64] <;> omega
  rw [← e1, ← e2, ← e3]
  exact ⟨calls_symF (W := wF 0) (C := cF 0) (ρ := rho b 0 5 0 0 0) (T := []) (U := []) (ok_i8neg b hb0 hb1 h0 h1) (fun _ h => by cases h) (fun _ h => by cases h) (run_i8neg _ aR aS) (List.mem_cons_of_mem _ (List.mem_cons_of_mem _ List.mem_cons_self)) rfl rfl rfl rfl hG,
  calls_symF (W := wF 0) (C := cF 0) (ρ := rho b 0 5 0 0 0) (T := []) (U := []) (ok_i8neg b hb0 hb1 h0 h1) (fun _ h => by cases h) (fun _ h => by cases h) (run_i8neg _ aR aS) (List.mem_cons_of_mem _ (List.mem_cons_of_mem _ (List.mem_cons_of_mem _ List.mem_cons_self))) rfl rfl rfl rfl hG⟩
def L_i16bad : List CF := [⟨.leq, (.var 0), (.lit 65535), false⟩,
  ⟨.eql, (.sh .shr .u64 (.var 0) (.lit 16)), (.lit 0), false⟩]
theorem ok_i16bad (b : Int) (hb0 : 0 ≤ b) (hb1 : b < 18446744073709551616) (h0 : 65535 < b) : ∀ f ∈ L_i16bad, f.ok (rho b 0 6 0 0 0) := by
  intro f hf
  simp only [L_i16bad, List.mem_cons, List.not_mem_nil, or_false] at hf
  rcases hf with rfl | rfl
  · exact ⟨rfl, cmp_leq_f (by simp (disch := omega) only [IE.ev, rho_0] <;> omega)⟩
  · exact ⟨rfl, cmp_eql_f (by simp (disch := omega) only [IE.ev, rho_0, shr_u64_16] <;> omega)⟩
def J_i16bad : List SEntry := [(35, [.agg [.v (.int .i64 6), .sym (.int .u64 (.var 0))]], .v (.int .i64 1)),
  (25, [.agg [.v (.int .i64 6), .sym (.int .u64 (.var 0))]], .v (.int .i64 1))]
theorem run_i16bad (ρ : Nat → Int) (aR aS : Addr) : runE (wF 0) (cF 0) ρ aR aS L_i16bad [] [] J_i16bad := by unfold runE; kernel_rfl
theorem v_i16bad (aR aS : Addr) (b : Int) (hb0 : 0 ≤ b) (hb1 : b < 18446744073709551616) (h0 : 65535 < b) : Chk aR aS 6 b 1 := fun w hG =>
  ⟨calls_symF (W := wF 0) (C := cF 0) (ρ := rho b 0 6 0 0 0) (T := []) (U := []) (ok_i16bad b hb0 hb1 h0) (fun _ h => by cases h) (fun _ h => by cases h) (run_i16bad _ aR aS) List.mem_cons_self rfl rfl rfl rfl hG,
  calls_symF (W := wF 0) (C := cF 0) (ρ := rho b 0 6 0 0 0) (T := []) (U := []) (ok_i16bad b hb0 hb1 h0) (fun _ h => by cases h) (fun _ h => by cases h) (run_i16bad _ aR aS) (List.mem_cons_of_mem _ List.mem_cons_self) rfl rfl rfl rfl hG⟩
def L_i64pos : List CF := [⟨.leq, (.var 0), (.lit 18446744073709551615), true⟩,
  ⟨.eql, (.sh .shr .u64 (.var 0) (.lit 64)), (.lit 0), true⟩,
  ⟨.gtr, (.var 0), (.lit 9223372036854775807), false⟩]
theorem ok_i64pos (b : Int) (hb0 : 0 ≤ b) (hb1 : b < 18446744073709551616) (h0 : b ≤ 9223372036854775807) : ∀ f ∈ L_i64pos, f.ok (rho b 0 8 0 0 0) := by
  intro f hf
  simp only [L_i64pos, List.mem_cons, List.not_mem_nil, or_false] at hf
  rcases hf with rfl | rfl | rfl
  · exact ⟨rfl, cmp_leq_t (by simp (disch := omega) only [IE.ev, rho_0] <;> omega)⟩
  · exact ⟨rfl, cmp_eql_t (by simp (disch := omega) only [IE.ev, rho_0, shr_u64_64] <;> omega)⟩
  · exact ⟨rfl, cmp_gtr_f (by simp (disch := omega) only [IE.ev, rho_0] <;> omega)⟩
def J_i64pos : List SEntry := [(35, [.agg [.v (.int .i64 8), .sym (.int .u64 (.var 0))]], .v (.int .i64 0)),
  (25, [.agg [.v (.int .i64 8), .sym (.int .u64 (.var 0))]], .v (.int .i64 0)),
  (33, [.agg [.v (.int .i64 8), .sym (.int .u64 (.var 0))]], .agg [.sym (.int .u64 (.cv .u64 (.sh .shr .i64 (.sh .shr .i64 (.cv .i64 (.sh .shl .u64 (.var 0) (.lit 0))) (.lit 0)) (.lit 63)))), .sym (.int .u64 (.cv .u64 (.sh .shr .i64 (.cv .i64 (.sh .shl .u64 (.var 0) (.lit 0))) (.lit 0))))]),
  (126, [.agg [.v (.int .i64 8), .sym (.int .u64 (.var 0))]], .sym (.int .i64 (.cv .i64 (.var 0))))]
theorem run_i64pos (ρ : Nat → Int) (aR aS : Addr) : runE (wF 0) (cF 0) ρ aR aS L_i64pos [] [] J_i64pos := by unfold runE; kernel_rfl
theorem v_i64pos (aR aS : Addr) (b : Int) (hb0 : 0 ≤ b) (hb1 : b < 18446744073709551616) (h0 : b ≤ 9223372036854775807) : Chk aR aS 8 b 0 := fun w hG =>
  ⟨calls_symF (W := wF 0) (C := cF 0) (ρ := rho b 0 8 0 0 0) (T := []) (U := []) (ok_i64pos b hb0 hb1 h0) (fun _ h => by cases h) (fun _ h => by cases h) (run_i64pos _ aR aS) List.mem_cons_self rfl rfl rfl rfl hG,
  calls_symF (W := wF 0) (C := cF 0) (ρ := rho b 0 8 0 0 0) (T := []) (U := []) (ok_i64pos b hb0 hb1 h0) (fun _ h => by cases h) (fun _ h => by cases h) (run_i64pos _ aR aS) (List.mem_cons_of_mem _ List.mem_cons_self) rfl rfl rfl rfl hG⟩
theorem n_i64pos (aR aS : Addr) (b : Int) (hb0 : 0 ≤ b) (hb1 : b < 18446744073709551616) (h0 : b ≤ 9223372036854775807) : IntV aR aS 8 b b := fun w hG => by
  have e1 : IE.ev (rho b 0 8 0 0 0) (.cv .u64 (.sh .shr .i64 (.sh .shr .i64 (.cv .i64 (.sh .shl .u64 (.var 0) (.lit 0))) (.lit 0)) (.lit 63))) = hiI b := by
    rw [hiI_pos (by omega)]
    simp (disch := omega) only [IE.ev, rho_0, shl_u64_0, shr_i64_0, shr_i64_63, wrap_i64, wrap_u64] <;> omega
  have e2 : IE.ev (rho b 0 8 0 0 0) (.cv .u64 (.sh .shr .i64 (.cv .i64 (.sh .shl .u64 (.var 0) (.lit 0))) (.lit 0))) = loI b := by
    unfold loI
    simp (disch := omega) only [IE.ev, rho_0, shl_u64_0, shr_i64_0, wrap_i64, wrap_u64] <;> omega
  have e3 : IE.ev (rho b 0 8 0 0 0) (.cv .i64 (.var 0)) = IntKind.wrap .i64 b := by
    rw [wrap_i64]
    simp (disch := omega) only [IE.ev, rho_0, wrap_i64] <;> omega
  rw [← e1, ← e2, ← e3]
  exact ⟨calls_symF (W := wF 0) (C := cF 0) (ρ := rho b 0 8 0 0 0) (T := []) (U := []) (ok_i64pos b hb0 hb1 h0) (fun _ h => by cases h) (fun _ h => by cases h) (run_i64pos _ aR aS) (List.mem_cons_of_mem _ (List.mem_cons_of_mem _ List.mem_cons_self)) rfl rfl rfl rfl hG,
  calls_symF (W := wF 0) (C := cF 0) (ρ := rho b 0 8 0 0 0) (T := []) (U := []) (ok_i64pos b hb0 hb1 h0) (fun _ h => by cases h) (fun _ h => by cases h) (run_i64pos _ aR aS) (List.mem_cons_of_mem _ (List.mem_cons_of_mem _ (List.mem_cons_of_mem _ List.mem_cons_self))) rfl rfl rfl rfl hG⟩
def L_f32zero : List CF := [⟨.leq, (.var 0), (.lit 4294967295), true⟩,
  ⟨.neq, (.bin .rem .u64 (.bin .quo .u64 (.var 0) (.lit 8388608)) (.lit 256)), (.lit 255), true⟩,
  ⟨.neq, (.var 0), (.lit 2147483648), false⟩,
  ⟨.eql, (.sh .shr .u64 (.var 0) (.lit 32)), (.lit 0), true⟩,
  ⟨.neq, (.bin .and .u32 (.cv .u32 (.var 0)) (.lit 2139095040)), (.lit 2139095040), true⟩,
  ⟨.neq, (.cv .u32 (.var 0)), (.lit 2147483648), false⟩]
theorem ok_f32zero (b : Int) (hb0 : 0 ≤ b) (hb1 : b < 18446744073709551616) (h0 : b = 2147483648) : ∀ f ∈ L_f32zero, f.ok (rho b 0 9 0 0 0) := by
  intro f hf
  simp only [L_f32zero, List.mem_cons, List.not_mem_nil, or_false] at hf
  rcases hf with rfl | rfl | rfl | rfl | rfl | rfl
  · exact ⟨rfl, cmp_leq_t (by simp (disch := omega) only [IE.ev, rho_0] <;> omega)⟩
  · exact ⟨rfl, cmp_neq_t (by simp (disch := omega) only [IE.ev, rho_0, quo_u64, rem_u64] <;> omega)⟩
  · exact ⟨rfl, cmp_neq_f (by simp (disch := omega) only [IE.ev, rho_0] <;> omega)⟩
  · exact ⟨rfl, cmp_eql_t (by simp (disch := omega) only [IE.ev, rho_0, shr_u64_32] <;> omega)⟩
  · exact ⟨rfl, cmp_neq_t (by simp (disch := omega) only [IE.ev, rho_0, and_u32_exp, wrap_u32] <;> omega)⟩
  · exact ⟨rfl, cmp_neq_f (by simp (disch := omega) only [IE.ev, rho_0, wrap_u32] <;> omega)⟩
def J_f32zero : List SEntry := [(35, [.agg [.v (.int .i64 9), .sym (.int .u64 (.var 0))]], .v (.int .i64 1)),
  (25, [.agg [.v (.int .i64 9), .sym (.int .u64 (.var 0))]], .v (.int .i64 1))]
theorem run_f32zero (ρ : Nat → Int) (aR aS : Addr) : runE (wF 0) (cF 0) ρ aR aS L_f32zero [] [] J_f32zero := by unfold runE; kernel_rfl
theorem v_f32zero (aR aS : Addr) (b : Int) (hb0 : 0 ≤ b) (hb1 : b < 18446744073709551616) (h0 : b = 2147483648) : Chk aR aS 9 b 1 := fun w hG =>
  ⟨calls_symF (W := wF 0) (C := cF 0) (ρ := rho b 0 9 0 0 0) (T := []) (U := []) (ok_f32zero b hb0 hb1 h0) (fun _ h => by cases h) (fun _ h => by cases h) (run_f32zero _ aR aS) List.mem_cons_self rfl rfl rfl rfl hG,
  calls_symF (W := wF 0) (C := cF 0) (ρ := rho b 0 9 0 0 0) (T := []) (U := []) (ok_f32zero b hb0 hb1 h0) (fun _ h => by cases h) (fun _ h => by cases h) (run_f32zero _ aR aS) (List.mem_cons_of_mem _ List.mem_cons_self) rfl rfl rfl rfl hG⟩
def L_c64hiexp : List CF := [⟨.leq, (.var 0), (.lit 18446744073709551615), true⟩,
  ⟨.neq, (.bin .rem .u64 (.bin .quo .u64 (.bin .rem .u64 (.var 0) (.lit 4294967296)) (.lit 8388608)) (.lit 256)), (.lit 255), true⟩,
  ⟨.neq, (.bin .rem .u64 (.var 0) (.lit 4294967296)), (.lit 2147483648), true⟩,
  ⟨.neq, (.bin .rem .u64 (.bin .quo .u64 (.bin .quo .u64 (.var 0) (.lit 4294967296)) (.lit 8388608)) (.lit 256)), (.lit 255), false⟩,
  ⟨.eql, (.sh .shr .u64 (.var 0) (.lit 64)), (.lit 0), true⟩,
  ⟨.neq, (.bin .and .u32 (.cv .u32 (.var 0)) (.lit 2139095040)), (.lit 2139095040), true⟩,
  ⟨.neq, (.cv .u32 (.var 0)), (.lit 2147483648), true⟩,
  ⟨.neq, (.bin .and .u32 (.cv .u32 (.sh .shr .u64 (.var 0) (.lit 32))) (.lit 2139095040)), (.lit 2139095040), false⟩]
theorem ok_c64hiexp (b : Int) (hb0 : 0 ≤ b) (hb1 : b < 18446744073709551616) (h0 : (b % 4294967296) / 8388608 % 256 ≠ 255) (h1 : (b % 4294967296) ≠ 2147483648) (h2 : (b / 4294967296) / 8388608 % 256 = 255) : ∀ f ∈ L_c64hiexp, f.ok (rho b 0 10 0 0 0) := by
  intro f hf
  simp only [L_c64hiexp, List.mem_cons, List.not_mem_nil, or_false] at hf
  rcases hf with rfl | rfl | rfl | rfl | rfl | rfl | rfl | rfl
  · exact ⟨rfl, cmp_leq_t (by simp (disch := omega) only [IE.ev, rho_0] <;> omega)⟩
  · exact ⟨rfl, cmp_neq_t (by simp (disch := omega) only [IE.ev, rho_0, quo_u64, rem_u64] <;> omega)⟩
  · exact ⟨rfl, cmp_neq_t (by simp (disch := omega) only [IE.ev, rho_0, rem_u64] <;> omega)⟩
  · exact ⟨rfl, cmp_neq_f (by simp (disch := omega) only [IE.ev, rho_0, quo_u64, rem_u64] <;> omega)⟩
  · exact ⟨rfl, cmp_eql_t (by simp (disch := omega) only [IE.ev, rho_0, shr_u64_64] <;> omega)⟩
  · exact ⟨rfl, cmp_neq_t (by simp (disch := omega) only [IE.ev, rho_0, and_u32_exp, wrap_u32] <;> omega)⟩
  · exact ⟨rfl, cmp_neq_t (by simp (disch := omega) only [IE.ev, rho_0, wrap_u32] <;> omega)⟩
  · exact ⟨rfl, cmp_neq_f (by simp (disch := omega) only [IE.ev, rho_0, and_u32_exp, shr_u64_32, wrap_u32] <;> omega)⟩
def J_c64hiexp : List SEntry := [(35, [.agg [.v (.int .i64 10), .sym (.int .u64 (.var 0))]], .v (.int .i64 1)),
  (25, [.agg [.v (.int .i64 10), .sym (.int .u64 (.var 0))]], .v (.int .i64 1))]
theorem run_c64hiexp (ρ : Nat → Int) (aR aS : Addr) : runE (wF 0) (cF 0) ρ aR aS L_c64hiexp [] [] J_c64hiexp := by unfold runE; kernel_rfl
theorem v_c64hiexp (aR aS : Addr) (b : Int) (hb0 : 0 ≤ b) (hb1 : b < 18446744073709551616) (h0 : (b % 4294967296) / 8388608 % 256 ≠ 255) (h1 : (b % 4294967296) ≠ 2147483648) (h2 : (b / 4294967296) / 8388608 % 256 = 255) : Chk aR aS 10 b 1 := fun w hG =>
  ⟨calls_symF (W := wF 0) (C := cF 0) (ρ := rho b 0 10 0 0 0) (T := []) (U := []) (ok_c64hiexp b hb0 hb1 h0 h1 h2) (fun _ h => by cases h) (fun _ h => by cases h) (run_c64hiexp _ aR aS) List.mem_cons_self rfl rfl rfl rfl hG,
  calls_symF (W := wF 0) (C := cF 0) (ρ := rho b 0 10 0 0 0) (T := []) (U := []) (ok_c64hiexp b hb0 hb1 h0 h1 h2) (fun _ h => by cases h) (fun _ h => by cases h) (run_c64hiexp _ aR aS) (List.mem_cons_of_mem _ List.mem_cons_self) rfl rfl rfl rfl hG⟩
end
end Go.Proofs.YtonkcpmefnddaaaGreatDoor
