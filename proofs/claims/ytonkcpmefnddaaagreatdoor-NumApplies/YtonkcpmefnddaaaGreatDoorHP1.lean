import Derived.Test.YtonkcpmefnddaaaGreatDoorHA
namespace Go.Proofs.YtonkcpmefnddaaaGreatDoor
noncomputable section
open Go Go.RX
open Go.RowKit (Below)
set_option maxRecDepth 1000000
set_option maxHeartbeats 4000000
def L_bool1 : List CF := [⟨.leq, (.var 0), (.lit 1), false⟩,
  ⟨.eql, (.sh .shr .u64 (.var 0) (.lit 1)), (.lit 0), false⟩]
theorem ok_bool1 (b : Int) (hb0 : 0 ≤ b) (hb1 : b < 18446744073709551616) (h0 : 1 < b) : ∀ f ∈ L_bool1, f.ok (rho b 0 0 0 0 0) := by
  intro f hf
  simp only [L_bool1, List.mem_cons, List.not_mem_nil, or_false] at hf
  rcases hf with rfl | rfl
  · exact ⟨rfl, cmp_leq_f (by simp (disch := omega) only [IE.ev, rho_0] <;> omega)⟩
  · exact ⟨rfl, cmp_eql_f (by simp (disch := omega) only [IE.ev, rho_0, shr_u64_1] <;> omega)⟩
def J_bool1 : List SEntry := [(35, [.agg [.v (.int .i64 0), .sym (.int .u64 (.var 0))]], .v (.int .i64 1)),
  (25, [.agg [.v (.int .i64 0), .sym (.int .u64 (.var 0))]], .v (.int .i64 1))]
theorem run_bool1 (ρ : Nat → Int) (aR aS : Addr) : runE (wF 0) (cF 0) ρ aR aS L_bool1 [] [] J_bool1 := by unfold runE; kernel_rfl
theorem v_bool1 (aR aS : Addr) (b : Int) (hb0 : 0 ≤ b) (hb1 : b < 18446744073709551616) (h0 : 1 < b) : Chk aR aS 0 b 1 := fun w hG =>
  ⟨calls_symF (W := wF 0) (C := cF 0) (ρ := rho b 0 0 0 0 0) (T := []) (U := []) (ok_bool1 b hb0 hb1 h0) (fun _ h => by cases h) (fun _ h => by cases h) (run_bool1 _ aR aS) List.mem_cons_self rfl rfl rfl rfl hG,
  calls_symF (W := wF 0) (C := cF 0) (ρ := rho b 0 0 0 0 0) (T := []) (U := []) (ok_bool1 b hb0 hb1 h0) (fun _ h => by cases h) (fun _ h => by cases h) (run_bool1 _ aR aS) (List.mem_cons_of_mem _ List.mem_cons_self) rfl rfl rfl rfl hG⟩
def L_u16bad : List CF := [⟨.leq, (.var 0), (.lit 65535), false⟩,
  ⟨.eql, (.sh .shr .u64 (.var 0) (.lit 16)), (.lit 0), false⟩]
theorem ok_u16bad (b : Int) (hb0 : 0 ≤ b) (hb1 : b < 18446744073709551616) (h0 : 65535 < b) : ∀ f ∈ L_u16bad, f.ok (rho b 0 2 0 0 0) := by
  intro f hf
  simp only [L_u16bad, List.mem_cons, List.not_mem_nil, or_false] at hf
  rcases hf with rfl | rfl
  · exact ⟨rfl, cmp_leq_f (by simp (disch := omega) only [IE.ev, rho_0] <;> omega)⟩
  · exact ⟨rfl, cmp_eql_f (by simp (disch := omega) only [IE.ev, rho_0, shr_u64_16] <;> omega)⟩
def J_u16bad : List SEntry := [(35, [.agg [.v (.int .i64 2), .sym (.int .u64 (.var 0))]], .v (.int .i64 1)),
  (25, [.agg [.v (.int .i64 2), .sym (.int .u64 (.var 0))]], .v (.int .i64 1))]
theorem run_u16bad (ρ : Nat → Int) (aR aS : Addr) : runE (wF 0) (cF 0) ρ aR aS L_u16bad [] [] J_u16bad := by unfold runE; kernel_rfl
theorem v_u16bad (aR aS : Addr) (b : Int) (hb0 : 0 ≤ b) (hb1 : b < 18446744073709551616) (h0 : 65535 < b) : Chk aR aS 2 b 1 := fun w hG =>
  ⟨calls_symF (W := wF 0) (C := cF 0) (ρ := rho b 0 2 0 0 0) (T := []) (U := []) (ok_u16bad b hb0 hb1 h0) (fun _ h => by cases h) (fun _ h => by cases h) (run_u16bad _ aR aS) List.mem_cons_self rfl rfl rfl rfl hG,
  calls_symF (W := wF 0) (C := cF 0) (ρ := rho b 0 2 0 0 0) (T := []) (U := []) (ok_u16bad b hb0 hb1 h0) (fun _ h => by cases h) (fun _ h => by cases h) (run_u16bad _ aR aS) (List.mem_cons_of_mem _ List.mem_cons_self) rfl rfl rfl rfl hG⟩
def L_i8pos : List CF := [⟨.leq, (.var 0), (.lit 255), true⟩,
  ⟨.eql, (.sh .shr .u64 (.var 0) (.lit 8)), (.lit 0), true⟩,
  ⟨.gtr, (.var 0), (.lit 127), false⟩]
theorem ok_i8pos (b : Int) (hb0 : 0 ≤ b) (hb1 : b < 18446744073709551616) (h0 : b ≤ 127) : ∀ f ∈ L_i8pos, f.ok (rho b 0 5 0 0 0) := by
  intro f hf
  simp only [L_i8pos, List.mem_cons, List.not_mem_nil, or_false] at hf
  rcases hf with rfl | rfl | rfl
  · exact ⟨rfl, cmp_leq_t (by simp (disch := omega) only [IE.ev, rho_0] <;> omega)⟩
  · exact ⟨rfl, cmp_eql_t (by simp (disch := omega) only [IE.ev, rho_0, shr_u64_8] <;> omega)⟩
  · exact ⟨rfl, cmp_gtr_f (by simp (disch := omega) only [IE.ev, rho_0] <;> omega)⟩
def J_i8pos : List SEntry := [(35, [.agg [.v (.int .i64 5), .sym (.int .u64 (.var 0))]], .v (.int .i64 0)),
  (25, [.agg [.v (.int .i64 5), .sym (.int .u64 (.var 0))]], .v (.int .i64 0)),
  (33, [.agg [.v (.int .i64 5), .sym (.int .u64 (.var 0))]], .agg [.sym (.int .u64 (.cv .u64 (.sh .shr .i64 (.sh .shr .i64 (.cv .i64 (.sh .shl .u64 (.var 0) (.lit 56))) (.lit 56)) (.lit 63)))), .sym (.int .u64 (.cv .u64 (.sh .shr .i64 (.cv .i64 (.sh .shl .u64 (.var 0) (.lit 56))) (.lit 56))))]),
  (126, [.agg [.v (.int .i64 5), .sym (.int .u64 (.var 0))]], .sym (.int .i64 (.cv .i64 (.var 0))))]
theorem run_i8pos (ρ : Nat → Int) (aR aS : Addr) : runE (wF 0) (cF 0) ρ aR aS L_i8pos [] [] J_i8pos := by unfold runE; kernel_rfl
theorem v_i8pos (aR aS : Addr) (b : Int) (hb0 : 0 ≤ b) (hb1 : b < 18446744073709551616) (h0 : b ≤ 127) : Chk aR aS 5 b 0 := fun w hG =>
  ⟨calls_symF (W := wF 0) (C := cF 0) (ρ := rho b 0 5 0 0 0) (T := []) (U := []) (ok_i8pos b hb0 hb1 h0) (fun _ h => by cases h) (fun _ h => by cases h) (run_i8pos _ aR aS) List.mem_cons_self rfl rfl rfl rfl hG,
  calls_symF (W := wF 0) (C := cF 0) (ρ := rho b 0 5 0 0 0) (T := []) (U := []) (ok_i8pos b hb0 hb1 h0) (fun _ h => by cases h) (fun _ h => by cases h) (run_i8pos _ aR aS) (List.mem_cons_of_mem _ List.mem_cons_self) rfl rfl rfl rfl hG⟩
theorem n_i8pos (aR aS : Addr) (b : Int) (hb0 : 0 ≤ b) (hb1 : b < 18446744073709551616) (h0 : b ≤ 127) : IntV aR aS 5 b b := fun w hG => by
  have e1 : IE.ev (rho b 0 5 0 0 0) (.cv .u64 (.sh .shr .i64 (.sh .shr .i64 (.cv .i64 (.sh .shl .u64 (.var 0) (.lit 56))) (.lit 56)) (.lit 63))) = hiI b := by
    rw [hiI_pos (by omega)]
    simp (disch := omega) only [IE.ev, rho_0, shl_u64_56, shr_i64_56, shr_i64_63, wrap_i64, wrap_u64] <;> omega
  have e2 : IE.ev (rho b 0 5 0 0 0) (.cv .u64 (.sh .shr .i64 (.cv .i64 (.sh .shl .u64 (.var 0) (.lit 56))) (.lit 56))) = loI b := by
    unfold loI
    simp (disch := omega) only [IE.ev, rho_0, shl_u64_56, shr_i64_56, wrap_i64, wrap_u64] <;> omega
  have e3 : IE.ev (rho b 0 5 0 0 0) (.cv .i64 (.var 0)) = IntKind.wrap .i64 b := by
    rw [wrap_i64]
    simp (disch := omega) only [IE.ev, rho_0, wrap_i64] <;> omega
  rw [← e1, ← e2, ← e3]
  exact ⟨calls_symF (W := wF 0) (C := cF 0) (ρ := rho b 0 5 0 0 0) (T := []) (U := []) (ok_i8pos b hb0 hb1 h0) (fun _ h => by cases h) (fun _ h => by cases h) (run_i8pos _ aR aS) (List.mem_cons_of_mem _ (List.mem_cons_of_mem _ List.mem_cons_self)) rfl rfl rfl rfl hG,
  calls_symF (W := wF 0) (C := cF 0) (ρ := rho b 0 5 0 0 0) (T := []) (U := []) (ok_i8pos b hb0 hb1 h0) (fun _ h => by cases h) (fun _ h => by cases h) (run_i8pos _ aR aS) (List.mem_cons_of_mem _ (List.mem_cons_of_mem _ (List.mem_cons_of_mem _ List.mem_cons_self))) rfl rfl rfl rfl hG⟩
def L_i16neg : List CF := [⟨.leq, (.var 0), (.lit 65535), true⟩,
  ⟨.eql, (.sh .shr .u64 (.var 0) (.lit 16)), (.lit 0), true⟩,
  ⟨.gtr, (.var 0), (.lit 32767), true⟩]
theorem ok_i16neg (b : Int) (hb0 : 0 ≤ b) (hb1 : b < 18446744073709551616) (h0 : 32767 < b) (h1 : b ≤ 65535) : ∀ f ∈ L_i16neg, f.ok (rho b 0 6 0 0 0) := by
  intro f hf
  simp only [L_i16neg, List.mem_cons, List.not_mem_nil, or_false] at hf
  rcases hf with rfl | rfl | rfl
  · exact ⟨rfl, cmp_leq_t (by simp (disch := omega) only [IE.ev, rho_0] <;> omega)⟩
  · exact ⟨rfl, cmp_eql_t (by simp (disch := omega) only [IE.ev, rho_0, shr_u64_16] <;> omega)⟩
  · exact ⟨rfl, cmp_gtr_t (by simp (disch := omega) only [IE.ev, rho_0] <;> omega)⟩
def J_i16neg : List SEntry := [(35, [.agg [.v (.int .i64 6), .sym (.int .u64 (.var 0))]], .v (.int .i64 0)),
  (25, [.agg [.v (.int .i64 6), .sym (.int .u64 (.var 0))]], .v (.int .i64 0)),
  (33, [.agg [.v (.int .i64 6), .sym (.int .u64 (.var 0))]], .agg [.sym (.int .u64 (.cv .u64 (.sh .shr .i64 (.sh .shr .i64 (.cv .i64 (.sh .shl .u64 (.var 0) (.lit 48))) (.lit 48)) (.lit 63)))), .sym (.int .u64 (.cv .u64 (.sh .shr .i64 (.cv .i64 (.sh .shl .u64 (.var 0) (.lit 48))) (.lit 48))))]),
  (126, [.agg [.v (.int .i64 6), .sym (.int .u64 (.var 0))]], .sym (.int .i64 (.cv .i64 (.bin .or .u64 (.var 0) (.lit 18446744073709486080)))))]
theorem run_i16neg (ρ : Nat → Int) (aR aS : Addr) : runE (wF 0) (cF 0) ρ aR aS L_i16neg [] [] J_i16neg := by unfold runE; kernel_rfl
theorem v_i16neg (aR aS : Addr) (b : Int) (hb0 : 0 ≤ b) (hb1 : b < 18446744073709551616) (h0 : 32767 < b) (h1 : b ≤ 65535) : Chk aR aS 6 b 0 := fun w hG =>
  ⟨calls_symF (W := wF 0) (C := cF 0) (ρ := rho b 0 6 0 0 0) (T := []) (U := []) (ok_i16neg b hb0 hb1 h0 h1) (fun _ h => by cases h) (fun _ h => by cases h) (run_i16neg _ aR aS) List.mem_cons_self rfl rfl rfl rfl hG,
  calls_symF (W := wF 0) (C := cF 0) (ρ := rho b 0 6 0 0 0) (T := []) (U := []) (ok_i16neg b hb0 hb1 h0 h1) (fun _ h => by cases h) (fun _ h => by cases h) (run_i16neg _ aR aS) (List.mem_cons_of_mem _ List.mem_cons_self) rfl rfl rfl rfl hG⟩
theorem n_i16neg (aR aS : Addr) (b : Int) (hb0 : 0 ≤ b) (hb1 : b < 18446744073709551616) (h0 : 32767 < b) (h1 : b ≤ 65535) : IntV aR aS 6 b (b - 65536) := fun w hG => by
  have e1 : IE.ev (rho b 0 6 0 0 0) (.cv .u64 (.sh .shr .i64 (.sh .shr .i64 (.cv .i64 (.sh .shl .u64 (.var 0) (.lit 48))) (.lit 48)) (.lit 63))) = hiI (b - 65536) := by
    rw [hiI_neg (by omega)]
    simp (disch := omega) only [IE.ev, rho_0, shl_u64_48, shr_i64_48, shr_i64_63, wrap_i64, wrap_u64] <;> omega
  have e2 : IE.ev (rho b 0 6 0 0 0) (.cv .u64 (.sh .shr .i64 (.cv .i64 (.sh .shl .u64 (.var 0) (.lit 48))) (.lit 48))) = loI (b - 65536) := by
    unfold loI
    simp (disch := omega) only [IE.ev, rho_0, shl_u64_48, shr_i64_48, wrap_i64, wrap_u64] <;> omega
  have e3 : IE.ev (rho b 0 6 0 0 0) (.cv .i64 (.bin .or .u64 (.var 0) (.lit 18446744073709486080))) = IntKind.wrap .i64 (b - 65536) := by
    rw [wrap_i64]
    simp (disch := omega) only [IE.ev, rho_0, or_u64_16, wrap_i64] <;> omega
  rw [← e1, ← e2, ← e3]
  exact ⟨calls_symF (W := wF 0) (C := cF 0) (ρ := rho b 0 6 0 0 0) (T := []) (U := []) (ok_i16neg b hb0 hb1 h0 h1) (fun _ h => by cases h) (fun _ h => by cases h) (run_i16neg _ aR aS) (List.mem_cons_of_mem _ (List.mem_cons_of_mem _ List.mem_cons_self)) rfl rfl rfl rfl hG,
  calls_symF (W := wF 0) (C := cF 0) (ρ := rho b 0 6 0 0 0) (T := []) (U := []) (ok_i16neg b hb0 hb1 h0 h1) (fun _ h => by cases h) (fun _ h => by cases h) (run_i16neg _ aR aS) (List.mem_cons_of_mem _ (List.mem_cons_of_mem _ (List.mem_cons_of_mem _ List.mem_cons_self))) rfl rfl rfl rfl hG⟩
def L_i32bad : List CF := [⟨.leq, (.var 0), (.lit 4294967295), false⟩,
  ⟨.eql, (.sh .shr .u64 (.var 0) (.lit 32)), (.lit 0), false⟩]
theorem ok_i32bad (b : Int) (hb0 : 0 ≤ b) (hb1 : b < 18446744073709551616) (h0 : 4294967295 < b) : ∀ f ∈ L_i32bad, f.ok (rho b 0 7 0 0 0) := by
  intro f hf
  simp only [L_i32bad, List.mem_cons, List.not_mem_nil, or_false] at hf
  rcases hf with rfl | rfl
  · exact ⟨rfl, cmp_leq_f (by simp (disch := omega) only [IE.ev, rho_0] <;> omega)⟩
  · exact ⟨rfl, cmp_eql_f (by simp (disch := omega) only [IE.ev, rho_0, shr_u64_32] <;> omega)⟩
def J_i32bad : List SEntry := [(35, [.agg [.v (.int .i64 7), .sym (.int .u64 (.var 0))]], .v (.int .i64 1)),
  (25, [.agg [.v (.int .i64 7), .sym (.int .u64 (.var 0))]], .v (.int .i64 1))]
theorem run_i32bad (ρ : Nat → Int) (aR aS : Addr) : runE (wF 0) (cF 0) ρ aR aS L_i32bad [] [] J_i32bad := by unfold runE; kernel_rfl
theorem v_i32bad (aR aS : Addr) (b : Int) (hb0 : 0 ≤ b) (hb1 : b < 18446744073709551616) (h0 : 4294967295 < b) : Chk aR aS 7 b 1 := fun w hG =>
  ⟨calls_symF (W := wF 0) (C := cF 0) (ρ := rho b 0 7 0 0 0) (T := []) (U := []) (ok_i32bad b hb0 hb1 h0) (fun _ h => by cases h) (fun _ h => by cases h) (run_i32bad _ aR aS) List.mem_cons_self rfl rfl rfl rfl hG,
  calls_symF (W := wF 0) (C := cF 0) (ρ := rho b 0 7 0 0 0) (T := []) (U := []) (ok_i32bad b hb0 hb1 h0) (fun _ h => by cases h) (fun _ h => by cases h) (run_i32bad _ aR aS) (List.mem_cons_of_mem _ List.mem_cons_self) rfl rfl rfl rfl hG⟩
def L_f32exp : List CF := [⟨.leq, (.var 0), (.lit 4294967295), true⟩,
  ⟨.neq, (.bin .rem .u64 (.bin .quo .u64 (.var 0) (.lit 8388608)) (.lit 256)), (.lit 255), false⟩,
  ⟨.eql, (.sh .shr .u64 (.var 0) (.lit 32)), (.lit 0), true⟩,
  ⟨.neq, (.bin .and .u32 (.cv .u32 (.var 0)) (.lit 2139095040)), (.lit 2139095040), false⟩]
theorem ok_f32exp (b : Int) (hb0 : 0 ≤ b) (hb1 : b < 18446744073709551616) (h0 : b < 4294967296) (h1 : b / 8388608 % 256 = 255) : ∀ f ∈ L_f32exp, f.ok (rho b 0 9 0 0 0) := by
  intro f hf
  simp only [L_f32exp, List.mem_cons, List.not_mem_nil, or_false] at hf
  rcases hf with rfl | rfl | rfl | rfl
  · exact ⟨rfl, cmp_leq_t (by simp (disch := omega) only [IE.ev, rho_0] <;> omega)⟩
  · exact ⟨rfl, cmp_neq_f (by simp (disch := omega) only [IE.ev, rho_0, quo_u64, rem_u64] <;> omega)⟩
  · exact ⟨rfl, cmp_eql_t (by simp (disch := omega) only [IE.ev, rho_0, shr_u64_32] <;> omega)⟩
  · exact ⟨rfl, cmp_neq_f (by simp (disch := omega) only [IE.ev, rho_0, and_u32_exp, wrap_u32] <;> omega)⟩
def J_f32exp : List SEntry := [(35, [.agg [.v (.int .i64 9), .sym (.int .u64 (.var 0))]], .v (.int .i64 1)),
  (25, [.agg [.v (.int .i64 9), .sym (.int .u64 (.var 0))]], .v (.int .i64 1))]
theorem run_f32exp (ρ : Nat → Int) (aR aS : Addr) : runE (wF 0) (cF 0) ρ aR aS L_f32exp [] [] J_f32exp := by unfold runE; kernel_rfl
theorem v_f32exp (aR aS : Addr) (b : Int) (hb0 : 0 ≤ b) (hb1 : b < 18446744073709551616) (h0 : b < 4294967296) (h1 : b / 8388608 % 256 = 255) : Chk aR aS 9 b 1 := fun w hG =>
  ⟨calls_symF (W := wF 0) (C := cF 0) (ρ := rho b 0 9 0 0 0) (T := []) (U := []) (ok_f32exp b hb0 hb1 h0 h1) (fun _ h => by cases h) (fun _ h => by cases h) (run_f32exp _ aR aS) List.mem_cons_self rfl rfl rfl rfl hG,
  calls_symF (W := wF 0) (C := cF 0) (ρ := rho b 0 9 0 0 0) (T := []) (U := []) (ok_f32exp b hb0 hb1 h0 h1) (fun _ h => by cases h) (fun _ h => by cases h) (run_f32exp _ aR aS) (List.mem_cons_of_mem _ List.mem_cons_self) rfl rfl rfl rfl hG⟩
def L_c64lozero : List CF := [⟨.leq, (.var 0), (.lit 18446744073709551615), true⟩,
  ⟨.neq, (.bin .rem .u64 (.bin .quo .u64 (.bin .rem .u64 (.var 0) (.lit 4294967296)) (.lit 8388608)) (.lit 256)), (.lit 255), true⟩,
  ⟨.neq, (.bin .rem .u64 (.var 0) (.lit 4294967296)), (.lit 2147483648), false⟩,
  ⟨.eql, (.sh .shr .u64 (.var 0) (.lit 64)), (.lit 0), true⟩,
  ⟨.neq, (.bin .and .u32 (.cv .u32 (.var 0)) (.lit 2139095040)), (.lit 2139095040), true⟩,
  ⟨.neq, (.cv .u32 (.var 0)), (.lit 2147483648), false⟩]
theorem ok_c64lozero (b : Int) (hb0 : 0 ≤ b) (hb1 : b < 18446744073709551616) (h0 : (b % 4294967296) = 2147483648) : ∀ f ∈ L_c64lozero, f.ok (rho b 0 10 0 0 0) := by
  intro f hf
  simp only [L_c64lozero, List.mem_cons, List.not_mem_nil, or_false] at hf
  rcases hf with rfl | rfl | rfl | rfl | rfl | rfl
  · exact ⟨rfl, cmp_leq_t (by simp (disch := omega) only [IE.ev, rho_0] <;> omega)⟩
  · exact ⟨rfl, cmp_neq_t (by simp (disch := omega) only [IE.ev, rho_0, quo_u64, rem_u64] <;> omega)⟩
  · exact ⟨rfl, cmp_neq_f (by simp (disch := omega) only [IE.ev, rho_0, rem_u64] <;> omega)⟩
  · exact ⟨rfl, cmp_eql_t (by simp (disch := omega) only [IE.ev, rho_0, shr_u64_64] <;> omega)⟩
  · exact ⟨rfl, cmp_neq_t (by simp (disch := omega) only [IE.ev, rho_0, and_u32_exp, wrap_u32] <;> omega)⟩
  · exact ⟨rfl, cmp_neq_f (by simp (disch := omega) only [IE.ev, rho_0, wrap_u32] <;> omega)⟩
def J_c64lozero : List SEntry := [(35, [.agg [.v (.int .i64 10), .sym (.int .u64 (.var 0))]], .v (.int .i64 1)),
  (25, [.agg [.v (.int .i64 10), .sym (.int .u64 (.var 0))]], .v (.int .i64 1))]
theorem run_c64lozero (ρ : Nat → Int) (aR aS : Addr) : runE (wF 0) (cF 0) ρ aR aS L_c64lozero [] [] J_c64lozero := by unfold runE; kernel_rfl
theorem v_c64lozero (aR aS : Addr) (b : Int) (hb0 : 0 ≤ b) (hb1 : b < 18446744073709551616) (h0 : (b % 4294967296) = 2147483648) : Chk aR aS 10 b 1 := fun w hG =>
  ⟨calls_symF (W := wF 0) (C := cF 0) (ρ := rho b 0 10 0 0 0) (T := []) (U := []) (ok_c64lozero b hb0 hb1 h0) (fun _ h => by cases h) (fun _ h => by cases h) (run_c64lozero _ aR aS) List.mem_cons_self rfl rfl rfl rfl hG,
  calls_symF (W := wF 0) (C := cF 0) (ρ := rho b 0 10 0 0 0) (T := []) (U := []) (ok_c64lozero b hb0 hb1 h0) (fun _ h => by cases h) (fun _ h => by cases h) (run_c64lozero _ aR aS) (List.mem_cons_of_mem _ List.mem_cons_self) rfl rfl rfl rfl hG⟩
end
end Go.Proofs.YtonkcpmefnddaaaGreatDoor
