import Derived.Test.YtonkcpmefnddaaaGreatDoorHA
namespace Go.Proofs.YtonkcpmefnddaaaGreatDoor
noncomputable section
open Go Go.RX
open Go.RowKit (Below)
set_option maxRecDepth 1000000
set_option maxHeartbeats 4000000
def L_bool0 : List CF := [⟨.leq, (.var 0), (.lit 1), true⟩,
  ⟨.eql, (.sh .shr .u64 (.var 0) (.lit 1)), (.lit 0), true⟩]
theorem ok_bool0 (b : Int) (hb0 : 0 ≤ b) (hb1 : b < 18446744073709551616) (h0 : b ≤ 1) : ∀ f ∈ L_bool0, f.ok (rho b 0 0 0 0 0) := by
  intro f hf
  simp only [L_bool0, List.mem_cons, List.not_mem_nil, or_false] at hf
  rcases hf with rfl | rfl
  · exact ⟨rfl, cmp_leq_t (by simp (disch := omega) only [IE.ev, rho_0] <;> omega)⟩
  · exact ⟨rfl, cmp_eql_t (by simp (disch := omega) only [IE.ev, rho_0, shr_u64_1] <;> omega)⟩
def J_bool0 : List SEntry := [(35, [.agg [.v (.int .i64 0), .sym (.int .u64 (.var 0))]], .v (.int .i64 0)),
  (25, [.agg [.v (.int .i64 0), .sym (.int .u64 (.var 0))]], .v (.int .i64 0)),
  (33, [.agg [.v (.int .i64 0), .sym (.int .u64 (.var 0))]], .agg [.v (.int .u64 0), .sym (.int .u64 (.var 0))]),
  (126, [.agg [.v (.int .i64 0), .sym (.int .u64 (.var 0))]], .sym (.int .i64 (.cv .i64 (.var 0))))]
theorem run_bool0 (ρ : Nat → Int) (aR aS : Addr) : runE (wF 0) (cF 0) ρ aR aS L_bool0 [] [] J_bool0 := by unfold runE; kernel_rfl
theorem v_bool0 (aR aS : Addr) (b : Int) (hb0 : 0 ≤ b) (hb1 : b < 18446744073709551616) (h0 : b ≤ 1) : Chk aR aS 0 b 0 := fun w hG =>
  ⟨calls_symF (W := wF 0) (C := cF 0) (ρ := rho b 0 0 0 0 0) (T := []) (U := []) (ok_bool0 b hb0 hb1 h0) (fun _ h => by cases h) (fun _ h => by cases h) (run_bool0 _ aR aS) List.mem_cons_self rfl rfl rfl rfl hG,
  calls_symF (W := wF 0) (C := cF 0) (ρ := rho b 0 0 0 0 0) (T := []) (U := []) (ok_bool0 b hb0 hb1 h0) (fun _ h => by cases h) (fun _ h => by cases h) (run_bool0 _ aR aS) (List.mem_cons_of_mem _ List.mem_cons_self) rfl rfl rfl rfl hG⟩
theorem n_bool0 (aR aS : Addr) (b : Int) (hb0 : 0 ≤ b) (hb1 : b < 18446744073709551616) (h0 : b ≤ 1) : IntV aR aS 0 b b := fun w hG => by
  have e1 : 0 = hiI b := by
    rw [hiI_pos (by omega)]
  have e2 : IE.ev (rho b 0 0 0 0 0) (.var 0) = loI b := by
    unfold loI
    simp (disch := omega) only [IE.ev, rho_0] <;> omega
  have e3 : IE.ev (rho b 0 0 0 0 0) (.cv .i64 (.var 0)) = IntKind.wrap .i64 b := by
    rw [wrap_i64]
    simp (disch := omega) only [IE.ev, rho_0, wrap_i64] <;> omega
  rw [← e1, ← e2, ← e3]
  exact ⟨calls_symF (W := wF 0) (C := cF 0) (ρ := rho b 0 0 0 0 0) (T := []) (U := []) (ok_bool0 b hb0 hb1 h0) (fun _ h => by cases h) (fun _ h => by cases h) (run_bool0 _ aR aS) (List.mem_cons_of_mem _ (List.mem_cons_of_mem _ List.mem_cons_self)) rfl rfl rfl rfl hG,
  calls_symF (W := wF 0) (C := cF 0) (ρ := rho b 0 0 0 0 0) (T := []) (U := []) (ok_bool0 b hb0 hb1 h0) (fun _ h => by cases h) (fun _ h => by cases h) (run_bool0 _ aR aS) (List.mem_cons_of_mem _ (List.mem_cons_of_mem _ (List.mem_cons_of_mem _ List.mem_cons_self))) rfl rfl rfl rfl hG⟩
def L_u16ok : List CF := [⟨.leq, (.var 0), (.lit 65535), true⟩,
  ⟨.eql, (.sh .shr .u64 (.var 0) (.lit 16)), (.lit 0), true⟩]
theorem ok_u16ok (b : Int) (hb0 : 0 ≤ b) (hb1 : b < 18446744073709551616) (h0 : b ≤ 65535) : ∀ f ∈ L_u16ok, f.ok (rho b 0 2 0 0 0) := by
  intro f hf
  simp only [L_u16ok, List.mem_cons, List.not_mem_nil, or_false] at hf
  rcases hf with rfl | rfl
  · exact ⟨rfl, cmp_leq_t (by simp (disch := omega) only [IE.ev, rho_0] <;> omega)⟩
  · exact ⟨rfl, cmp_eql_t (by simp (disch := omega) only [IE.ev, rho_0, shr_u64_16] <;> omega)⟩
def J_u16ok : List SEntry := [(35, [.agg [.v (.int .i64 2), .sym (.int .u64 (.var 0))]], .v (.int .i64 0)),
  (25, [.agg [.v (.int .i64 2), .sym (.int .u64 (.var 0))]], .v (.int .i64 0)),
  (33, [.agg [.v (.int .i64 2), .sym (.int .u64 (.var 0))]], .agg [.v (.int .u64 0), .sym (.int .u64 (.var 0))]),
  (126, [.agg [.v (.int .i64 2), .sym (.int .u64 (.var 0))]], .sym (.int .i64 (.cv .i64 (.var 0))))]
theorem run_u16ok (ρ : Nat → Int) (aR aS : Addr) : runE (wF 0) (cF 0) ρ aR aS L_u16ok [] [] J_u16ok := by unfold runE; kernel_rfl
theorem v_u16ok (aR aS : Addr) (b : Int) (hb0 : 0 ≤ b) (hb1 : b < 18446744073709551616) (h0 : b ≤ 65535) : Chk aR aS 2 b 0 := fun w hG =>
  ⟨calls_symF (W := wF 0) (C := cF 0) (ρ := rho b 0 2 0 0 0) (T := []) (U := []) (ok_u16ok b hb0 hb1 h0) (fun _ h => by cases h) (fun _ h => by cases h) (run_u16ok _ aR aS) List.mem_cons_self rfl rfl rfl rfl hG,
  calls_symF (W := wF 0) (C := cF 0) (ρ := rho b 0 2 0 0 0) (T := []) (U := []) (ok_u16ok b hb0 hb1 h0) (fun _ h => by cases h) (fun _ h => by cases h) (run_u16ok _ aR aS) (List.mem_cons_of_mem _ List.mem_cons_self) rfl rfl rfl rfl hG⟩
theorem n_u16ok (aR aS : Addr) (b : Int) (hb0 : 0 ≤ b) (hb1 : b < 18446744073709551616) (h0 : b ≤ 65535) : IntV aR aS 2 b b := fun w hG => by
  have e1 : 0 = hiI b := by
    rw [hiI_pos (by omega)]
  have e2 : IE.ev (rho b 0 2 0 0 0) (.var 0) = loI b := by
    unfold loI
    simp (disch := omega) only [IE.ev, rho_0] <;> omega
  have e3 : IE.ev (rho b 0 2 0 0 0) (.cv .i64 (.var 0)) = IntKind.wrap .i64 b := by
    rw [wrap_i64]
    simp (disch := omega) only [IE.ev, rho_0, wrap_i64] <;> omega
  rw [← e1, ← e2, ← e3]
  exact ⟨calls_symF (W := wF 0) (C := cF 0) (ρ := rho b 0 2 0 0 0) (T := []) (U := []) (ok_u16ok b hb0 hb1 h0) (fun _ h => by cases h) (fun _ h => by cases h) (run_u16ok _ aR aS) (List.mem_cons_of_mem _ (List.mem_cons_of_mem _ List.mem_cons_self)) rfl rfl rfl rfl hG,
  calls_symF (W := wF 0) (C := cF 0) (ρ := rho b 0 2 0 0 0) (T := []) (U := []) (ok_u16ok b hb0 hb1 h0) (fun _ h => by cases h) (fun _ h => by cases h) (run_u16ok _ aR aS) (List.mem_cons_of_mem _ (List.mem_cons_of_mem _ (List.mem_cons_of_mem _ List.mem_cons_self))) rfl rfl rfl rfl hG⟩
def L_u64ok : List CF := [⟨.leq, (.var 0), (.lit 18446744073709551615), true⟩,
  ⟨.eql, (.sh .shr .u64 (.var 0) (.lit 64)), (.lit 0), true⟩]
theorem ok_u64ok (b : Int) (hb0 : 0 ≤ b) (hb1 : b < 18446744073709551616)  : ∀ f ∈ L_u64ok, f.ok (rho b 0 4 0 0 0) := by
  intro f hf
  simp only [L_u64ok, List.mem_cons, List.not_mem_nil, or_false] at hf
  rcases hf with rfl | rfl
  · exact ⟨rfl, cmp_leq_t (by simp (disch := omega) only [IE.ev, rho_0] <;> omega)⟩
  · exact ⟨rfl, cmp_eql_t (by simp (disch := omega) only [IE.ev, rho_0, shr_u64_64] <;> omega)⟩
def J_u64ok : List SEntry := [(35, [.agg [.v (.int .i64 4), .sym (.int .u64 (.var 0))]], .v (.int .i64 0)),
  (25, [.agg [.v (.int .i64 4), .sym (.int .u64 (.var 0))]], .v (.int .i64 0)),
  (33, [.agg [.v (.int .i64 4), .sym (.int .u64 (.var 0))]], .agg [.v (.int .u64 0), .sym (.int .u64 (.var 0))]),
  (126, [.agg [.v (.int .i64 4), .sym (.int .u64 (.var 0))]], .sym (.int .i64 (.cv .i64 (.var 0))))]
theorem run_u64ok (ρ : Nat → Int) (aR aS : Addr) : runE (wF 0) (cF 0) ρ aR aS L_u64ok [] [] J_u64ok := by unfold runE; kernel_rfl
theorem v_u64ok (aR aS : Addr) (b : Int) (hb0 : 0 ≤ b) (hb1 : b < 18446744073709551616)  : Chk aR aS 4 b 0 := fun w hG =>
  ⟨calls_symF (W := wF 0) (C := cF 0) (ρ := rho b 0 4 0 0 0) (T := []) (U := []) (ok_u64ok b hb0 hb1 ) (fun _ h => by cases h) (fun _ h => by cases h) (run_u64ok _ aR aS) List.mem_cons_self rfl rfl rfl rfl hG,
  calls_symF (W := wF 0) (C := cF 0) (ρ := rho b 0 4 0 0 0) (T := []) (U := []) (ok_u64ok b hb0 hb1 ) (fun _ h => by cases h) (fun _ h => by cases h) (run_u64ok _ aR aS) (List.mem_cons_of_mem _ List.mem_cons_self) rfl rfl rfl rfl hG⟩
theorem n_u64ok (aR aS : Addr) (b : Int) (hb0 : 0 ≤ b) (hb1 : b < 18446744073709551616)  : IntV aR aS 4 b b := fun w hG => by
  have e1 : 0 = hiI b := by
    rw [hiI_pos (by omega)]
  have e2 : IE.ev (rho b 0 4 0 0 0) (.var 0) = loI b := by
    unfold loI
    simp (disch := omega) only [IE.ev, rho_0] <;> omega
  have e3 : IE.ev (rho b 0 4 0 0 0) (.cv .i64 (.var 0)) = IntKind.wrap .i64 b := by
    rw [wrap_i64]
    simp (disch := omega) only [IE.ev, rho_0, wrap_i64] <;> omega
  rw [← e1, ← e2, ← e3]
  exact ⟨calls_symF (W := wF 0) (C := cF 0) (ρ := rho b 0 4 0 0 0) (T := []) (U := []) (ok_u64ok b hb0 hb1 ) (fun _ h => by cases h) (fun _ h => by cases h) (run_u64ok _ aR aS) (List.mem_cons_of_mem _ (List.mem_cons_of_mem _ List.mem_cons_self)) rfl rfl rfl rfl hG,
  calls_symF (W := wF 0) (C := cF 0) (ρ := rho b 0 4 0 0 0) (T := []) (U := []) (ok_u64ok b hb0 hb1 ) (fun _ h => by cases h) (fun _ h => by cases h) (run_u64ok _ aR aS) (List.mem_cons_of_mem _ (List.mem_cons_of_mem _ (List.mem_cons_of_mem _ List.mem_cons_self))) rfl rfl rfl rfl hG⟩
def L_i16pos : List CF := [⟨.leq, (.var 0), (.lit 65535), true⟩,
  ⟨.eql, (.sh .shr .u64 (.var 0) (.lit 16)), (.lit 0), true⟩,
  ⟨.gtr, (.var 0), (.lit 32767), false⟩]
theorem ok_i16pos (b : Int) (hb0 : 0 ≤ b) (hb1 : b < 18446744073709551616) (h0 : b ≤ 32767) : ∀ f ∈ L_i16pos, f.ok (rho b 0 6 0 0 0) := by
  intro f hf
  simp only [L_i16pos, List.mem_cons, List.not_mem_nil, or_false] at hf
  rcases hf with rfl | rfl | rfl
  · exact ⟨rfl, cmp_leq_t (by simp (disch := omega) only [IE.ev, rho_0] <;> omega)⟩
  · exact ⟨rfl, cmp_eql_t (by simp (disch := omega) only [IE.ev, rho_0, shr_u64_16] <;> omega)⟩
  · exact ⟨rfl, cmp_gtr_f (by simp (disch := omega) only [IE.ev, rho_0] <;> omega)⟩
def J_i16pos : List SEntry := [(35, [.agg [.v (.int .i64 6), .sym (.int .u64 (.var 0))]], .v (.int .i64 0)),
  (25, [.agg [.v (.int .i64 6), .sym (.int .u64 (.var 0))]], .v (.int .i64 0)),
  (33, [.agg [.v (.int .i64 6), .sym (.int .u64 (.var 0))]], .agg [.sym (.int .u64 (.cv .u64 (.sh .shr .i64 (.sh .shr .i64 (.cv .i64 (.sh .shl .u64 (.var 0) (.lit 48))) (.lit 48)) (.lit 63)))), .sym (.int .u64 (.cv .u64 (.sh .shr .i64 (.cv .i64 (.sh .shl .u64 (.var 0) (.lit 48))) (.lit 48))))]),
  (126, [.agg [.v (.int .i64 6), .sym (.int .u64 (.var 0))]], .sym (.int .i64 (.cv .i64 (.var 0))))]
theorem run_i16pos (ρ : Nat → Int) (aR aS : Addr) : runE (wF 0) (cF 0) ρ aR aS L_i16pos [] [] J_i16pos := by unfold runE; kernel_rfl
theorem v_i16pos (aR aS : Addr) (b : Int) (hb0 : 0 ≤ b) (hb1 : b < 18446744073709551616) (h0 : b ≤ 32767) : Chk aR aS 6 b 0 := fun w hG =>
  ⟨calls_symF (W := wF 0) (C := cF 0) (ρ := rho b 0 6 0 0 0) (T := []) (U := []) (ok_i16pos b hb0 hb1 h0) (fun _ h => by cases h) (fun _ h => by cases h) (run_i16pos _ aR aS) List.mem_cons_self rfl rfl rfl rfl hG,
  calls_symF (W := wF 0) (C := cF 0) (ρ := rho b 0 6 0 0 0) (T := []) (U := []) (ok_i16pos b hb0 hb1 h0) (fun _ h => by cases h) (fun _ h => by cases h) (run_i16pos _ aR aS) (List.mem_cons_of_mem _ List.mem_cons_self) rfl rfl rfl rfl hG⟩
theorem n_i16pos (aR aS : Addr) (b : Int) (hb0 : 0 ≤ b) (hb1 : b < 18446744073709551616) (h0 : b ≤ 32767) : IntV aR aS 6 b b := fun w hG => by
  have e1 : IE.ev (rho b 0 6 0 0 0) (.cv .u64 (.sh .shr .i64 (.sh .shr .i64 (.cv .i64 (.sh .shl .u64 (.var 0) (.lit 48))) (.lit 48)) (.lit 63))) = hiI b := by
    rw [hiI_pos (by omega)]
    simp (disch := omega) only [IE.ev, rho_0, shl_u64_48, shr_i64_48, shr_i64_63, wrap_i64, wrap_u64] <;> omega
  have e2 : IE.ev (rho b 0 6 0 0 0) (.cv .u64 (.sh .shr .i64 (.cv .i64 (.sh .shl .u64 (.var 0) (.lit 48))) (.lit 48))) = loI b := by
    unfold loI
    simp (disch := omega) only [IE.ev, rho_0, shl_u64_48, shr_i64_48, wrap_i64, wrap_u64] <;> omega
  have e3 : IE.ev (rho b 0 6 0 0 0) (.cv .i64 (.var 0)) = IntKind.wrap .i64 b := by
    rw [wrap_i64]
    simp (disch := omega) only [IE.ev, rho_0, wrap_i64] <;> omega
  rw [← e1, ← e2, ← e3]
  exact ⟨calls_symF (W := wF 0) (C := cF 0) (ρ := rho b 0 6 0 0 0) (T := []) (U := []) (ok_i16pos b hb0 hb1 h0) (fun _ h => by cases h) (fun _ h => by cases h) (run_i16pos _ aR aS) (List.mem_cons_of_mem _ (List.mem_cons_of_mem _ List.mem_cons_self)) rfl rfl rfl rfl hG,
  calls_symF (W := wF 0) (C := cF 0) (ρ := rho b 0 6 0 0 0) (T := []) (U := []) (ok_i16pos b hb0 hb1 h0) (fun _ h => by cases h) (fun _ h => by cases h) (run_i16pos _ aR aS) (List.mem_cons_of_mem _ (List.mem_cons_of_mem _ (List.mem_cons_of_mem _ List.mem_cons_self))) rfl rfl rfl rfl hG⟩
def L_i32neg : List CF := [⟨.leq, (.var 0), (.lit 4294967295), true⟩,
  ⟨.eql, (.sh .shr .u64 (.var 0) (.lit 32)), (.lit 0), true⟩,
  ⟨.gtr, (.var 0), (.lit 2147483647), true⟩]
theorem ok_i32neg (b : Int) (hb0 : 0 ≤ b) (hb1 : b < 18446744073709551616) (h0 : 2147483647 < b) (h1 : b ≤ 4294967295) : ∀ f ∈ L_i32neg, f.ok (rho b 0 7 0 0 0) := by
  intro f hf
  simp only [L_i32neg, List.mem_cons, List.not_mem_nil, or_false] at hf
  rcases hf with rfl | rfl | rfl
  · exact ⟨rfl, cmp_leq_t (by simp (disch := omega) only [IE.ev, rho_0] <;> omega)⟩
  · exact ⟨rfl, cmp_eql_t (by simp (disch := omega) only [IE.ev, rho_0, shr_u64_32] <;> omega)⟩
  · exact ⟨rfl, cmp_gtr_t (by simp (disch := omega) only [IE.ev, rho_0] <;> omega)⟩
def J_i32neg : List SEntry := [(35, [.agg [.v (.int .i64 7), .sym (.int .u64 (.var 0))]], .v (.int .i64 0)),
  (25, [.agg [.v (.int .i64 7), .sym (.int .u64 (.var 0))]], .v (.int .i64 0)),
  (33, [.agg [.v (.int .i64 7), .sym (.int .u64 (.var 0))]], .agg [.sym (.int .u64 (.cv .u64 (.sh .shr .i64 (.sh .shr .i64 (.cv .i64 (.sh .shl .u64 (.var 0) (.lit 32))) (.lit 32)) (.lit 63)))), .sym (.int .u64 (.cv .u64 (.sh .shr .i64 (.cv .i64 (.sh .shl .u64 (.var 0) (.lit 32))) (.lit 32))))]),
  (126, [.agg [.v (.int .i64 7), .sym (.int .u64 (.var 0))]], .sym (.int .i64 (.cv .i64 (.bin .or .u64 (.var 0) (.lit 18446744069414584320)))))]
theorem run_i32neg (ρ : Nat → Int) (aR aS : Addr) : runE (wF 0) (cF 0) ρ aR aS L_i32neg [] [] J_i32neg := by unfold runE; kernel_rfl
theorem v_i32neg (aR aS : Addr) (b : Int) (hb0 : 0 ≤ b) (hb1 : b < 18446744073709551616) (h0 : 2147483647 < b) (h1 : b ≤ 4294967295) : Chk aR aS 7 b 0 := fun w hG =>
  ⟨calls_symF (W := wF 0) (C := cF 0) (ρ := rho b 0 7 0 0 0) (T := []) (U := []) (ok_i32neg b hb0 hb1 h0 h1) (fun _ h => by cases h) (fun _ h => by cases h) (run_i32neg _ aR aS) List.mem_cons_self rfl rfl rfl rfl hG,
  calls_symF (W := wF 0) (C := cF 0) (ρ := rho b 0 7 0 0 0) (T := []) (U := []) (ok_i32neg b hb0 hb1 h0 h1) (fun _ h => by cases h) (fun _ h => by cases h) (run_i32neg _ aR aS) (List.mem_cons_of_mem _ List.mem_cons_self) rfl rfl rfl rfl hG⟩
theorem n_i32neg (aR aS : Addr) (b : Int) (hb0 : 0 ≤ b) (hb1 : b < 18446744073709551616) (h0 : 2147483647 < b) (h1 : b ≤ 4294967295) : IntV aR aS 7 b (b - 4294967296) := fun w hG => by
  have e1 : IE.ev (rho b 0 7 0 0 0) (.cv .u64 (.sh .shr .i64 (.sh .shr .i64 (.cv .i64 (.sh .shl .u64 (.var 0) (.lit 32))) (.lit 32)) (.lit 63))) = hiI (b - 4294967296) := by
    rw [hiI_neg (by omega)]
    simp (disch := omega) only [IE.ev, rho_0, shl_u64_32, shr_i64_32, shr_i64_63, wrap_i64, wrap_u64] <;> omega
  have e2 : IE.ev (rho b 0 7 0 0 0) (.cv .u64 (.sh .shr .i64 (.cv .i64 (.sh .shl .u64 (.var 0) (.lit 32))) (.lit 32))) = loI (b - 4294967296) := by
    unfold loI
    simp (disch := omega) only [IE.ev, rho_0, shl_u64_32, shr_i64_32, wrap_i64, wrap_u64] <;> omega
  have e3 : IE.ev (rho b 0 7 0 0 0) (.cv .i64 (.bin .or .u64 (.var 0) (.lit 18446744069414584320))) = IntKind.wrap .i64 (b - 4294967296) := by
    rw [wrap_i64]
    simp (disch := omega) only [IE.ev, rho_0, or_u64_32, wrap_i64] <;> omega
  rw [← e1, ← e2, ← e3]
  exact ⟨calls_symF (W := wF 0) (C := cF 0) (ρ := rho b 0 7 0 0 0) (T := []) (U := []) (ok_i32neg b hb0 hb1 h0 h1) (fun _ h => by cases h) (fun _ h => by cases h) (run_i32neg _ aR aS) (List.mem_cons_of_mem _ (List.mem_cons_of_mem _ List.mem_cons_self)) rfl rfl rfl rfl hG,
  calls_symF (W := wF 0) (C := cF 0) (ρ := rho b 0 7 0 0 0) (T := []) (U := []) (ok_i32neg b hb0 hb1 h0 h1) (fun _ h => by cases h) (fun _ h => by cases h) (run_i32neg _ aR aS) (List.mem_cons_of_mem _ (List.mem_cons_of_mem _ (List.mem_cons_of_mem _ List.mem_cons_self))) rfl rfl rfl rfl hG⟩
def L_f32wide : List CF := [⟨.leq, (.var 0), (.lit 4294967295), false⟩,
  ⟨.eql, (.sh .shr .u64 (.var 0) (.lit 32)), (.lit 0), false⟩]
theorem ok_f32wide (b : Int) (hb0 : 0 ≤ b) (hb1 : b < 18446744073709551616) (h0 : 4294967296 ≤ b) : ∀ f ∈ L_f32wide, f.ok (rho b 0 9 0 0 0) := by
  intro f hf
  simp only [L_f32wide, List.mem_cons, List.not_mem_nil, or_false] at hf
  rcases hf with rfl | rfl
  · exact ⟨rfl, cmp_leq_f (by simp (disch := omega) only [IE.ev, rho_0] <;> omega)⟩
  · exact ⟨rfl, cmp_eql_f (by simp (disch := omega) only [IE.ev, rho_0, shr_u64_32] <;> omega)⟩
def J_f32wide : List SEntry := [(35, [.agg [.v (.int .i64 9), .sym (.int .u64 (.var 0))]], .v (.int .i64 1)),
  (25, [.agg [.v (.int .i64 9), .sym (.int .u64 (.var 0))]], .v (.int .i64 1))]
theorem run_f32wide (ρ : Nat → Int) (aR aS : Addr) : runE (wF 0) (cF 0) ρ aR aS L_f32wide [] [] J_f32wide := by unfold runE; kernel_rfl
theorem v_f32wide (aR aS : Addr) (b : Int) (hb0 : 0 ≤ b) (hb1 : b < 18446744073709551616) (h0 : 4294967296 ≤ b) : Chk aR aS 9 b 1 := fun w hG =>
  ⟨calls_symF (W := wF 0) (C := cF 0) (ρ := rho b 0 9 0 0 0) (T := []) (U := []) (ok_f32wide b hb0 hb1 h0) (fun _ h => by cases h) (fun _ h => by cases h) (run_f32wide _ aR aS) List.mem_cons_self rfl rfl rfl rfl hG,
  calls_symF (W := wF 0) (C := cF 0) (ρ := rho b 0 9 0 0 0) (T := []) (U := []) (ok_f32wide b hb0 hb1 h0) (fun _ h => by cases h) (fun _ h => by cases h) (run_f32wide _ aR aS) (List.mem_cons_of_mem _ List.mem_cons_self) rfl rfl rfl rfl hG⟩
def L_c64loexp : List CF := [⟨.leq, (.var 0), (.lit 18446744073709551615), true⟩,
  ⟨.neq, (.bin .rem .u64 (.bin .quo .u64 (.bin .rem .u64 (.var 0) (.lit 4294967296)) (.lit 8388608)) (.lit 256)), (.lit 255), false⟩,
  ⟨.eql, (.sh .shr .u64 (.var 0) (.lit 64)), (.lit 0), true⟩,
  ⟨.neq, (.bin .and .u32 (.cv .u32 (.var 0)) (.lit 2139095040)), (.lit 2139095040), false⟩]
theorem ok_c64loexp (b : Int) (hb0 : 0 ≤ b) (hb1 : b < 18446744073709551616) (h0 : (b % 4294967296) / 8388608 % 256 = 255) : ∀ f ∈ L_c64loexp, f.ok (rho b 0 10 0 0 0) := by
  intro f hf
  simp only [L_c64loexp, List.mem_cons, List.not_mem_nil, or_false] at hf
  rcases hf with rfl | rfl | rfl | rfl
  · exact ⟨rfl, cmp_leq_t (by simp (disch := omega) only [IE.ev, rho_0] <;> omega)⟩
  · exact ⟨rfl, cmp_neq_f (by simp (disch := omega) only [IE.ev, rho_0, quo_u64, rem_u64] <;> omega)⟩
  · exact ⟨rfl, cmp_eql_t (by simp (disch := omega) only [IE.ev, rho_0, shr_u64_64] <;> omega)⟩
  · exact ⟨rfl, cmp_neq_f (by simp (disch := omega) only [IE.ev, rho_0, and_u32_exp, wrap_u32] <;> omega)⟩
def J_c64loexp : List SEntry := [(35, [.agg [.v (.int .i64 10), .sym (.int .u64 (.var 0))]], .v (.int .i64 1)),
  (25, [.agg [.v (.int .i64 10), .sym (.int .u64 (.var 0))]], .v (.int .i64 1))]
theorem run_c64loexp (ρ : Nat → Int) (aR aS : Addr) : runE (wF 0) (cF 0) ρ aR aS L_c64loexp [] [] J_c64loexp := by unfold runE; kernel_rfl
theorem v_c64loexp (aR aS : Addr) (b : Int) (hb0 : 0 ≤ b) (hb1 : b < 18446744073709551616) (h0 : (b % 4294967296) / 8388608 % 256 = 255) : Chk aR aS 10 b 1 := fun w hG =>
  ⟨calls_symF (W := wF 0) (C := cF 0) (ρ := rho b 0 10 0 0 0) (T := []) (U := []) (ok_c64loexp b hb0 hb1 h0) (fun _ h => by cases h) (fun _ h => by cases h) (run_c64loexp _ aR aS) List.mem_cons_self rfl rfl rfl rfl hG,
  calls_symF (W := wF 0) (C := cF 0) (ρ := rho b 0 10 0 0 0) (T := []) (U := []) (ok_c64loexp b hb0 hb1 h0) (fun _ h => by cases h) (fun _ h => by cases h) (run_c64loexp _ aR aS) (List.mem_cons_of_mem _ List.mem_cons_self) rfl rfl rfl rfl hG⟩
def L_c64ok : List CF := [⟨.leq, (.var 0), (.lit 18446744073709551615), true⟩,
  ⟨.neq, (.bin .rem .u64 (.bin .quo .u64 (.bin .rem .u64 (.var 0) (.lit 4294967296)) (.lit 8388608)) (.lit 256)), (.lit 255), true⟩,
  ⟨.neq, (.bin .rem .u64 (.var 0) (.lit 4294967296)), (.lit 2147483648), true⟩,
  ⟨.neq, (.bin .rem .u64 (.bin .quo .u64 (.bin .quo .u64 (.var 0) (.lit 4294967296)) (.lit 8388608)) (.lit 256)), (.lit 255), true⟩,
  ⟨.neq, (.bin .quo .u64 (.var 0) (.lit 4294967296)), (.lit 2147483648), true⟩,
  ⟨.eql, (.sh .shr .u64 (.var 0) (.lit 64)), (.lit 0), true⟩,
  ⟨.neq, (.bin .and .u32 (.cv .u32 (.var 0)) (.lit 2139095040)), (.lit 2139095040), true⟩,
  ⟨.neq, (.cv .u32 (.var 0)), (.lit 2147483648), true⟩,
  ⟨.neq, (.bin .and .u32 (.cv .u32 (.sh .shr .u64 (.var 0) (.lit 32))) (.lit 2139095040)), (.lit 2139095040), true⟩,
  ⟨.neq, (.cv .u32 (.sh .shr .u64 (.var 0) (.lit 32))), (.lit 2147483648), true⟩]
theorem ok_c64ok (b : Int) (hb0 : 0 ≤ b) (hb1 : b < 18446744073709551616) (h0 : (b % 4294967296) / 8388608 % 256 ≠ 255) (h1 : (b % 4294967296) ≠ 2147483648) (h2 : (b / 4294967296) / 8388608 % 256 ≠ 255) (h3 : (b / 4294967296) ≠ 2147483648) : ∀ f ∈ L_c64ok, f.ok (rho b 0 10 0 0 0) := by
  intro f hf
  simp only [L_c64ok, List.mem_cons, List.not_mem_nil, or_false] at hf
  rcases hf with rfl | rfl | rfl | rfl | rfl | rfl | rfl | rfl | rfl | rfl
  · exact ⟨rfl, cmp_leq_t (by simp (disch := omega) only [IE.ev, rho_0] <;> omega)⟩
  · exact ⟨rfl, cmp_neq_t (by simp (disch := omega) only [IE.ev, rho_0, quo_u64, rem_u64] <;> omega)⟩
  · exact ⟨rfl, cmp_neq_t (by simp (disch := omega) only [IE.ev, rho_0, rem_u64] <;> omega)⟩
  · exact ⟨rfl, cmp_neq_t (by simp (disch := omega) only [IE.ev, rho_0, quo_u64, rem_u64] <;> omega)⟩
  · exact ⟨rfl, cmp_neq_t (by simp (disch := omega) only [IE.ev, rho_0, quo_u64] <;> omega)⟩
  · exact ⟨rfl, cmp_eql_t (by simp (disch := omega) only [IE.ev, rho_0, shr_u64_64] <;> omega)⟩
  · exact ⟨rfl, cmp_neq_t (by simp (disch := omega) only [IE.ev, rho_0, and_u32_exp, wrap_u32] <;> omega)⟩
  · exact ⟨rfl, cmp_neq_t (by simp (disch := omega) only [IE.ev, rho_0, wrap_u32] <;> omega)⟩
  · exact ⟨rfl, cmp_neq_t (by simp (disch := omega) only [IE.ev, rho_0, and_u32_exp, shr_u64_32, wrap_u32] <;> omega)⟩
  · exact ⟨rfl, cmp_neq_t (by simp (disch := omega) only [IE.ev, rho_0, shr_u64_32, wrap_u32] <;> omega)⟩
def J_c64ok : List SEntry := [(35, [.agg [.v (.int .i64 10), .sym (.int .u64 (.var 0))]], .v (.int .i64 0)),
  (25, [.agg [.v (.int .i64 10), .sym (.int .u64 (.var 0))]], .v (.int .i64 0))]
theorem run_c64ok (ρ : Nat → Int) (aR aS : Addr) : runE (wF 0) (cF 0) ρ aR aS L_c64ok [] [] J_c64ok := by unfold runE; kernel_rfl
theorem v_c64ok (aR aS : Addr) (b : Int) (hb0 : 0 ≤ b) (hb1 : b < 18446744073709551616) (h0 : (b % 4294967296) / 8388608 % 256 ≠ 255) (h1 : (b % 4294967296) ≠ 2147483648) (h2 : (b / 4294967296) / 8388608 % 256 ≠ 255) (h3 : (b / 4294967296) ≠ 2147483648) : Chk aR aS 10 b 0 := fun w hG =>
  ⟨calls_symF (W := wF 0) (C := cF 0) (ρ := rho b 0 10 0 0 0) (T := []) (U := []) (ok_c64ok b hb0 hb1 h0 h1 h2 h3) (fun _ h => by cases h) (fun _ h => by cases h) (run_c64ok _ aR aS) List.mem_cons_self rfl rfl rfl rfl hG,
  calls_symF (W := wF 0) (C := cF 0) (ρ := rho b 0 10 0 0 0) (T := []) (U := []) (ok_c64ok b hb0 hb1 h0 h1 h2 h3) (fun _ h => by cases h) (fun _ h => by cases h) (run_c64ok _ aR aS) (List.mem_cons_of_mem _ List.mem_cons_self) rfl rfl rfl rfl hG⟩
end
end Go.Proofs.YtonkcpmefnddaaaGreatDoor
