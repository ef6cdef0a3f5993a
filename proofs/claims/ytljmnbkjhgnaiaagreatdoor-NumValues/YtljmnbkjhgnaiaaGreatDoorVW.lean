import Derived.Test.YtljmnbkjhgnaiaaGreatDoorVA
namespace Go.Proofs.YtljmnbkjhgnaiaaGreatDoor
noncomputable section
open Go Go.RX
open Go.RowKit (Below)
set_option maxRecDepth 1000000
def L_w0 : List CF := []
theorem ok_w0 (n : Int) (hn0 : -9223372036854775808 ≤ n) (hn1 : n < 9223372036854775808) : ∀ f ∈ L_w0, f.ok (rho 0 n 0 0 0 0) := fun _ h => by cases h
def J_w0 : List SEntry := [(9, [.v (.int .i64 0), .sym (.int .i64 (.var 1))], .tuple [.agg [.v (.int .i64 0), .sym (.int .u64 (.sh .shr .u64 (.sh .shl .u64 (.cv .u64 (.var 1)) (.lit 63)) (.lit 63)))], .v (.int .i64 0)]),
  (10, [.v (.int .i64 0)], .v (.int .i64 0)),
  (11, [.v (.int .i64 0), .sym (.int .i64 (.var 1))], .agg [.v (.int .i64 0), .sym (.int .u64 (.bin .and .u64 (.cv .u64 (.var 1)) (.lit 1)))])]
theorem run_w0 (ρ : Nat → Int) (aR aS : Addr) : J_w0.map (fun e => (@call (E ρ L_w0) Tryz.prog (glob aR aS) noO 300 60 (.fn e.1) e.2.1 []).map fun r => nrm r.1) = J_w0.map fun e => some e.2.2 := by kernel_rfl
theorem wk_w0 (aR aS : Addr) (n : Int) (hn0 : -9223372036854775808 ≤ n) (hn1 : n < 9223372036854775808) : WOk aR aS 0 n (IE.ev (rho 0 n 0 0 0 0) (.sh .shr .u64 (.sh .shl .u64 (.cv .u64 (.var 1)) (.lit 63)) (.lit 63))) := by
  have hL := ok_w0 n hn0 hn1
  have hK : IE.ev (rho 0 n 0 0 0 0) (.bin .and .u64 (.cv .u64 (.var 1)) (.lit 1)) = IE.ev (rho 0 n 0 0 0 0) (.sh .shr .u64 (.sh .shl .u64 (.cv .u64 (.var 1)) (.lit 63)) (.lit 63)) := by simp (disch := omega) only [IE.ev, rho_1, and_u64_1, shl_u64_63, shr_u64_63, wrap_u64] <;> omega
  intro w hG
  refine ⟨calls_sym hL (noO_ok _ _ aR aS) (run_w0 _ aR aS) List.mem_cons_self rfl rfl rfl rfl hG, calls_sym hL (noO_ok _ _ aR aS) (run_w0 _ aR aS) (List.mem_cons_of_mem _ List.mem_cons_self) rfl rfl rfl rfl hG, ?_⟩
  rw [← hK]
  exact calls_sym hL (noO_ok _ _ aR aS) (run_w0 _ aR aS) (List.mem_cons_of_mem _ (List.mem_cons_of_mem _ List.mem_cons_self)) rfl rfl rfl rfl hG
def L_w1 : List CF := []
theorem ok_w1 (n : Int) (hn0 : -9223372036854775808 ≤ n) (hn1 : n < 9223372036854775808) : ∀ f ∈ L_w1, f.ok (rho 0 n 0 0 0 0) := fun _ h => by cases h
def J_w1 : List SEntry := [(9, [.v (.int .i64 1), .sym (.int .i64 (.var 1))], .tuple [.agg [.v (.int .i64 1), .sym (.int .u64 (.sh .shr .u64 (.sh .shl .u64 (.cv .u64 (.var 1)) (.lit 56)) (.lit 56)))], .v (.int .i64 0)]),
  (10, [.v (.int .i64 1)], .v (.int .i64 0)),
  (11, [.v (.int .i64 1), .sym (.int .i64 (.var 1))], .agg [.v (.int .i64 1), .sym (.int .u64 (.bin .and .u64 (.cv .u64 (.var 1)) (.lit 255)))])]
theorem run_w1 (ρ : Nat → Int) (aR aS : Addr) : J_w1.map (fun e => (@call (E ρ L_w1) Tryz.prog (glob aR aS) noO 300 60 (.fn e.1) e.2.1 []).map fun r => nrm r.1) = J_w1.map fun e => some e.2.2 := by kernel_rfl
theorem wk_w1 (aR aS : Addr) (n : Int) (hn0 : -9223372036854775808 ≤ n) (hn1 : n < 9223372036854775808) : WOk aR aS 1 n (IE.ev (rho 0 n 0 0 0 0) (.sh .shr .u64 (.sh .shl .u64 (.cv .u64 (.var 1)) (.lit 56)) (.lit 56))) := by
  have hL := ok_w1 n hn0 hn1
  have hK : IE.ev (rho 0 n 0 0 0 0) (.bin .and .u64 (.cv .u64 (.var 1)) (.lit 255)) = IE.ev (rho 0 n 0 0 0 0) (.sh .shr .u64 (.sh .shl .u64 (.cv .u64 (.var 1)) (.lit 56)) (.lit 56)) := by simp (disch := omega) only [IE.ev, rho_1, and_u64_8, shl_u64_56, shr_u64_56, wrap_u64] <;> omega
  intro w hG
  refine ⟨calls_sym hL (noO_ok _ _ aR aS) (run_w1 _ aR aS) List.mem_cons_self rfl rfl rfl rfl hG, calls_sym hL (noO_ok _ _ aR aS) (run_w1 _ aR aS) (List.mem_cons_of_mem _ List.mem_cons_self) rfl rfl rfl rfl hG, ?_⟩
  rw [← hK]
  exact calls_sym hL (noO_ok _ _ aR aS) (run_w1 _ aR aS) (List.mem_cons_of_mem _ (List.mem_cons_of_mem _ List.mem_cons_self)) rfl rfl rfl rfl hG
def L_w2 : List CF := []
theorem ok_w2 (n : Int) (hn0 : -9223372036854775808 ≤ n) (hn1 : n < 9223372036854775808) : ∀ f ∈ L_w2, f.ok (rho 0 n 0 0 0 0) := fun _ h => by cases h
def J_w2 : List SEntry := [(9, [.v (.int .i64 2), .sym (.int .i64 (.var 1))], .tuple [.agg [.v (.int .i64 2), .sym (.int .u64 (.sh .shr .u64 (.sh .shl .u64 (.cv .u64 (.var 1)) (.lit 48)) (.lit 48)))], .v (.int .i64 0)]),
  (10, [.v (.int .i64 2)], .v (.int .i64 0)),
  (11, [.v (.int .i64 2), .sym (.int .i64 (.var 1))], .agg [.v (.int .i64 2), .sym (.int .u64 (.bin .and .u64 (.cv .u64 (.var 1)) (.lit 65535)))])]
theorem run_w2 (ρ : Nat → Int) (aR aS : Addr) : J_w2.map (fun e => (@call (E ρ L_w2) Tryz.prog (glob aR aS) noO 300 60 (.fn e.1) e.2.1 []).map fun r => nrm r.1) = J_w2.map fun e => some e.2.2 := by kernel_rfl
theorem wk_w2 (aR aS : Addr) (n : Int) (hn0 : -9223372036854775808 ≤ n) (hn1 : n < 9223372036854775808) : WOk aR aS 2 n (IE.ev (rho 0 n 0 0 0 0) (.sh .shr .u64 (.sh .shl .u64 (.cv .u64 (.var 1)) (.lit 48)) (.lit 48))) := by
  have hL := ok_w2 n hn0 hn1
  have hK : IE.ev (rho 0 n 0 0 0 0) (.bin .and .u64 (.cv .u64 (.var 1)) (.lit 65535)) = IE.ev (rho 0 n 0 0 0 0) (.sh .shr .u64 (.sh .shl .u64 (.cv .u64 (.var 1)) (.lit 48)) (.lit 48)) := by simp (disch := omega) only [IE.ev, rho_1, and_u64_16, shl_u64_48, shr_u64_48, wrap_u64] <;> omega
  intro w hG
  refine ⟨calls_sym hL (noO_ok _ _ aR aS) (run_w2 _ aR aS) List.mem_cons_self rfl rfl rfl rfl hG, calls_sym hL (noO_ok _ _ aR aS) (run_w2 _ aR aS) (List.mem_cons_of_mem _ List.mem_cons_self) rfl rfl rfl rfl hG, ?_⟩
  rw [← hK]
  exact calls_sym hL (noO_ok _ _ aR aS) (run_w2 _ aR aS) (List.mem_cons_of_mem _ (List.mem_cons_of_mem _ List.mem_cons_self)) rfl rfl rfl rfl hG
def L_w3 : List CF := []
theorem ok_w3 (n : Int) (hn0 : -9223372036854775808 ≤ n) (hn1 : n < 9223372036854775808) : ∀ f ∈ L_w3, f.ok (rho 0 n 0 0 0 0) := fun _ h => by cases h
def J_w3 : List SEntry := [(9, [.v (.int .i64 3), .sym (.int .i64 (.var 1))], .tuple [.agg [.v (.int .i64 3), .sym (.int .u64 (.sh .shr .u64 (.sh .shl .u64 (.cv .u64 (.var 1)) (.lit 32)) (.lit 32)))], .v (.int .i64 0)]),
  (10, [.v (.int .i64 3)], .v (.int .i64 0)),
  (11, [.v (.int .i64 3), .sym (.int .i64 (.var 1))], .agg [.v (.int .i64 3), .sym (.int .u64 (.bin .and .u64 (.cv .u64 (.var 1)) (.lit 4294967295)))])]
theorem run_w3 (ρ : Nat → Int) (aR aS : Addr) : J_w3.map (fun e => (@call (E ρ L_w3) Tryz.prog (glob aR aS) noO 300 60 (.fn e.1) e.2.1 []).map fun r => nrm r.1) = J_w3.map fun e => some e.2.2 := by kernel_rfl
theorem wk_w3 (aR aS : Addr) (n : Int) (hn0 : -9223372036854775808 ≤ n) (hn1 : n < 9223372036854775808) : WOk aR aS 3 n (IE.ev (rho 0 n 0 0 0 0) (.sh .shr .u64 (.sh .shl .u64 (.cv .u64 (.var 1)) (.lit 32)) (.lit 32))) := by
  have hL := ok_w3 n hn0 hn1
  have hK : IE.ev (rho 0 n 0 0 0 0) (.bin .and .u64 (.cv .u64 (.var 1)) (.lit 4294967295)) = IE.ev (rho 0 n 0 0 0 0) (.sh .shr .u64 (.sh .shl .u64 (.cv .u64 (.var 1)) (.lit 32)) (.lit 32)) := by simp (disch := omega) only [IE.ev, rho_1, and_u64_32, shl_u64_32, shr_u64_32, wrap_u64] <;> omega
  intro w hG
  refine ⟨calls_sym hL (noO_ok _ _ aR aS) (run_w3 _ aR aS) List.mem_cons_self rfl rfl rfl rfl hG, calls_sym hL (noO_ok _ _ aR aS) (run_w3 _ aR aS) (List.mem_cons_of_mem _ List.mem_cons_self) rfl rfl rfl rfl hG, ?_⟩
  rw [← hK]
  exact calls_sym hL (noO_ok _ _ aR aS) (run_w3 _ aR aS) (List.mem_cons_of_mem _ (List.mem_cons_of_mem _ List.mem_cons_self)) rfl rfl rfl rfl hG
def L_w4 : List CF := []
theorem ok_w4 (n : Int) (hn0 : -9223372036854775808 ≤ n) (hn1 : n < 9223372036854775808) : ∀ f ∈ L_w4, f.ok (rho 0 n 0 0 0 0) := fun _ h => by cases h
def J_w4 : List SEntry := [(9, [.v (.int .i64 4), .sym (.int .i64 (.var 1))], .tuple [.agg [.v (.int .i64 4), .sym (.int .u64 (.sh .shr .u64 (.sh .shl .u64 (.cv .u64 (.var 1)) (.lit 0)) (.lit 0)))], .v (.int .i64 0)]),
  (10, [.v (.int .i64 4)], .v (.int .i64 0)),
  (11, [.v (.int .i64 4), .sym (.int .i64 (.var 1))], .agg [.v (.int .i64 4), .sym (.int .u64 (.bin .and .u64 (.cv .u64 (.var 1)) (.lit 18446744073709551615)))])]
theorem run_w4 (ρ : Nat → Int) (aR aS : Addr) : J_w4.map (fun e => (@call (E ρ L_w4) Tryz.prog (glob aR aS) noO 300 60 (.fn e.1) e.2.1 []).map fun r => nrm r.1) = J_w4.map fun e => some e.2.2 := by kernel_rfl
theorem wk_w4 (aR aS : Addr) (n : Int) (hn0 : -9223372036854775808 ≤ n) (hn1 : n < 9223372036854775808) : WOk aR aS 4 n (IE.ev (rho 0 n 0 0 0 0) (.sh .shr .u64 (.sh .shl .u64 (.cv .u64 (.var 1)) (.lit 0)) (.lit 0))) := by
  have hL := ok_w4 n hn0 hn1
  have hK : IE.ev (rho 0 n 0 0 0 0) (.bin .and .u64 (.cv .u64 (.var 1)) (.lit 18446744073709551615)) = IE.ev (rho 0 n 0 0 0 0) (.sh .shr .u64 (.sh .shl .u64 (.cv .u64 (.var 1)) (.lit 0)) (.lit 0)) := by simp (disch := omega) only [IE.ev, rho_1, and_u64_64, shl_u64_0, shr_u64_0, wrap_u64] <;> omega
  intro w hG
  refine ⟨calls_sym hL (noO_ok _ _ aR aS) (run_w4 _ aR aS) List.mem_cons_self rfl rfl rfl rfl hG, calls_sym hL (noO_ok _ _ aR aS) (run_w4 _ aR aS) (List.mem_cons_of_mem _ List.mem_cons_self) rfl rfl rfl rfl hG, ?_⟩
  rw [← hK]
  exact calls_sym hL (noO_ok _ _ aR aS) (run_w4 _ aR aS) (List.mem_cons_of_mem _ (List.mem_cons_of_mem _ List.mem_cons_self)) rfl rfl rfl rfl hG
def L_w5 : List CF := []
theorem ok_w5 (n : Int) (hn0 : -9223372036854775808 ≤ n) (hn1 : n < 9223372036854775808) : ∀ f ∈ L_w5, f.ok (rho 0 n 0 0 0 0) := fun _ h => by cases h
def J_w5 : List SEntry := [(9, [.v (.int .i64 5), .sym (.int .i64 (.var 1))], .tuple [.agg [.v (.int .i64 5), .sym (.int .u64 (.sh .shr .u64 (.sh .shl .u64 (.cv .u64 (.var 1)) (.lit 56)) (.lit 56)))], .v (.int .i64 0)]),
  (10, [.v (.int .i64 5)], .v (.int .i64 0)),
  (11, [.v (.int .i64 5), .sym (.int .i64 (.var 1))], .agg [.v (.int .i64 5), .sym (.int .u64 (.bin .and .u64 (.cv .u64 (.var 1)) (.lit 255)))])]
theorem run_w5 (ρ : Nat → Int) (aR aS : Addr) : J_w5.map (fun e => (@call (E ρ L_w5) Tryz.prog (glob aR aS) noO 300 60 (.fn e.1) e.2.1 []).map fun r => nrm r.1) = J_w5.map fun e => some e.2.2 := by kernel_rfl
theorem wk_w5 (aR aS : Addr) (n : Int) (hn0 : -9223372036854775808 ≤ n) (hn1 : n < 9223372036854775808) : WOk aR aS 5 n (IE.ev (rho 0 n 0 0 0 0) (.sh .shr .u64 (.sh .shl .u64 (.cv .u64 (.var 1)) (.lit 56)) (.lit 56))) := by
  have hL := ok_w5 n hn0 hn1
  have hK : IE.ev (rho 0 n 0 0 0 0) (.bin .and .u64 (.cv .u64 (.var 1)) (.lit 255)) = IE.ev (rho 0 n 0 0 0 0) (.sh .shr .u64 (.sh .shl .u64 (.cv .u64 (.var 1)) (.lit 56)) (.lit 56)) := by simp (disch := omega) only [IE.ev, rho_1, and_u64_8, shl_u64_56, shr_u64_56, wrap_u64] <;> omega
  intro w hG
  refine ⟨calls_sym hL (noO_ok _ _ aR aS) (run_w5 _ aR aS) List.mem_cons_self rfl rfl rfl rfl hG, calls_sym hL (noO_ok _ _ aR aS) (run_w5 _ aR aS) (List.mem_cons_of_mem _ List.mem_cons_self) rfl rfl rfl rfl hG, ?_⟩
  rw [← hK]
  exact calls_sym hL (noO_ok _ _ aR aS) (run_w5 _ aR aS) (List.mem_cons_of_mem _ (List.mem_cons_of_mem _ List.mem_cons_self)) rfl rfl rfl rfl hG
def L_w6 : List CF := []
theorem ok_w6 (n : Int) (hn0 : -9223372036854775808 ≤ n) (hn1 : n < 9223372036854775808) : ∀ f ∈ L_w6, f.ok (rho 0 n 0 0 0 0) := fun _ h => by cases h
def J_w6 : List SEntry := [(9, [.v (.int .i64 6), .sym (.int .i64 (.var 1))], .tuple [.agg [.v (.int .i64 6), .sym (.int .u64 (.sh .shr .u64 (.sh .shl .u64 (.cv .u64 (.var 1)) (.lit 48)) (.lit 48)))], .v (.int .i64 0)]),
  (10, [.v (.int .i64 6)], .v (.int .i64 0)),
  (11, [.v (.int .i64 6), .sym (.int .i64 (.var 1))], .agg [.v (.int .i64 6), .sym (.int .u64 (.bin .and .u64 (.cv .u64 (.var 1)) (.lit 65535)))])]
theorem run_w6 (ρ : Nat → Int) (aR aS : Addr) : J_w6.map (fun e => (@call (E ρ L_w6) Tryz.prog (glob aR aS) noO 300 60 (.fn e.1) e.2.1 []).map fun r => nrm r.1) = J_w6.map fun e => some e.2.2 := by kernel_rfl
theorem wk_w6 (aR aS : Addr) (n : Int) (hn0 : -9223372036854775808 ≤ n) (hn1 : n < 9223372036854775808) : WOk aR aS 6 n (IE.ev (rho 0 n 0 0 0 0) (.sh .shr .u64 (.sh .shl .u64 (.cv .u64 (.var 1)) (.lit 48)) (.lit 48))) := by
  have hL := ok_w6 n hn0 hn1
  have hK : IE.ev (rho 0 n 0 0 0 0) (.bin .and .u64 (.cv .u64 (.var 1)) (.lit 65535)) = IE.ev (rho 0 n 0 0 0 0) (.sh .shr .u64 (.sh .shl .u64 (.cv .u64 (.var 1)) (.lit 48)) (.lit 48)) := by simp (disch := omega) only [IE.ev, rho_1, and_u64_16, shl_u64_48, shr_u64_48, wrap_u64] <;> omega
  intro w hG
  refine ⟨calls_sym hL (noO_ok _ _ aR aS) (run_w6 _ aR aS) List.mem_cons_self rfl rfl rfl rfl hG, calls_sym hL (noO_ok _ _ aR aS) (run_w6 _ aR aS) (List.mem_cons_of_mem _ List.mem_cons_self) rfl rfl rfl rfl hG, ?_⟩
  rw [← hK]
  exact calls_sym hL (noO_ok _ _ aR aS) (run_w6 _ aR aS) (List.mem_cons_of_mem _ (List.mem_cons_of_mem _ List.mem_cons_self)) rfl rfl rfl rfl hG
def L_w7 : List CF := []
theorem ok_w7 (n : Int) (hn0 : -9223372036854775808 ≤ n) (hn1 : n < 9223372036854775808) : ∀ f ∈ L_w7, f.ok (rho 0 n 0 0 0 0) := fun _ h => by cases h
def J_w7 : List SEntry := [(9, [.v (.int .i64 7), .sym (.int .i64 (.var 1))], .tuple [.agg [.v (.int .i64 7), .sym (.int .u64 (.sh .shr .u64 (.sh .shl .u64 (.cv .u64 (.var 1)) (.lit 32)) (.lit 32)))], .v (.int .i64 0)]),
  (10, [.v (.int .i64 7)], .v (.int .i64 0)),
  (11, [.v (.int .i64 7), .sym (.int .i64 (.var 1))], .agg [.v (.int .i64 7), .sym (.int .u64 (.bin .and .u64 (.cv .u64 (.var 1)) (.lit 4294967295)))])]
theorem run_w7 (ρ : Nat → Int) (aR aS : Addr) : J_w7.map (fun e => (@call (E ρ L_w7) Tryz.prog (glob aR aS) noO 300 60 (.fn e.1) e.2.1 []).map fun r => nrm r.1) = J_w7.map fun e => some e.2.2 := by kernel_rfl
theorem wk_w7 (aR aS : Addr) (n : Int) (hn0 : -9223372036854775808 ≤ n) (hn1 : n < 9223372036854775808) : WOk aR aS 7 n (IE.ev (rho 0 n 0 0 0 0) (.sh .shr .u64 (.sh .shl .u64 (.cv .u64 (.var 1)) (.lit 32)) (.lit 32))) := by
  have hL := ok_w7 n hn0 hn1
  have hK : IE.ev (rho 0 n 0 0 0 0) (.bin .and .u64 (.cv .u64 (.var 1)) (.lit 4294967295)) = IE.ev (rho 0 n 0 0 0 0) (.sh .shr .u64 (.sh .shl .u64 (.cv .u64 (.var 1)) (.lit 32)) (.lit 32)) := by simp (disch := omega) only [IE.ev, rho_1, and_u64_32, shl_u64_32, shr_u64_32, wrap_u64] <;> omega
  intro w hG
  refine ⟨calls_sym hL (noO_ok _ _ aR aS) (run_w7 _ aR aS) List.mem_cons_self rfl rfl rfl rfl hG, calls_sym hL (noO_ok _ _ aR aS) (run_w7 _ aR aS) (List.mem_cons_of_mem _ List.mem_cons_self) rfl rfl rfl rfl hG, ?_⟩
  rw [← hK]
  exact calls_sym hL (noO_ok _ _ aR aS) (run_w7 _ aR aS) (List.mem_cons_of_mem _ (List.mem_cons_of_mem _ List.mem_cons_self)) rfl rfl rfl rfl hG
def L_w8 : List CF := []
theorem ok_w8 (n : Int) (hn0 : -9223372036854775808 ≤ n) (hn1 : n < 9223372036854775808) : ∀ f ∈ L_w8, f.ok (rho 0 n 0 0 0 0) := fun _ h => by cases h
def J_w8 : List SEntry := [(9, [.v (.int .i64 8), .sym (.int .i64 (.var 1))], .tuple [.agg [.v (.int .i64 8), .sym (.int .u64 (.sh .shr .u64 (.sh .shl .u64 (.cv .u64 (.var 1)) (.lit 0)) (.lit 0)))], .v (.int .i64 0)]),
  (10, [.v (.int .i64 8)], .v (.int .i64 0)),
  (11, [.v (.int .i64 8), .sym (.int .i64 (.var 1))], .agg [.v (.int .i64 8), .sym (.int .u64 (.bin .and .u64 (.cv .u64 (.var 1)) (.lit 18446744073709551615)))])]
theorem run_w8 (ρ : Nat → Int) (aR aS : Addr) : J_w8.map (fun e => (@call (E ρ L_w8) Tryz.prog (glob aR aS) noO 300 60 (.fn e.1) e.2.1 []).map fun r => nrm r.1) = J_w8.map fun e => some e.2.2 := by kernel_rfl
theorem wk_w8 (aR aS : Addr) (n : Int) (hn0 : -9223372036854775808 ≤ n) (hn1 : n < 9223372036854775808) : WOk aR aS 8 n (IE.ev (rho 0 n 0 0 0 0) (.sh .shr .u64 (.sh .shl .u64 (.cv .u64 (.var 1)) (.lit 0)) (.lit 0))) := by
  have hL := ok_w8 n hn0 hn1
  have hK : IE.ev (rho 0 n 0 0 0 0) (.bin .and .u64 (.cv .u64 (.var 1)) (.lit 18446744073709551615)) = IE.ev (rho 0 n 0 0 0 0) (.sh .shr .u64 (.sh .shl .u64 (.cv .u64 (.var 1)) (.lit 0)) (.lit 0)) := by simp (disch := omega) only [IE.ev, rho_1, and_u64_64, shl_u64_0, shr_u64_0, wrap_u64] <;> omega
  intro w hG
  refine ⟨calls_sym hL (noO_ok _ _ aR aS) (run_w8 _ aR aS) List.mem_cons_self rfl rfl rfl rfl hG, calls_sym hL (noO_ok _ _ aR aS) (run_w8 _ aR aS) (List.mem_cons_of_mem _ List.mem_cons_self) rfl rfl rfl rfl hG, ?_⟩
  rw [← hK]
  exact calls_sym hL (noO_ok _ _ aR aS) (run_w8 _ aR aS) (List.mem_cons_of_mem _ (List.mem_cons_of_mem _ List.mem_cons_self)) rfl rfl rfl rfl hG
def L_w9 : List CF := []
theorem ok_w9 (n : Int) (hn0 : -9223372036854775808 ≤ n) (hn1 : n < 9223372036854775808) : ∀ f ∈ L_w9, f.ok (rho 0 n 0 0 0 0) := fun _ h => by cases h
def J_w9 : List SEntry := [(9, [.v (.int .i64 9), .sym (.int .i64 (.var 1))], .v (.tuple #[.agg #[.int .i64 0, .int .u64 0], .int .i64 12])),
  (10, [.v (.int .i64 9)], .v (.int .i64 0))]
theorem run_w9 (ρ : Nat → Int) (aR aS : Addr) : J_w9.map (fun e => (@call (E ρ L_w9) Tryz.prog (glob aR aS) noO 300 60 (.fn e.1) e.2.1 []).map fun r => nrm r.1) = J_w9.map fun e => some e.2.2 := by kernel_rfl
theorem wk_w9 (aR aS : Addr) (n : Int) (hn0 : -9223372036854775808 ≤ n) (hn1 : n < 9223372036854775808) : WTyp aR aS 9 n := by
  have hL := ok_w9 n hn0 hn1
  intro w hG
  exact ⟨calls_sym hL (noO_ok _ _ aR aS) (run_w9 _ aR aS) List.mem_cons_self rfl rfl rfl rfl hG, calls_sym hL (noO_ok _ _ aR aS) (run_w9 _ aR aS) (List.mem_cons_of_mem _ List.mem_cons_self) rfl rfl rfl rfl hG⟩
def L_w10 : List CF := []
theorem ok_w10 (n : Int) (hn0 : -9223372036854775808 ≤ n) (hn1 : n < 9223372036854775808) : ∀ f ∈ L_w10, f.ok (rho 0 n 0 0 0 0) := fun _ h => by cases h
def J_w10 : List SEntry := [(9, [.v (.int .i64 10), .sym (.int .i64 (.var 1))], .v (.tuple #[.agg #[.int .i64 0, .int .u64 0], .int .i64 12])),
  (10, [.v (.int .i64 10)], .v (.int .i64 0))]
theorem run_w10 (ρ : Nat → Int) (aR aS : Addr) : J_w10.map (fun e => (@call (E ρ L_w10) Tryz.prog (glob aR aS) noO 300 60 (.fn e.1) e.2.1 []).map fun r => nrm r.1) = J_w10.map fun e => some e.2.2 := by kernel_rfl
theorem wk_w10 (aR aS : Addr) (n : Int) (hn0 : -9223372036854775808 ≤ n) (hn1 : n < 9223372036854775808) : WTyp aR aS 10 n := by
  have hL := ok_w10 n hn0 hn1
  intro w hG
  exact ⟨calls_sym hL (noO_ok _ _ aR aS) (run_w10 _ aR aS) List.mem_cons_self rfl rfl rfl rfl hG, calls_sym hL (noO_ok _ _ aR aS) (run_w10 _ aR aS) (List.mem_cons_of_mem _ List.mem_cons_self) rfl rfl rfl rfl hG⟩
def L_wneg : List CF := [⟨.lss, (.var 2), (.lit 0), true⟩]
theorem ok_wneg (k n : Int) (h0 : k < 0) : ∀ f ∈ L_wneg, f.ok (rho 0 n k 0 0 0) := by
  intro f hf
  simp only [L_wneg, List.mem_cons, List.not_mem_nil, or_false] at hf
  subst hf
  · exact ⟨rfl, cmp_lss_t (by simp (disch := omega) only [IE.ev, rho_2] <;> omega)⟩
def J_wneg : List SEntry := [(9, [.sym (.int .i64 (.var 2)), .sym (.int .i64 (.var 1))], .v (.tuple #[.agg #[.int .i64 0, .int .u64 0], .int .i64 11])),
  (10, [.sym (.int .i64 (.var 2))], .v (.int .i64 11))]
theorem run_wneg (ρ : Nat → Int) (aR aS : Addr) : J_wneg.map (fun e => (@call (E ρ L_wneg) Tryz.prog (glob aR aS) noO 300 60 (.fn e.1) e.2.1 []).map fun r => nrm r.1) = J_wneg.map fun e => some e.2.2 := by kernel_rfl
theorem wk_wneg (aR aS : Addr) (k n : Int) (h0 : k < 0) : WErr aR aS k n := by
  have hL := ok_wneg k n h0
  intro w hG
  exact ⟨calls_sym hL (noO_ok _ _ aR aS) (run_wneg _ aR aS) List.mem_cons_self rfl rfl rfl rfl hG, calls_sym hL (noO_ok _ _ aR aS) (run_wneg _ aR aS) (List.mem_cons_of_mem _ List.mem_cons_self) rfl rfl rfl rfl hG⟩
def L_wbig : List CF := [⟨.lss, (.var 2), (.lit 0), false⟩,
  ⟨.geq, (.var 2), (.lit 11), true⟩]
theorem ok_wbig (k n : Int) (h0 : 11 ≤ k) : ∀ f ∈ L_wbig, f.ok (rho 0 n k 0 0 0) := by
  intro f hf
  simp only [L_wbig, List.mem_cons, List.not_mem_nil, or_false] at hf
  rcases hf with rfl | rfl
  · exact ⟨rfl, cmp_lss_f (by simp (disch := omega) only [IE.ev, rho_2] <;> omega)⟩
  · exact ⟨rfl, cmp_geq_t (by simp (disch := omega) only [IE.ev, rho_2] <;> omega)⟩
def J_wbig : List SEntry := [(9, [.sym (.int .i64 (.var 2)), .sym (.int .i64 (.var 1))], .v (.tuple #[.agg #[.int .i64 0, .int .u64 0], .int .i64 11])),
  (10, [.sym (.int .i64 (.var 2))], .v (.int .i64 11))]
theorem run_wbig (ρ : Nat → Int) (aR aS : Addr) : J_wbig.map (fun e => (@call (E ρ L_wbig) Tryz.prog (glob aR aS) noO 300 60 (.fn e.1) e.2.1 []).map fun r => nrm r.1) = J_wbig.map fun e => some e.2.2 := by kernel_rfl
theorem wk_wbig (aR aS : Addr) (k n : Int) (h0 : 11 ≤ k) : WErr aR aS k n := by
  have hL := ok_wbig k n h0
  intro w hG
  exact ⟨calls_sym hL (noO_ok _ _ aR aS) (run_wbig _ aR aS) List.mem_cons_self rfl rfl rfl rfl hG, calls_sym hL (noO_ok _ _ aR aS) (run_wbig _ aR aS) (List.mem_cons_of_mem _ List.mem_cons_self) rfl rfl rfl rfl hG⟩
end
end Go.Proofs.YtljmnbkjhgnaiaaGreatDoor
