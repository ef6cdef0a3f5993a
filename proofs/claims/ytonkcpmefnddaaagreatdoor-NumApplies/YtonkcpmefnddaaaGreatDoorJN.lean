import Derived.Test.YtonkcpmefnddaaaGreatDoorJD
namespace Go.Proofs.YtonkcpmefnddaaaGreatDoor
noncomputable section
open Go Go.RX
open Go.RowKit (Below)
set_option maxRecDepth 1000000
set_option maxHeartbeats 4000000
/-- Both have the same result for an operation and a kind. -/
def ResV (aR aS : Addr) (op k : Int) : Prop := ∃ K e : Int, ∀ w, (glob aR aS).holds w → Calls Tryz.prog 5 #[.int .i64 op, .int .i64 k] w (Ret (.tuple #[.int .i64 K, .int .i64 e]) w) ∧ Calls Tryz.prog 6 #[.int .i64 op, .int .i64 k] w (Ret (.tuple #[.int .i64 K, .int .i64 e]) w)
def tabR : List (List (Int × Int)) := [[(0, 12), (1, 0), (2, 0), (3, 0), (4, 0), (5, 0), (6, 0), (7, 0), (8, 0), (9, 0), (10, 0)], [(0, 12), (1, 0), (2, 0), (3, 0), (4, 0), (5, 0), (6, 0), (7, 0), (8, 0), (9, 0), (10, 0)], [(0, 12), (1, 0), (2, 0), (3, 0), (4, 0), (5, 0), (6, 0), (7, 0), (8, 0), (9, 0), (10, 0)], [(0, 12), (1, 0), (2, 0), (3, 0), (4, 0), (5, 0), (6, 0), (7, 0), (8, 0), (9, 0), (0, 12)], [(0, 12), (1, 0), (2, 0), (3, 0), (4, 0), (5, 0), (6, 0), (7, 0), (8, 0), (0, 12), (0, 12)], [(0, 12), (1, 0), (2, 0), (3, 0), (4, 0), (5, 0), (6, 0), (7, 0), (8, 0), (9, 0), (0, 12)], [(0, 12), (1, 0), (2, 0), (3, 0), (4, 0), (5, 0), (6, 0), (7, 0), (8, 0), (9, 0), (0, 12)], [(0, 0), (1, 0), (2, 0), (3, 0), (4, 0), (5, 0), (6, 0), (7, 0), (8, 0), (0, 12), (0, 12)], [(0, 0), (1, 0), (2, 0), (3, 0), (4, 0), (5, 0), (6, 0), (7, 0), (8, 0), (0, 12), (0, 12)], [(0, 0), (1, 0), (2, 0), (3, 0), (4, 0), (5, 0), (6, 0), (7, 0), (8, 0), (0, 12), (0, 12)], [(0, 12), (1, 0), (2, 0), (3, 0), (4, 0), (5, 0), (6, 0), (7, 0), (8, 0), (0, 12), (0, 12)], [(0, 12), (1, 0), (2, 0), (3, 0), (4, 0), (5, 0), (6, 0), (7, 0), (8, 0), (0, 12), (0, 12)], [(0, 12), (1, 0), (2, 0), (3, 0), (4, 0), (5, 0), (6, 0), (7, 0), (8, 0), (0, 12), (0, 12)], [(0, 12), (1, 0), (2, 0), (3, 0), (4, 0), (5, 0), (6, 0), (7, 0), (8, 0), (0, 12), (0, 12)], [(0, 12), (1, 0), (2, 0), (3, 0), (4, 0), (5, 0), (6, 0), (7, 0), (8, 0), (0, 12), (0, 12)], [(0, 12), (1, 0), (2, 0), (3, 0), (4, 0), (1, 0), (2, 0), (3, 0), (4, 0), (0, 12), (0, 12)], [(0, 0), (0, 0), (0, 0), (0, 0), (0, 0), (0, 0), (0, 0), (0, 0), (0, 0), (0, 0), (0, 0)], [(0, 0), (0, 0), (0, 0), (0, 0), (0, 0), (0, 0), (0, 0), (0, 0), (0, 0), (0, 0), (0, 0)], [(0, 12), (0, 0), (0, 0), (0, 0), (0, 0), (0, 0), (0, 0), (0, 0), (0, 0), (0, 0), (0, 12)], [(0, 12), (0, 0), (0, 0), (0, 0), (0, 0), (0, 0), (0, 0), (0, 0), (0, 0), (0, 0), (0, 12)]]
def resT (i j : Nat) : Int × Int := (tabR.getD i []).getD j (0, 0)
def jR (i j : Nat) : List SEntry := [(5, [.v (.int .i64 ((i + 6 : Nat) : Int)), .v (.int .i64 (j : Int))], .v (.tuple #[.int .i64 (resT i j).1, .int .i64 (resT i j).2])), (6, [.v (.int .i64 ((i + 6 : Nat) : Int)), .v (.int .i64 (j : Int))], .v (.tuple #[.int .i64 (resT i j).1, .int .i64 (resT i j).2]))]
theorem run_t0 (W : Nat → Nat) (C : Nat → Nat × Nat) (ρ : Nat → Int) (aR aS : Addr) : (List.range 11).map (fun j => (jR 0 j).map fun e => (@call (E W C ρ [] []) Tryz.prog (glob aR aS) (tabS []) 300 60 (.fn e.1) e.2.1 []).map fun r => nrm r.1) = (List.range 11).map fun j => (jR 0 j).map fun e => some e.2.2 := by kernel_rfl
theorem run_t1 (W : Nat → Nat) (C : Nat → Nat × Nat) (ρ : Nat → Int) (aR aS : Addr) : (List.range 11).map (fun j => (jR 1 j).map fun e => (@call (E W C ρ [] []) Tryz.prog (glob aR aS) (tabS []) 300 60 (.fn e.1) e.2.1 []).map fun r => nrm r.1) = (List.range 11).map fun j => (jR 1 j).map fun e => some e.2.2 := by kernel_rfl
theorem run_t2 (W : Nat → Nat) (C : Nat → Nat × Nat) (ρ : Nat → Int) (aR aS : Addr) : (List.range 11).map (fun j => (jR 2 j).map fun e => (@call (E W C ρ [] []) Tryz.prog (glob aR aS) (tabS []) 300 60 (.fn e.1) e.2.1 []).map fun r => nrm r.1) = (List.range 11).map fun j => (jR 2 j).map fun e => some e.2.2 := by kernel_rfl
theorem run_t3 (W : Nat → Nat) (C : Nat → Nat × Nat) (ρ : Nat → Int) (aR aS : Addr) : (List.range 11).map (fun j => (jR 3 j).map fun e => (@call (E W C ρ [] []) Tryz.prog (glob aR aS) (tabS []) 300 60 (.fn e.1) e.2.1 []).map fun r => nrm r.1) = (List.range 11).map fun j => (jR 3 j).map fun e => some e.2.2 := by kernel_rfl
theorem run_t4 (W : Nat → Nat) (C : Nat → Nat × Nat) (ρ : Nat → Int) (aR aS : Addr) : (List.range 11).map (fun j => (jR 4 j).map fun e => (@call (E W C ρ [] []) Tryz.prog (glob aR aS) (tabS []) 300 60 (.fn e.1) e.2.1 []).map fun r => nrm r.1) = (List.range 11).map fun j => (jR 4 j).map fun e => some e.2.2 := by kernel_rfl
theorem run_t5 (W : Nat → Nat) (C : Nat → Nat × Nat) (ρ : Nat → Int) (aR aS : Addr) : (List.range 11).map (fun j => (jR 5 j).map fun e => (@call (E W C ρ [] []) Tryz.prog (glob aR aS) (tabS []) 300 60 (.fn e.1) e.2.1 []).map fun r => nrm r.1) = (List.range 11).map fun j => (jR 5 j).map fun e => some e.2.2 := by kernel_rfl
theorem run_t6 (W : Nat → Nat) (C : Nat → Nat × Nat) (ρ : Nat → Int) (aR aS : Addr) : (List.range 11).map (fun j => (jR 6 j).map fun e => (@call (E W C ρ [] []) Tryz.prog (glob aR aS) (tabS []) 300 60 (.fn e.1) e.2.1 []).map fun r => nrm r.1) = (List.range 11).map fun j => (jR 6 j).map fun e => some e.2.2 := by kernel_rfl
theorem run_t7 (W : Nat → Nat) (C : Nat → Nat × Nat) (ρ : Nat → Int) (aR aS : Addr) : (List.range 11).map (fun j => (jR 7 j).map fun e => (@call (E W C ρ [] []) Tryz.prog (glob aR aS) (tabS []) 300 60 (.fn e.1) e.2.1 []).map fun r => nrm r.1) = (List.range 11).map fun j => (jR 7 j).map fun e => some e.2.2 := by kernel_rfl
theorem run_t8 (W : Nat → Nat) (C : Nat → Nat × Nat) (ρ : Nat → Int) (aR aS : Addr) : (List.range 11).map (fun j => (jR 8 j).map fun e => (@call (E W C ρ [] []) Tryz.prog (glob aR aS) (tabS []) 300 60 (.fn e.1) e.2.1 []).map fun r => nrm r.1) = (List.range 11).map fun j => (jR 8 j).map fun e => some e.2.2 := by kernel_rfl
theorem run_t9 (W : Nat → Nat) (C : Nat → Nat × Nat) (ρ : Nat → Int) (aR aS : Addr) : (List.range 11).map (fun j => (jR 9 j).map fun e => (@call (E W C ρ [] []) Tryz.prog (glob aR aS) (tabS []) 300 60 (.fn e.1) e.2.1 []).map fun r => nrm r.1) = (List.range 11).map fun j => (jR 9 j).map fun e => some e.2.2 := by kernel_rfl
theorem run_t10 (W : Nat → Nat) (C : Nat → Nat × Nat) (ρ : Nat → Int) (aR aS : Addr) : (List.range 11).map (fun j => (jR 10 j).map fun e => (@call (E W C ρ [] []) Tryz.prog (glob aR aS) (tabS []) 300 60 (.fn e.1) e.2.1 []).map fun r => nrm r.1) = (List.range 11).map fun j => (jR 10 j).map fun e => some e.2.2 := by kernel_rfl
theorem run_t11 (W : Nat → Nat) (C : Nat → Nat × Nat) (ρ : Nat → Int) (aR aS : Addr) : (List.range 11).map (fun j => (jR 11 j).map fun e => (@call (E W C ρ [] []) Tryz.prog (glob aR aS) (tabS []) 300 60 (.fn e.1) e.2.1 []).map fun r => nrm r.1) = (List.range 11).map fun j => (jR 11 j).map fun e => some e.2.2 := by kernel_rfl
theorem run_t12 (W : Nat → Nat) (C : Nat → Nat × Nat) (ρ : Nat → Int) (aR aS : Addr) : (List.range 11).map (fun j => (jR 12 j).map fun e => (@call (E W C ρ [] []) Tryz.prog (glob aR aS) (tabS []) 300 60 (.fn e.1) e.2.1 []).map fun r => nrm r.1) = (List.range 11).map fun j => (jR 12 j).map fun e => some e.2.2 := by kernel_rfl
theorem run_t13 (W : Nat → Nat) (C : Nat → Nat × Nat) (ρ : Nat → Int) (aR aS : Addr) : (List.range 11).map (fun j => (jR 13 j).map fun e => (@call (E W C ρ [] []) Tryz.prog (glob aR aS) (tabS []) 300 60 (.fn e.1) e.2.1 []).map fun r => nrm r.1) = (List.range 11).map fun j => (jR 13 j).map fun e => some e.2.2 := by kernel_rfl
theorem run_t14 (W : Nat → Nat) (C : Nat → Nat × Nat) (ρ : Nat → Int) (aR aS : Addr) : (List.range 11).map (fun j => (jR 14 j).map fun e => (@call (E W C ρ [] []) Tryz.prog (glob aR aS) (tabS []) 300 60 (.fn e.1) e.2.1 []).map fun r => nrm r.1) = (List.range 11).map fun j => (jR 14 j).map fun e => some e.2.2 := by kernel_rfl
theorem run_t15 (W : Nat → Nat) (C : Nat → Nat × Nat) (ρ : Nat → Int) (aR aS : Addr) : (List.range 11).map (fun j => (jR 15 j).map fun e => (@call (E W C ρ [] []) Tryz.prog (glob aR aS) (tabS []) 300 60 (.fn e.1) e.2.1 []).map fun r => nrm r.1) = (List.range 11).map fun j => (jR 15 j).map fun e => some e.2.2 := by kernel_rfl
theorem run_t16 (W : Nat → Nat) (C : Nat → Nat × Nat) (ρ : Nat → Int) (aR aS : Addr) : (List.range 11).map (fun j => (jR 16 j).map fun e => (@call (E W C ρ [] []) Tryz.prog (glob aR aS) (tabS []) 300 60 (.fn e.1) e.2.1 []).map fun r => nrm r.1) = (List.range 11).map fun j => (jR 16 j).map fun e => some e.2.2 := by kernel_rfl
theorem run_t17 (W : Nat → Nat) (C : Nat → Nat × Nat) (ρ : Nat → Int) (aR aS : Addr) : (List.range 11).map (fun j => (jR 17 j).map fun e => (@call (E W C ρ [] []) Tryz.prog (glob aR aS) (tabS []) 300 60 (.fn e.1) e.2.1 []).map fun r => nrm r.1) = (List.range 11).map fun j => (jR 17 j).map fun e => some e.2.2 := by kernel_rfl
theorem run_t18 (W : Nat → Nat) (C : Nat → Nat × Nat) (ρ : Nat → Int) (aR aS : Addr) : (List.range 11).map (fun j => (jR 18 j).map fun e => (@call (E W C ρ [] []) Tryz.prog (glob aR aS) (tabS []) 300 60 (.fn e.1) e.2.1 []).map fun r => nrm r.1) = (List.range 11).map fun j => (jR 18 j).map fun e => some e.2.2 := by kernel_rfl
theorem run_t19 (W : Nat → Nat) (C : Nat → Nat × Nat) (ρ : Nat → Int) (aR aS : Addr) : (List.range 11).map (fun j => (jR 19 j).map fun e => (@call (E W C ρ [] []) Tryz.prog (glob aR aS) (tabS []) 300 60 (.fn e.1) e.2.1 []).map fun r => nrm r.1) = (List.range 11).map fun j => (jR 19 j).map fun e => some e.2.2 := by kernel_rfl
theorem run_tabR (W : Nat → Nat) (C : Nat → Nat × Nat) (ρ : Nat → Int) (aR aS : Addr) : ∀ i, i < 20 → (List.range 11).map (fun j => (jR i j).map fun e => (@call (E W C ρ [] []) Tryz.prog (glob aR aS) (tabS []) 300 60 (.fn e.1) e.2.1 []).map fun r => nrm r.1) = (List.range 11).map fun j => (jR i j).map fun e => some e.2.2
  | 0, _ => run_t0 W C ρ aR aS
  | 1, _ => run_t1 W C ρ aR aS
  | 2, _ => run_t2 W C ρ aR aS
  | 3, _ => run_t3 W C ρ aR aS
  | 4, _ => run_t4 W C ρ aR aS
  | 5, _ => run_t5 W C ρ aR aS
  | 6, _ => run_t6 W C ρ aR aS
  | 7, _ => run_t7 W C ρ aR aS
  | 8, _ => run_t8 W C ρ aR aS
  | 9, _ => run_t9 W C ρ aR aS
  | 10, _ => run_t10 W C ρ aR aS
  | 11, _ => run_t11 W C ρ aR aS
  | 12, _ => run_t12 W C ρ aR aS
  | 13, _ => run_t13 W C ρ aR aS
  | 14, _ => run_t14 W C ρ aR aS
  | 15, _ => run_t15 W C ρ aR aS
  | 16, _ => run_t16 W C ρ aR aS
  | 17, _ => run_t17 W C ρ aR aS
  | 18, _ => run_t18 W C ρ aR aS
  | 19, _ => run_t19 W C ρ aR aS
  | n + 20, h => absurd h (by omega)
theorem res_in (aR aS : Addr) {op k : Int} (o0 : 6 ≤ op) (o1 : op ≤ 25) (k0 : 0 ≤ k) (k1 : k < 11) : ResV aR aS op k := by
  have h := List.map_inj_left.1 (run_tabR (wF 0) (cF 0) (rc 0 0 0 0 0 0 0) aR aS (op - 6).toNat (by omega)) k.toNat (List.mem_range.2 (by omega))
  have f1 : (((op - 6).toNat + 6 : Nat) : Int) = op := by omega
  have f2 : ((k.toNat : Nat) : Int) = k := by omega
  refine ⟨(resT (op - 6).toNat k.toNat).1, (resT (op - 6).toNat k.toNat).2, fun w hG => ?_⟩
  have := pair_of (W := wF 0) (C := cF 0) (ρ := rc 0 0 0 0 0 0 0) (L := []) (T := []) (U := []) (fun _ h => by cases h) (fun _ h => by cases h) (fun _ h => by cases h) h rfl rfl rfl (vs := [.int .i64 (((op - 6).toNat + 6 : Nat) : Int), .int .i64 (k.toNat : Int)]) (v := .tuple #[.int .i64 (resT (op - 6).toNat k.toNat).1, .int .i64 (resT (op - 6).toNat k.toNat).2]) (v' := .tuple #[.int .i64 (resT (op - 6).toNat k.toNat).1, .int .i64 (resT (op - 6).toNat k.toNat).2]) rfl rfl rfl w hG
  rw [f1, f2] at this
  exact this
def kK (r1 r2 : Bool) : List CF := [⟨.lss, .var 7, .lit 0, r1⟩, ⟨.geq, .var 7, .lit 11, r2⟩]
def L_ol (r1 r2 : Bool) : List CF := [⟨.lss, .var 1, .lit 6, true⟩, ⟨.geq, .var 1, .lit 6, false⟩] ++ kK r1 r2
def L_oh (r1 r2 : Bool) : List CF := [⟨.lss, .var 1, .lit 6, false⟩, ⟨.gtr, .var 1, .lit 25, true⟩, ⟨.geq, .var 1, .lit 6, true⟩, ⟨.leq, .var 1, .lit 25, false⟩] ++ kK r1 r2
def L_ok (r1 r2 : Bool) : List CF := [⟨.lss, .var 1, .lit 6, false⟩, ⟨.gtr, .var 1, .lit 25, false⟩, ⟨.geq, .var 1, .lit 6, true⟩, ⟨.leq, .var 1, .lit 25, true⟩] ++ kK r1 r2
def xsR : List SVal := [.sym (.int .i64 (.var 1)), .sym (.int .i64 (.var 7))]
def e11 : SVal := .v (.tuple #[.int .i64 0, .int .i64 11])
theorem run_ol (W : Nat → Nat) (C : Nat → Nat × Nat) (ρ : Nat → Int) (aR aS : Addr) (r1 r2 : Bool) : runE W C ρ aR aS (L_ol r1 r2) [] [] [(5, xsR, e11), (6, xsR, e11)] := by
  unfold runE
  cases r1 <;> cases r2 <;> kernel_rfl
theorem run_oh (W : Nat → Nat) (C : Nat → Nat × Nat) (ρ : Nat → Int) (aR aS : Addr) (r1 r2 : Bool) : runE W C ρ aR aS (L_oh r1 r2) [] [] [(5, xsR, e11), (6, xsR, e11)] := by
  unfold runE
  cases r1 <;> cases r2 <;> kernel_rfl
theorem run_ok (W : Nat → Nat) (C : Nat → Nat × Nat) (ρ : Nat → Int) (aR aS : Addr) (r1 r2 : Bool) (h : (r1 || r2) = true) : runE W C ρ aR aS (L_ok r1 r2) [] [] [(5, xsR, e11), (6, xsR, e11)] := by
  unfold runE
  cases r1 <;> cases r2 <;> first | (exact absurd h (by decide)) | kernel_rfl
theorem res_of {aR aS : Addr} {op k : Int} {L : List CF} (hL : ∀ f ∈ L, f.ok (rc 0 0 0 0 k op 0)) (h : runE (wF 0) (cF 0) (rc 0 0 0 0 k op 0) aR aS L [] [] [(5, xsR, e11), (6, xsR, e11)]) : ResV aR aS op k := ⟨0, 11, fun w hG =>
  pair_of (W := wF 0) (C := cF 0) (ρ := rc 0 0 0 0 k op 0) (T := []) (U := []) hL (fun _ h => by cases h) (fun _ h => by cases h) h rfl rfl rfl (vs := [.int .i64 op, .int .i64 k]) (v := .tuple #[.int .i64 0, .int .i64 11]) (v' := .tuple #[.int .i64 0, .int .i64 11]) rfl rfl rfl w hG⟩
theorem kK_ok (op k : Int) : ∀ f ∈ kK (decide (k < 0)) (decide (k ≥ 11)), f.ok (rc 0 0 0 0 k op 0) := fun f hf => by
  simp only [kK, List.mem_cons, List.not_mem_nil, or_false] at hf
  rcases hf with rfl | rfl
  · exact ⟨rfl, rfl⟩
  · exact ⟨rfl, rfl⟩
/-- Result. -/
theorem res_all (aR aS : Addr) (op k : Int) : ResV aR aS op k := by
  rcases Int.lt_or_le op 6 with h1 | h1
  · refine res_of (fun f hf => ?_) (run_ol _ _ _ aR aS (decide (k < 0)) (decide (k ≥ 11)))
    rcases List.mem_append.1 hf with hf | hf
    · simp only [List.mem_cons, List.not_mem_nil, or_false] at hf
      rcases hf with rfl | rfl
      · exact ⟨rfl, decide_eq_true h1⟩
      · exact ⟨rfl, decide_eq_false (show ¬ op ≥ 6 by omega)⟩
    · exact kK_ok op k f hf
  rcases Int.lt_or_le 25 op with h2 | h2
  · refine res_of (fun f hf => ?_) (run_oh _ _ _ aR aS (decide (k < 0)) (decide (k ≥ 11)))
    rcases List.mem_append.1 hf with hf | hf
    · simp only [List.mem_cons, List.not_mem_nil, or_false] at hf
      rcases hf with rfl | rfl | rfl | rfl
      · exact ⟨rfl, decide_eq_false (show ¬ op < 6 by omega)⟩
      · exact ⟨rfl, decide_eq_true h2⟩
      · exact ⟨rfl, decide_eq_true h1⟩
      · exact ⟨rfl, decide_eq_false (show ¬ op ≤ 25 by omega)⟩
    · exact kK_ok op k f hf
  by_cases hk : 0 ≤ k ∧ k < 11
  · exact res_in aR aS h1 h2 hk.1 hk.2
  · refine res_of (fun f hf => ?_) (run_ok _ _ _ aR aS (decide (k < 0)) (decide (k ≥ 11)) ?_)
    · rcases List.mem_append.1 hf with hf | hf
      · simp only [List.mem_cons, List.not_mem_nil, or_false] at hf
        rcases hf with rfl | rfl | rfl | rfl
        · exact ⟨rfl, decide_eq_false (show ¬ op < 6 by omega)⟩
        · exact ⟨rfl, decide_eq_false (show ¬ op > 25 by omega)⟩
        · exact ⟨rfl, decide_eq_true h1⟩
        · exact ⟨rfl, decide_eq_true h2⟩
      · exact kK_ok op k f hf
    · rcases Int.lt_or_le k 0 with h | h
      · simp [h]
      · have : k ≥ 11 := by omega
        simp [this]

/-! ### Not -/
def NotV (aR aS : Addr) (k b : Int) : Prop := ∃ K B e : Int, ∀ w, (glob aR aS).holds w → Calls Tryz.prog 9 #[agV k b] w (Ret (.tuple #[agV K B, .int .i64 e]) w) ∧ Calls Tryz.prog 10 #[agV k b] w (Ret (.tuple #[agV K B, .int .i64 e]) w)
theorem xor_ones {x : Int} (h0 : 0 ≤ x) (h1 : x < 18446744073709551616) : binI .xor .u64 18446744073709551615 x = 18446744073709551615 - x := by
  show IntKind.wrap .u64 (((BitVec.ofInt 64 18446744073709551615 ^^^ BitVec.ofInt 64 x).toNat : Nat) : Int) = _
  have e : BitVec.ofInt 64 18446744073709551615 = BitVec.allOnes 64 := by decide
  rw [e, BitVec.allOnes_xor, BitVec.toNat_not, ofInt_toNat 64 x h0 h1, wrap_u64]
  omega
theorem run_n0 (W : Nat → Nat) (C : Nat → Nat × Nat) (ρ : Nat → Int) (aR aS : Addr) : runE W C ρ aR aS [] [] (UC 0) [(9, [ag0 0], .tuple [.agg [.v (.int .i64 0), .sym (.int .u64 (.sh .shr .u64 (.sh .shl .u64 (.bin .xor .u64 (.lit 18446744073709551615) (.var 0)) (.lit 63)) (.lit 63)))], .v (.int .i64 0)]), (10, [ag0 0], .tuple [.agg [.v (.int .i64 0), .sym (.int .u64 (.bin .sub .u64 (.lit 1) (.var 0)))], .v (.int .i64 0)])] := by unfold runE; kernel_rfl
theorem not_0 {aR aS : Addr} {b : Int} (b0 : 0 ≤ b) (b1 : b < 2) (hc : Chk aR aS 0 b 0) : NotV aR aS 0 b := by
  have e1 : IE.ev (rc b 0 0 0 0 0 0) (.sh .shr .u64 (.sh .shl .u64 (.bin .xor .u64 (.lit 18446744073709551615) (.var 0)) (.lit 63)) (.lit 63)) = 1 - b := by
    simp only [IE.ev, rc_0]
    rw [xor_ones b0 (by omega), shl_u64_63, shr_u64_63, wrap_u64]
    omega
  have e2 : IE.ev (rc b 0 0 0 0 0 0) (.bin .sub .u64 (.lit 1) (.var 0)) = 1 - b := by
    show IntKind.wrap .u64 (1 - b) = _
    rw [wrap_u64]
    omega
  exact ⟨0, 1 - b, 0, fun w hG => pair_of (W := wF 0) (C := cF 0) (ρ := rc b 0 0 0 0 0 0) (L := []) (T := []) (fun _ h => by cases h) (fun _ h => by cases h) (UC_ok hc) (run_n0 _ _ _ aR aS) rfl rfl rfl (vs := [agV 0 b]) rfl (tupE 0 0 e1) (tupE 0 0 e2) w hG⟩
theorem run_n1 (W : Nat → Nat) (C : Nat → Nat × Nat) (ρ : Nat → Int) (aR aS : Addr) : runE W C ρ aR aS [] [] (UC 1) [(9, [ag0 1], .tuple [.agg [.v (.int .i64 1), .sym (.int .u64 (.sh .shr .u64 (.sh .shl .u64 (.bin .xor .u64 (.lit 18446744073709551615) (.var 0)) (.lit 56)) (.lit 56)))], .v (.int .i64 0)]), (10, [ag0 1], .tuple [.agg [.v (.int .i64 1), .sym (.int .u64 (.bin .sub .u64 (.lit 255) (.var 0)))], .v (.int .i64 0)])] := by unfold runE; kernel_rfl
theorem not_1 {aR aS : Addr} {b : Int} (b0 : 0 ≤ b) (b1 : b < 256) (hc : Chk aR aS 1 b 0) : NotV aR aS 1 b := by
  have e1 : IE.ev (rc b 0 0 0 1 0 0) (.sh .shr .u64 (.sh .shl .u64 (.bin .xor .u64 (.lit 18446744073709551615) (.var 0)) (.lit 56)) (.lit 56)) = 255 - b := by
    simp only [IE.ev, rc_0]
    rw [xor_ones b0 (by omega), shl_u64_56, shr_u64_56, wrap_u64]
    omega
  have e2 : IE.ev (rc b 0 0 0 1 0 0) (.bin .sub .u64 (.lit 255) (.var 0)) = 255 - b := by
    show IntKind.wrap .u64 (255 - b) = _
    rw [wrap_u64]
    omega
  exact ⟨1, 255 - b, 0, fun w hG => pair_of (W := wF 0) (C := cF 0) (ρ := rc b 0 0 0 1 0 0) (L := []) (T := []) (fun _ h => by cases h) (fun _ h => by cases h) (UC_ok hc) (run_n1 _ _ _ aR aS) rfl rfl rfl (vs := [agV 1 b]) rfl (tupE 1 0 e1) (tupE 1 0 e2) w hG⟩
theorem run_n2 (W : Nat → Nat) (C : Nat → Nat × Nat) (ρ : Nat → Int) (aR aS : Addr) : runE W C ρ aR aS [] [] (UC 2) [(9, [ag0 2], .tuple [.agg [.v (.int .i64 2), .sym (.int .u64 (.sh .shr .u64 (.sh .shl .u64 (.bin .xor .u64 (.lit 18446744073709551615) (.var 0)) (.lit 48)) (.lit 48)))], .v (.int .i64 0)]), (10, [ag0 2], .tuple [.agg [.v (.int .i64 2), .sym (.int .u64 (.bin .sub .u64 (.lit 65535) (.var 0)))], .v (.int .i64 0)])] := by unfold runE; kernel_rfl
theorem not_2 {aR aS : Addr} {b : Int} (b0 : 0 ≤ b) (b1 : b < 65536) (hc : Chk aR aS 2 b 0) : NotV aR aS 2 b := by
  have e1 : IE.ev (rc b 0 0 0 2 0 0) (.sh .shr .u64 (.sh .shl .u64 (.bin .xor .u64 (.lit 18446744073709551615) (.var 0)) (.lit 48)) (.lit 48)) = 65535 - b := by
    simp only [IE.ev, rc_0]
    rw [xor_ones b0 (by omega), shl_u64_48, shr_u64_48, wrap_u64]
    omega
  have e2 : IE.ev (rc b 0 0 0 2 0 0) (.bin .sub .u64 (.lit 65535) (.var 0)) = 65535 - b := by
    show IntKind.wrap .u64 (65535 - b) = _
    rw [wrap_u64]
    omega
  exact ⟨2, 65535 - b, 0, fun w hG => pair_of (W := wF 0) (C := cF 0) (ρ := rc b 0 0 0 2 0 0) (L := []) (T := []) (fun _ h => by cases h) (fun _ h => by cases h) (UC_ok hc) (run_n2 _ _ _ aR aS) rfl rfl rfl (vs := [agV 2 b]) rfl (tupE 2 0 e1) (tupE 2 0 e2) w hG⟩
theorem run_n3 (W : Nat → Nat) (C : Nat → Nat × Nat) (ρ : Nat → Int) (aR aS : Addr) : runE W C ρ aR aS [] [] (UC 3) [(9, [ag0 3], .tuple [.agg [.v (.int .i64 3), .sym (.int .u64 (.sh .shr .u64 (.sh .shl .u64 (.bin .xor .u64 (.lit 18446744073709551615) (.var 0)) (.lit 32)) (.lit 32)))], .v (.int .i64 0)]), (10, [ag0 3], .tuple [.agg [.v (.int .i64 3), .sym (.int .u64 (.bin .sub .u64 (.lit 4294967295) (.var 0)))], .v (.int .i64 0)])] := by unfold runE; kernel_rfl
theorem not_3 {aR aS : Addr} {b : Int} (b0 : 0 ≤ b) (b1 : b < 4294967296) (hc : Chk aR aS 3 b 0) : NotV aR aS 3 b := by
  have e1 : IE.ev (rc b 0 0 0 3 0 0) (.sh .shr .u64 (.sh .shl .u64 (.bin .xor .u64 (.lit 18446744073709551615) (.var 0)) (.lit 32)) (.lit 32)) = 4294967295 - b := by
    simp only [IE.ev, rc_0]
    rw [xor_ones b0 (by omega), shl_u64_32, shr_u64_32, wrap_u64]
    omega
  have e2 : IE.ev (rc b 0 0 0 3 0 0) (.bin .sub .u64 (.lit 4294967295) (.var 0)) = 4294967295 - b := by
    show IntKind.wrap .u64 (4294967295 - b) = _
    rw [wrap_u64]
    omega
  exact ⟨3, 4294967295 - b, 0, fun w hG => pair_of (W := wF 0) (C := cF 0) (ρ := rc b 0 0 0 3 0 0) (L := []) (T := []) (fun _ h => by cases h) (fun _ h => by cases h) (UC_ok hc) (run_n3 _ _ _ aR aS) rfl rfl rfl (vs := [agV 3 b]) rfl (tupE 3 0 e1) (tupE 3 0 e2) w hG⟩
theorem run_n4 (W : Nat → Nat) (C : Nat → Nat × Nat) (ρ : Nat → Int) (aR aS : Addr) : runE W C ρ aR aS [] [] (UC 4) [(9, [ag0 4], .tuple [.agg [.v (.int .i64 4), .sym (.int .u64 (.sh .shr .u64 (.sh .shl .u64 (.bin .xor .u64 (.lit 18446744073709551615) (.var 0)) (.lit 0)) (.lit 0)))], .v (.int .i64 0)]), (10, [ag0 4], .tuple [.agg [.v (.int .i64 4), .sym (.int .u64 (.bin .sub .u64 (.lit 18446744073709551615) (.var 0)))], .v (.int .i64 0)])] := by unfold runE; kernel_rfl
theorem not_4 {aR aS : Addr} {b : Int} (b0 : 0 ≤ b) (b1 : b < 18446744073709551616) (hc : Chk aR aS 4 b 0) : NotV aR aS 4 b := by
  have e1 : IE.ev (rc b 0 0 0 4 0 0) (.sh .shr .u64 (.sh .shl .u64 (.bin .xor .u64 (.lit 18446744073709551615) (.var 0)) (.lit 0)) (.lit 0)) = 18446744073709551615 - b := by
    simp only [IE.ev, rc_0]
    rw [xor_ones b0 (by omega), shl_u64_0, shr_u64_0, wrap_u64]
    omega
  have e2 : IE.ev (rc b 0 0 0 4 0 0) (.bin .sub .u64 (.lit 18446744073709551615) (.var 0)) = 18446744073709551615 - b := by
    show IntKind.wrap .u64 (18446744073709551615 - b) = _
    rw [wrap_u64]
    omega
  exact ⟨4, 18446744073709551615 - b, 0, fun w hG => pair_of (W := wF 0) (C := cF 0) (ρ := rc b 0 0 0 4 0 0) (L := []) (T := []) (fun _ h => by cases h) (fun _ h => by cases h) (UC_ok hc) (run_n4 _ _ _ aR aS) rfl rfl rfl (vs := [agV 4 b]) rfl (tupE 4 0 e1) (tupE 4 0 e2) w hG⟩
theorem run_n5 (W : Nat → Nat) (C : Nat → Nat × Nat) (ρ : Nat → Int) (aR aS : Addr) : runE W C ρ aR aS [] [] (UC 5) [(9, [ag0 5], .tuple [.agg [.v (.int .i64 5), .sym (.int .u64 (.sh .shr .u64 (.sh .shl .u64 (.bin .xor .u64 (.lit 18446744073709551615) (.var 0)) (.lit 56)) (.lit 56)))], .v (.int .i64 0)]), (10, [ag0 5], .tuple [.agg [.v (.int .i64 5), .sym (.int .u64 (.bin .sub .u64 (.lit 255) (.var 0)))], .v (.int .i64 0)])] := by unfold runE; kernel_rfl
theorem not_5 {aR aS : Addr} {b : Int} (b0 : 0 ≤ b) (b1 : b < 256) (hc : Chk aR aS 5 b 0) : NotV aR aS 5 b := by
  have e1 : IE.ev (rc b 0 0 0 5 0 0) (.sh .shr .u64 (.sh .shl .u64 (.bin .xor .u64 (.lit 18446744073709551615) (.var 0)) (.lit 56)) (.lit 56)) = 255 - b := by
    simp only [IE.ev, rc_0]
    rw [xor_ones b0 (by omega), shl_u64_56, shr_u64_56, wrap_u64]
    omega
  have e2 : IE.ev (rc b 0 0 0 5 0 0) (.bin .sub .u64 (.lit 255) (.var 0)) = 255 - b := by
    show IntKind.wrap .u64 (255 - b) = _
    rw [wrap_u64]
    omega
  exact ⟨5, 255 - b, 0, fun w hG => pair_of (W := wF 0) (C := cF 0) (ρ := rc b 0 0 0 5 0 0) (L := []) (T := []) (fun _ h => by cases h) (fun _ h => by cases h) (UC_ok hc) (run_n5 _ _ _ aR aS) rfl rfl rfl (vs := [agV 5 b]) rfl (tupE 5 0 e1) (tupE 5 0 e2) w hG⟩
theorem run_n6 (W : Nat → Nat) (C : Nat → Nat × Nat) (ρ : Nat → Int) (aR aS : Addr) : runE W C ρ aR aS [] [] (UC 6) [(9, [ag0 6], .tuple [.agg [.v (.int .i64 6), .sym (.int .u64 (.sh .shr .u64 (.sh .shl .u64 (.bin .xor .u64 (.lit 18446744073709551615) (.var 0)) (.lit 48)) (.lit 48)))], .v (.int .i64 0)]), (10, [ag0 6], .tuple [.agg [.v (.int .i64 6), .sym (.int .u64 (.bin .sub .u64 (.lit 65535) (.var 0)))], .v (.int .i64 0)])] := by unfold runE; kernel_rfl
theorem not_6 {aR aS : Addr} {b : Int} (b0 : 0 ≤ b) (b1 : b < 65536) (hc : Chk aR aS 6 b 0) : NotV aR aS 6 b := by
  have e1 : IE.ev (rc b 0 0 0 6 0 0) (.sh .shr .u64 (.sh .shl .u64 (.bin .xor .u64 (.lit 18446744073709551615) (.var 0)) (.lit 48)) (.lit 48)) = 65535 - b := by
    simp only [IE.ev, rc_0]
    rw [xor_ones b0 (by omega), shl_u64_48, shr_u64_48, wrap_u64]
    omega
  have e2 : IE.ev (rc b 0 0 0 6 0 0) (.bin .sub .u64 (.lit 65535) (.var 0)) = 65535 - b := by
    show IntKind.wrap .u64 (65535 - b) = _
    rw [wrap_u64]
    omega
  exact ⟨6, 65535 - b, 0, fun w hG => pair_of (W := wF 0) (C := cF 0) (ρ := rc b 0 0 0 6 0 0) (L := []) (T := []) (fun _ h => by cases h) (fun _ h => by cases h) (UC_ok hc) (run_n6 _ _ _ aR aS) rfl rfl rfl (vs := [agV 6 b]) rfl (tupE 6 0 e1) (tupE 6 0 e2) w hG⟩
theorem run_n7 (W : Nat → Nat) (C : Nat → Nat × Nat) (ρ : Nat → Int) (aR aS : Addr) : runE W C ρ aR aS [] [] (UC 7) [(9, [ag0 7], .tuple [.agg [.v (.int .i64 7), .sym (.int .u64 (.sh .shr .u64 (.sh .shl .u64 (.bin .xor .u64 (.lit 18446744073709551615) (.var 0)) (.lit 32)) (.lit 32)))], .v (.int .i64 0)]), (10, [ag0 7], .tuple [.agg [.v (.int .i64 7), .sym (.int .u64 (.bin .sub .u64 (.lit 4294967295) (.var 0)))], .v (.int .i64 0)])] := by unfold runE; kernel_rfl
theorem not_7 {aR aS : Addr} {b : Int} (b0 : 0 ≤ b) (b1 : b < 4294967296) (hc : Chk aR aS 7 b 0) : NotV aR aS 7 b := by
  have e1 : IE.ev (rc b 0 0 0 7 0 0) (.sh .shr .u64 (.sh .shl .u64 (.bin .xor .u64 (.lit 18446744073709551615) (.var 0)) (.lit 32)) (.lit 32)) = 4294967295 - b := by
    simp only [IE.ev, rc_0]
    rw [xor_ones b0 (by omega), shl_u64_32, shr_u64_32, wrap_u64]
    omega
  have e2 : IE.ev (rc b 0 0 0 7 0 0) (.bin .sub .u64 (.lit 4294967295) (.var 0)) = 4294967295 - b := by
    show IntKind.wrap .u64 (4294967295 - b) = _
    rw [wrap_u64]
    omega
  exact ⟨7, 4294967295 - b, 0, fun w hG => pair_of (W := wF 0) (C := cF 0) (ρ := rc b 0 0 0 7 0 0) (L := []) (T := []) (fun _ h => by cases h) (fun _ h => by cases h) (UC_ok hc) (run_n7 _ _ _ aR aS) rfl rfl rfl (vs := [agV 7 b]) rfl (tupE 7 0 e1) (tupE 7 0 e2) w hG⟩
theorem run_n8 (W : Nat → Nat) (C : Nat → Nat × Nat) (ρ : Nat → Int) (aR aS : Addr) : runE W C ρ aR aS [] [] (UC 8) [(9, [ag0 8], .tuple [.agg [.v (.int .i64 8), .sym (.int .u64 (.sh .shr .u64 (.sh .shl .u64 (.bin .xor .u64 (.lit 18446744073709551615) (.var 0)) (.lit 0)) (.lit 0)))], .v (.int .i64 0)]), (10, [ag0 8], .tuple [.agg [.v (.int .i64 8), .sym (.int .u64 (.bin .sub .u64 (.lit 18446744073709551615) (.var 0)))], .v (.int .i64 0)])] := by unfold runE; kernel_rfl
theorem not_8 {aR aS : Addr} {b : Int} (b0 : 0 ≤ b) (b1 : b < 18446744073709551616) (hc : Chk aR aS 8 b 0) : NotV aR aS 8 b := by
  have e1 : IE.ev (rc b 0 0 0 8 0 0) (.sh .shr .u64 (.sh .shl .u64 (.bin .xor .u64 (.lit 18446744073709551615) (.var 0)) (.lit 0)) (.lit 0)) = 18446744073709551615 - b := by
    simp only [IE.ev, rc_0]
    rw [xor_ones b0 (by omega), shl_u64_0, shr_u64_0, wrap_u64]
    omega
  have e2 : IE.ev (rc b 0 0 0 8 0 0) (.bin .sub .u64 (.lit 18446744073709551615) (.var 0)) = 18446744073709551615 - b := by
    show IntKind.wrap .u64 (18446744073709551615 - b) = _
    rw [wrap_u64]
    omega
  exact ⟨8, 18446744073709551615 - b, 0, fun w hG => pair_of (W := wF 0) (C := cF 0) (ρ := rc b 0 0 0 8 0 0) (L := []) (T := []) (fun _ h => by cases h) (fun _ h => by cases h) (UC_ok hc) (run_n8 _ _ _ aR aS) rfl rfl rfl (vs := [agV 8 b]) rfl (tupE 8 0 e1) (tupE 8 0 e2) w hG⟩
theorem run_n9 (W : Nat → Nat) (C : Nat → Nat × Nat) (ρ : Nat → Int) (aR aS : Addr) : runE W C ρ aR aS [] [] (UC 9) [(9, [ag0 9], .v (.tuple #[.agg #[.int .i64 0, .int .u64 0], .int .i64 12])), (10, [ag0 9], .v (.tuple #[.agg #[.int .i64 0, .int .u64 0], .int .i64 12]))] := by unfold runE; kernel_rfl
theorem not_9 {aR aS : Addr} {b : Int} (hc : Chk aR aS 9 b 0) : NotV aR aS 9 b := ⟨0, 0, 12, fun w hG => pair_of (W := wF 0) (C := cF 0) (ρ := rc b 0 0 0 9 0 0) (L := []) (T := []) (fun _ h => by cases h) (fun _ h => by cases h) (UC_ok hc) (run_n9 _ _ _ aR aS) rfl rfl rfl (vs := [agV 9 b]) (v := .tuple #[agV 0 0, .int .i64 12]) (v' := .tuple #[agV 0 0, .int .i64 12]) rfl rfl rfl w hG⟩
theorem run_n10 (W : Nat → Nat) (C : Nat → Nat × Nat) (ρ : Nat → Int) (aR aS : Addr) : runE W C ρ aR aS [] [] (UC 10) [(9, [ag0 10], .v (.tuple #[.agg #[.int .i64 0, .int .u64 0], .int .i64 12])), (10, [ag0 10], .v (.tuple #[.agg #[.int .i64 0, .int .u64 0], .int .i64 12]))] := by unfold runE; kernel_rfl
theorem not_10 {aR aS : Addr} {b : Int} (hc : Chk aR aS 10 b 0) : NotV aR aS 10 b := ⟨0, 0, 12, fun w hG => pair_of (W := wF 0) (C := cF 0) (ρ := rc b 0 0 0 10 0 0) (L := []) (T := []) (fun _ h => by cases h) (fun _ h => by cases h) (UC_ok hc) (run_n10 _ _ _ aR aS) rfl rfl rfl (vs := [agV 10 b]) (v := .tuple #[agV 0 0, .int .i64 12]) (v' := .tuple #[agV 0 0, .int .i64 12]) rfl rfl rfl w hG⟩
end
end Go.Proofs.YtonkcpmefnddaaaGreatDoor
