import Derived.Test.YtgecchiocfkpkaaGreatDoorLA
namespace Go.Proofs.YtgecchiocfkpkaaGreatDoor
noncomputable section
open Go Go.RX
open Go.RowKit (Below)
set_option maxRecDepth 1000000
set_option maxHeartbeats 4000000
/-- Both have the same result for an operation and a kind. -/
def ResV (aR aS : Addr) (op k K e : Int) : Prop := ∀ w, (glob aR aS).holds w → Calls Tryz.prog 21 #[.int .i64 op, .int .i64 k] w (Ret (.tuple #[.int .i64 K, .int .i64 e]) w) ∧ Calls Tryz.prog 27 #[.int .i64 op, .int .i64 k] w (Ret (.tuple #[.int .i64 K, .int .i64 e]) w)
def tabR : List (List (Int × Int)) := [[(0, 12), (1, 0), (2, 0), (3, 0), (4, 0), (5, 0), (6, 0), (7, 0), (8, 0), (9, 0), (10, 0)], [(0, 12), (1, 0), (2, 0), (3, 0), (4, 0), (5, 0), (6, 0), (7, 0), (8, 0), (9, 0), (10, 0)], [(0, 12), (1, 0), (2, 0), (3, 0), (4, 0), (5, 0), (6, 0), (7, 0), (8, 0), (9, 0), (10, 0)], [(0, 12), (1, 0), (2, 0), (3, 0), (4, 0), (5, 0), (6, 0), (7, 0), (8, 0), (9, 0), (0, 12)], [(0, 12), (1, 0), (2, 0), (3, 0), (4, 0), (5, 0), (6, 0), (7, 0), (8, 0), (0, 12), (0, 12)], [(0, 12), (1, 0), (2, 0), (3, 0), (4, 0), (5, 0), (6, 0), (7, 0), (8, 0), (9, 0), (0, 12)], [(0, 12), (1, 0), (2, 0), (3, 0), (4, 0), (5, 0), (6, 0), (7, 0), (8, 0), (9, 0), (0, 12)], [(0, 0), (1, 0), (2, 0), (3, 0), (4, 0), (5, 0), (6, 0), (7, 0), (8, 0), (0, 12), (0, 12)], [(0, 0), (1, 0), (2, 0), (3, 0), (4, 0), (5, 0), (6, 0), (7, 0), (8, 0), (0, 12), (0, 12)], [(0, 0), (1, 0), (2, 0), (3, 0), (4, 0), (5, 0), (6, 0), (7, 0), (8, 0), (0, 12), (0, 12)], [(0, 12), (1, 0), (2, 0), (3, 0), (4, 0), (5, 0), (6, 0), (7, 0), (8, 0), (0, 12), (0, 12)], [(0, 12), (1, 0), (2, 0), (3, 0), (4, 0), (5, 0), (6, 0), (7, 0), (8, 0), (0, 12), (0, 12)], [(0, 12), (1, 0), (2, 0), (3, 0), (4, 0), (5, 0), (6, 0), (7, 0), (8, 0), (0, 12), (0, 12)], [(0, 12), (1, 0), (2, 0), (3, 0), (4, 0), (5, 0), (6, 0), (7, 0), (8, 0), (0, 12), (0, 12)], [(0, 12), (1, 0), (2, 0), (3, 0), (4, 0), (5, 0), (6, 0), (7, 0), (8, 0), (0, 12), (0, 12)], [(0, 12), (1, 0), (2, 0), (3, 0), (4, 0), (1, 0), (2, 0), (3, 0), (4, 0), (0, 12), (0, 12)], [(0, 0), (0, 0), (0, 0), (0, 0), (0, 0), (0, 0), (0, 0), (0, 0), (0, 0), (0, 0), (0, 0)], [(0, 0), (0, 0), (0, 0), (0, 0), (0, 0), (0, 0), (0, 0), (0, 0), (0, 0), (0, 0), (0, 0)], [(0, 12), (0, 0), (0, 0), (0, 0), (0, 0), (0, 0), (0, 0), (0, 0), (0, 0), (0, 0), (0, 12)], [(0, 12), (0, 0), (0, 0), (0, 0), (0, 0), (0, 0), (0, 0), (0, 0), (0, 0), (0, 0), (0, 12)]]
def resT (i j : Nat) : Int × Int := (tabR.getD i []).getD j (0, 0)
def jR (i j : Nat) : List SEntry := [(21, [.v (.int .i64 ((i + 6 : Nat) : Int)), .v (.int .i64 (j : Int))], .v (.tuple #[.int .i64 (resT i j).1, .int .i64 (resT i j).2])), (27, [.v (.int .i64 ((i + 6 : Nat) : Int)), .v (.int .i64 (j : Int))], .v (.tuple #[.int .i64 (resT i j).1, .int .i64 (resT i j).2]))]
def runR (i : Nat) : Prop := ∀ (ρ : Nat → Int) (aR aS : Addr), (List.range 11).map (fun j => (jR i j).map fun e => (@call (E ρ []) Tryz.prog (glob aR aS) (tabS []) 300 60 (.fn e.1) e.2.1 []).map fun r => nrm r.1) = (List.range 11).map fun j => (jR i j).map fun e => some e.2.2
theorem run_t0 (ρ : Nat → Int) (aR aS : Addr) : (List.range 11).map (fun j => (jR 0 j).map fun e => (@call (E ρ []) Tryz.prog (glob aR aS) (tabS []) 300 60 (.fn e.1) e.2.1 []).map fun r => nrm r.1) = (List.range 11).map fun j => (jR 0 j).map fun e => some e.2.2 := by kernel_rfl
theorem run_t1 (ρ : Nat → Int) (aR aS : Addr) : (List.range 11).map (fun j => (jR 1 j).map fun e => (@call (E ρ []) Tryz.prog (glob aR aS) (tabS []) 300 60 (.fn e.1) e.2.1 []).map fun r => nrm r.1) = (List.range 11).map fun j => (jR 1 j).map fun e => some e.2.2 := by kernel_rfl
theorem run_t2 (ρ : Nat → Int) (aR aS : Addr) : (List.range 11).map (fun j => (jR 2 j).map fun e => (@call (E ρ []) Tryz.prog (glob aR aS) (tabS []) 300 60 (.fn e.1) e.2.1 []).map fun r => nrm r.1) = (List.range 11).map fun j => (jR 2 j).map fun e => some e.2.2 := by kernel_rfl
theorem run_t3 (ρ : Nat → Int) (aR aS : Addr) : (List.range 11).map (fun j => (jR 3 j).map fun e => (@call (E ρ []) Tryz.prog (glob aR aS) (tabS []) 300 60 (.fn e.1) e.2.1 []).map fun r => nrm r.1) = (List.range 11).map fun j => (jR 3 j).map fun e => some e.2.2 := by kernel_rfl
theorem run_t4 (ρ : Nat → Int) (aR aS : Addr) : (List.range 11).map (fun j => (jR 4 j).map fun e => (@call (E ρ []) Tryz.prog (glob aR aS) (tabS []) 300 60 (.fn e.1) e.2.1 []).map fun r => nrm r.1) = (List.range 11).map fun j => (jR 4 j).map fun e => some e.2.2 := by kernel_rfl
theorem run_t5 (ρ : Nat → Int) (aR aS : Addr) : (List.range 11).map (fun j => (jR 5 j).map fun e => (@call (E ρ []) Tryz.prog (glob aR aS) (tabS []) 300 60 (.fn e.1) e.2.1 []).map fun r => nrm r.1) = (List.range 11).map fun j => (jR 5 j).map fun e => some e.2.2 := by kernel_rfl
theorem run_t6 (ρ : Nat → Int) (aR aS : Addr) : (List.range 11).map (fun j => (jR 6 j).map fun e => (@call (E ρ []) Tryz.prog (glob aR aS) (tabS []) 300 60 (.fn e.1) e.2.1 []).map fun r => nrm r.1) = (List.range 11).map fun j => (jR 6 j).map fun e => some e.2.2 := by kernel_rfl
theorem run_t7 (ρ : Nat → Int) (aR aS : Addr) : (List.range 11).map (fun j => (jR 7 j).map fun e => (@call (E ρ []) Tryz.prog (glob aR aS) (tabS []) 300 60 (.fn e.1) e.2.1 []).map fun r => nrm r.1) = (List.range 11).map fun j => (jR 7 j).map fun e => some e.2.2 := by kernel_rfl
theorem run_t8 (ρ : Nat → Int) (aR aS : Addr) : (List.range 11).map (fun j => (jR 8 j).map fun e => (@call (E ρ []) Tryz.prog (glob aR aS) (tabS []) 300 60 (.fn e.1) e.2.1 []).map fun r => nrm r.1) = (List.range 11).map fun j => (jR 8 j).map fun e => some e.2.2 := by kernel_rfl
theorem run_t9 (ρ : Nat → Int) (aR aS : Addr) : (List.range 11).map (fun j => (jR 9 j).map fun e => (@call (E ρ []) Tryz.prog (glob aR aS) (tabS []) 300 60 (.fn e.1) e.2.1 []).map fun r => nrm r.1) = (List.range 11).map fun j => (jR 9 j).map fun e => some e.2.2 := by kernel_rfl
theorem run_t10 (ρ : Nat → Int) (aR aS : Addr) : (List.range 11).map (fun j => (jR 10 j).map fun e => (@call (E ρ []) Tryz.prog (glob aR aS) (tabS []) 300 60 (.fn e.1) e.2.1 []).map fun r => nrm r.1) = (List.range 11).map fun j => (jR 10 j).map fun e => some e.2.2 := by kernel_rfl
theorem run_t11 (ρ : Nat → Int) (aR aS : Addr) : (List.range 11).map (fun j => (jR 11 j).map fun e => (@call (E ρ []) Tryz.prog (glob aR aS) (tabS []) 300 60 (.fn e.1) e.2.1 []).map fun r => nrm r.1) = (List.range 11).map fun j => (jR 11 j).map fun e => some e.2.2 := by kernel_rfl
theorem run_t12 (ρ : Nat → Int) (aR aS : Addr) : (List.range 11).map (fun j => (jR 12 j).map fun e => (@call (E ρ []) Tryz.prog (glob aR aS) (tabS []) 300 60 (.fn e.1) e.2.1 []).map fun r => nrm r.1) = (List.range 11).map fun j => (jR 12 j).map fun e => some e.2.2 := by kernel_rfl
theorem run_t13 (ρ : Nat → Int) (aR aS : Addr) : (List.range 11).map (fun j => (jR 13 j).map fun e => (@call (E ρ []) Tryz.prog (glob aR aS) (tabS []) 300 60 (.fn e.1) e.2.1 []).map fun r => nrm r.1) = (List.range 11).map fun j => (jR 13 j).map fun e => some e.2.2 := by kernel_rfl
theorem run_t14 (ρ : Nat → Int) (aR aS : Addr) : (List.range 11).map (fun j => (jR 14 j).map fun e => (@call (E ρ []) Tryz.prog (glob aR aS) (tabS []) 300 60 (.fn e.1) e.2.1 []).map fun r => nrm r.1) = (List.range 11).map fun j => (jR 14 j).map fun e => some e.2.2 := by kernel_rfl
theorem run_t15 (ρ : Nat → Int) (aR aS : Addr) : (List.range 11).map (fun j => (jR 15 j).map fun e => (@call (E ρ []) Tryz.prog (glob aR aS) (tabS []) 300 60 (.fn e.1) e.2.1 []).map fun r => nrm r.1) = (List.range 11).map fun j => (jR 15 j).map fun e => some e.2.2 := by kernel_rfl
theorem run_t16 (ρ : Nat → Int) (aR aS : Addr) : (List.range 11).map (fun j => (jR 16 j).map fun e => (@call (E ρ []) Tryz.prog (glob aR aS) (tabS []) 300 60 (.fn e.1) e.2.1 []).map fun r => nrm r.1) = (List.range 11).map fun j => (jR 16 j).map fun e => some e.2.2 := by kernel_rfl
theorem run_t17 (ρ : Nat → Int) (aR aS : Addr) : (List.range 11).map (fun j => (jR 17 j).map fun e => (@call (E ρ []) Tryz.prog (glob aR aS) (tabS []) 300 60 (.fn e.1) e.2.1 []).map fun r => nrm r.1) = (List.range 11).map fun j => (jR 17 j).map fun e => some e.2.2 := by kernel_rfl
theorem run_t18 (ρ : Nat → Int) (aR aS : Addr) : (List.range 11).map (fun j => (jR 18 j).map fun e => (@call (E ρ []) Tryz.prog (glob aR aS) (tabS []) 300 60 (.fn e.1) e.2.1 []).map fun r => nrm r.1) = (List.range 11).map fun j => (jR 18 j).map fun e => some e.2.2 := by kernel_rfl
theorem run_t19 (ρ : Nat → Int) (aR aS : Addr) : (List.range 11).map (fun j => (jR 19 j).map fun e => (@call (E ρ []) Tryz.prog (glob aR aS) (tabS []) 300 60 (.fn e.1) e.2.1 []).map fun r => nrm r.1) = (List.range 11).map fun j => (jR 19 j).map fun e => some e.2.2 := by kernel_rfl
theorem run_tab : ∀ i, i < 20 → runR i
  | 0, _ => run_t0
  | 1, _ => run_t1
  | 2, _ => run_t2
  | 3, _ => run_t3
  | 4, _ => run_t4
  | 5, _ => run_t5
  | 6, _ => run_t6
  | 7, _ => run_t7
  | 8, _ => run_t8
  | 9, _ => run_t9
  | 10, _ => run_t10
  | 11, _ => run_t11
  | 12, _ => run_t12
  | 13, _ => run_t13
  | 14, _ => run_t14
  | 15, _ => run_t15
  | 16, _ => run_t16
  | 17, _ => run_t17
  | 18, _ => run_t18
  | 19, _ => run_t19
  | n + 20, h => absurd h (by omega)
theorem res_in (aR aS : Addr) {op k : Int} (o0 : 6 ≤ op) (o1 : op ≤ 25) (k0 : 0 ≤ k) (k1 : k < 11) : ResV aR aS op k (resT (op - 6).toNat k.toNat).1 (resT (op - 6).toNat k.toNat).2 := fun w hG => by
  have h := List.map_inj_left.1 (run_tab (op - 6).toNat (by omega) (fun _ => 0) aR aS) k.toNat (List.mem_range.2 (by omega))
  have f1 : (((op - 6).toNat + 6 : Nat) : Int) = op := by omega
  have f2 : ((k.toNat : Nat) : Int) = k := by omega
  have := pair_of (ρ := fun _ => 0) (L := []) (U := []) (fun _ h => by cases h) (fun _ h => by cases h) h rfl rfl rfl (vs := [.int .i64 (((op - 6).toNat + 6 : Nat) : Int), .int .i64 (k.toNat : Int)]) (v := .tuple #[.int .i64 (resT (op - 6).toNat k.toNat).1, .int .i64 (resT (op - 6).toNat k.toNat).2]) (v' := .tuple #[.int .i64 (resT (op - 6).toNat k.toNat).1, .int .i64 (resT (op - 6).toNat k.toNat).2]) rfl rfl rfl w hG
  rw [f1, f2] at this
  exact this
def rR (op k : Int) : Nat → Int := rho 0 0 0 0 0 0 0 k 0 0 0 fun _ => op
def L_ro (r1 r2 : Bool) : List CF := [⟨.lss, .var 11, .lit 6, false⟩, ⟨.gtr, .var 11, .lit 25, false⟩, ⟨.geq, .var 11, .lit 6, true⟩, ⟨.leq, .var 11, .lit 25, true⟩, ⟨.lss, .var 7, .lit 0, r1⟩, ⟨.geq, .var 7, .lit 11, r2⟩]
def xsR : List SVal := [.sym (.int .i64 (.var 11)), .sym (.int .i64 (.var 7))]
def e11 : SVal := .v (.tuple #[.int .i64 0, .int .i64 11])
theorem run_ro (ρ : Nat → Int) (aR aS : Addr) (r1 r2 : Bool) (h : (r1 || r2) = true) : runE ρ aR aS (L_ro r1 r2) [] [(21, xsR, e11), (27, xsR, e11)] := by
  unfold runE
  cases r1 <;> cases r2 <;> first | (exact absurd h (by decide)) | kernel_rfl
/-- Result, of an operation. -/
theorem res_all (aR aS : Addr) {op : Int} (o0 : 6 ≤ op) (o1 : op ≤ 25) (k : Int) : ∃ K e, ResV aR aS op k K e := by
  by_cases hk : 0 ≤ k ∧ k < 11
  · exact ⟨_, _, res_in aR aS o0 o1 hk.1 hk.2⟩
  · refine ⟨0, 11, fun w hG => ?_⟩
    have hL : ∀ f ∈ L_ro (decide (k < 0)) (decide (k ≥ 11)), f.ok (rR op k) := fun f hf => by
      simp only [L_ro, List.mem_cons, List.not_mem_nil, or_false] at hf
      rcases hf with rfl | rfl | rfl | rfl | rfl | rfl
      · exact ⟨rfl, decide_eq_false (show ¬ op < 6 by omega)⟩
      · exact ⟨rfl, decide_eq_false (show ¬ op > 25 by omega)⟩
      · exact ⟨rfl, decide_eq_true (show op ≥ 6 by omega)⟩
      · exact ⟨rfl, decide_eq_true (show op ≤ 25 by omega)⟩
      · exact ⟨rfl, rfl⟩
      · exact ⟨rfl, rfl⟩
    refine pair_of hL (fun _ h => by cases h) (run_ro _ aR aS _ _ ?_) rfl rfl rfl (vs := [.int .i64 op, .int .i64 k]) (v := .tuple #[.int .i64 0, .int .i64 11]) (v' := .tuple #[.int .i64 0, .int .i64 11]) rfl rfl rfl w hG
    rcases Int.lt_or_le k 0 with h | h
    · simp [h]
    · have : k ≥ 11 := by omega
      simp [this]
end
end Go.Proofs.YtgecchiocfkpkaaGreatDoor
