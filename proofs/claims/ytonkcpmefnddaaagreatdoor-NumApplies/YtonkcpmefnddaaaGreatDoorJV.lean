import Derived.Test.YtonkcpmefnddaaaGreatDoorJN
import Derived.Test.YtonkcpmefnddaaaGreatDoorJC
namespace Go.Proofs.YtonkcpmefnddaaaGreatDoor
noncomputable section
open Go Go.RX
open Go.RowKit (Below)
set_option maxRecDepth 1000000
set_option maxHeartbeats 4000000

/-! ### Apply's errors -/
def rv (op a ka ea b kb eb : Int) : Nat → Int := fun i => match i with
  | 0 => a
  | 6 => ea
  | 7 => ka
  | 10 => b
  | 16 => eb
  | 17 => kb
  | 40 => op
  | _ => 0
def sOp : SVal := .sym (.int .i64 (.var 40))
def vA : SVal := .agg [.sym (.int .i64 (.var 7)), .sym (.int .u64 (.var 0))]
def vB : SVal := .agg [.sym (.int .i64 (.var 17)), .sym (.int .u64 (.var 10))]
def eV (z : Bool) (i : Nat) : SVal := if z then .v (.int .i64 0) else .sym (.int .i64 (.var i))
def UE4 (p q : Bool) : List SEntry := [(25, [vA], eV p 6), (25, [vB], eV q 16), (35, [vA], eV p 6), (35, [vB], eV q 16)]
/-- The facts of comparisons: whether op is below 6, above 25, the kinds differ. -/
def LV (p q lo hi d : Bool) : List CF := [⟨.lss, .var 40, .lit 6, lo⟩, ⟨.geq, .var 40, .lit 6, !lo⟩, ⟨.gtr, .var 40, .lit 25, hi⟩, ⟨.leq, .var 40, .lit 25, !hi⟩, ⟨.neq, .var 17, .var 7, d⟩, ⟨.neq, .var 7, .var 17, d⟩] ++ ((if p then [] else [⟨.neq, .var 6, .lit 0, true⟩]) ++ if q then [] else [⟨.neq, .var 16, .lit 0, true⟩])
def zE (e : SVal) : SVal := .tuple [.v (.agg #[.int .i64 0, .int .u64 0]), e]
def vE' (p q lo hi : Bool) : SVal := if lo || hi then .v (.tuple #[agV 0 0, .int .i64 11]) else if !p then zE (.sym (.int .i64 (.var 6))) else if !q then zE (.sym (.int .i64 (.var 16))) else .v (.tuple #[agV 0 0, .int .i64 12])
def JV5 (p q lo hi : Bool) : List SEntry := [(7, [sOp, vA, vB], vE' p q lo hi), (8, [sOp, vA, vB], vE' p q lo hi)]
theorem run_v (W : Nat → Nat) (C : Nat → Nat × Nat) (ρ : Nat → Int) (aR aS : Addr) (p q lo hi d : Bool) (h : (lo || hi || !p || !q || d) = true) (h2 : (lo && hi) = false) : runE W C ρ aR aS (LV p q lo hi d) [] (UE4 p q) (JV5 p q lo hi) := by
  unfold runE
  cases p <;> cases q <;> cases lo <;> cases hi <;> cases d <;> first | (exact absurd h (by decide)) | (exact absurd h2 (by decide)) | kernel_rfl
theorem eV_den {W : Nat → Nat} {C : Nat → Nat × Nat} {ρ : Nat → Int} {L : List CF} {T : List XE} {z : Bool} {i : Nat} {e : Int} (h : ρ i = e) (ho : decide (e = 0) = z) : @den (E W C ρ L T) (fun _ => none) (eV z i) = some (.int .i64 e) := by
  cases z with
  | true =>
    have := of_decide_eq_true ho
    subst this
    rfl
  | false =>
    show some (Value.int .i64 (ρ i)) = _
    rw [h]
theorem eV_nf (z : Bool) (i : Nat) : nf (eV z i) = true := by cases z <;> rfl
/-- Wrong operations, wrong values, two kinds. -/
theorem err_ap {aR aS : Addr} {op a ka ea b kb eb : Int} (h1 : Chk aR aS ka a ea) (h2 : Chk aR aS kb b eb) (h : op < 6 ∨ op > 25 ∨ ea ≠ 0 ∨ eb ≠ 0 ∨ kb ≠ ka) : ApV aR aS op ka a kb b := by
  have hc : (decide (op < 6) || decide (op > 25) || !decide (ea = 0) || !decide (eb = 0) || (kb != ka)) = true := by
    rcases h with h | h | h | h | h <;> simp [h]
  have hc2 : (decide (op < 6) && decide (op > 25)) = false := by
    by_cases h : op < 6
    · have : ¬ op > 25 := by omega
      simp [this]
    · simp [h]
  have hL : ∀ f ∈ LV (decide (ea = 0)) (decide (eb = 0)) (decide (op < 6)) (decide (op > 25)) (kb != ka), f.ok (rv op a ka ea b kb eb) := fun f hf => by
    rcases List.mem_append.1 hf with hf | hf
    · simp only [List.mem_cons, List.not_mem_nil, or_false] at hf
      rcases hf with rfl | rfl | rfl | rfl | rfl | rfl
      · exact ⟨rfl, rfl⟩
      · refine ⟨rfl, ?_⟩
        show decide (op ≥ 6) = !decide (op < 6)
        rw [← decide_not]
        exact decide_eq_decide.2 (by omega)
      · exact ⟨rfl, rfl⟩
      · refine ⟨rfl, ?_⟩
        show decide (op ≤ 25) = !decide (op > 25)
        rw [← decide_not]
        exact decide_eq_decide.2 (by omega)
      · exact ⟨rfl, rfl⟩
      · refine ⟨rfl, ?_⟩
        show (ka != kb) = (kb != ka)
        exact bne_comm
    rcases List.mem_append.1 hf with hf | hf
    · split at hf
      · cases hf
      · rename_i hh
        obtain rfl := List.mem_singleton.1 hf
        refine ⟨rfl, ?_⟩
        show (ea != 0) = true
        exact bne_iff_ne.2 (by simpa using hh)
    · split at hf
      · cases hf
      · rename_i hh
        obtain rfl := List.mem_singleton.1 hf
        refine ⟨rfl, ?_⟩
        show (eb != 0) = true
        exact bne_iff_ne.2 (by simpa using hh)
  have hU : ∀ x ∈ UE4 (decide (ea = 0)) (decide (eb = 0)), @SOk (E (wF 0) (cF 0) (rv op a ka ea b kb eb) (LV (decide (ea = 0)) (decide (eb = 0)) (decide (op < 6)) (decide (op > 25)) (kb != ka)) []) Tryz.prog (glob aR aS) x := fun x hx => by
    simp only [UE4, List.mem_cons, List.not_mem_nil, or_false] at hx
    rcases hx with rfl | rfl | rfl | rfl
    · exact sokE (vs := [agV ka a]) (v := .int .i64 ea) rfl (eV_nf _ _) rfl (eV_den rfl rfl) fun w hG => (h1 w hG).2
    · exact sokE (vs := [agV kb b]) (v := .int .i64 eb) rfl (eV_nf _ _) rfl (eV_den rfl rfl) fun w hG => (h2 w hG).2
    · exact sokE (vs := [agV ka a]) (v := .int .i64 ea) rfl (eV_nf _ _) rfl (eV_den rfl rfl) fun w hG => (h1 w hG).1
    · exact sokE (vs := [agV kb b]) (v := .int .i64 eb) rfl (eV_nf _ _) rfl (eV_den rfl rfl) fun w hG => (h2 w hG).1
  have go : ∀ e' : Int, @den (E (wF 0) (cF 0) (rv op a ka ea b kb eb) (LV (decide (ea = 0)) (decide (eb = 0)) (decide (op < 6)) (decide (op > 25)) (kb != ka)) []) (fun _ => none) (vE' (decide (ea = 0)) (decide (eb = 0)) (decide (op < 6)) (decide (op > 25))) = some (.tuple #[agV 0 0, .int .i64 e']) → ApV aR aS op ka a kb b := fun e' hd =>
    ⟨0, 0, e', fun w hG => pair_of (W := wF 0) (C := cF 0) (ρ := rv op a ka ea b kb eb) (T := []) hL (fun _ h => by cases h) hU (run_v _ _ _ aR aS _ _ _ _ _ hc hc2) rfl (by unfold vE'; (repeat' split) <;> rfl) (by unfold vE'; (repeat' split) <;> rfl) (vs := [.int .i64 op, agV ka a, agV kb b]) rfl hd hd w hG⟩
  unfold vE' at go
  by_cases c1 : (decide (op < 6) || decide (op > 25)) = true
  · exact go 11 (by rw [if_pos c1]; rfl)
  · rw [if_neg c1] at go
    by_cases c2 : ea = 0
    · rw [if_neg (by simp [c2])] at go
      by_cases c3 : eb = 0
      · rw [if_neg (by simp [c3])] at go
        exact go 12 rfl
      · rw [if_pos (by simp [c3])] at go
        exact go eb rfl
    · rw [if_pos (by simp [c2])] at go
      exact go ea rfl
/-- Not of a wrong value. -/
def Jn (e : SVal) : List SEntry := [(9, [vA], e), (10, [vA], e)]
theorem run_nv (W : Nat → Nat) (C : Nat → Nat × Nat) (ρ : Nat → Int) (aR aS : Addr) (r : Bool) : runE W C ρ aR aS [⟨.neq, .var 6, .lit 0, true⟩, ⟨.geq, .var 7, .lit 9, r⟩] [] (UE4 false false) (Jn (zE (.sym (.int .i64 (.var 6))))) := by
  unfold runE
  cases r <;> kernel_rfl
theorem not_err {aR aS : Addr} {a ka ea : Int} (h1 : Chk aR aS ka a ea) (h : ea ≠ 0) : NotV aR aS ka a := by
  refine ⟨0, 0, ea, fun w hG => pair_of (W := wF 0) (C := cF 0) (ρ := rv 0 a ka ea a ka ea) (T := []) (fun f hf => ?_) (fun _ h => by cases h) (fun x hx => ?_) (run_nv _ _ _ aR aS (decide (ka ≥ 9))) rfl rfl rfl (vs := [agV ka a]) rfl rfl rfl w hG⟩
  · simp only [List.mem_cons, List.not_mem_nil, or_false] at hf
    rcases hf with rfl | rfl
    · exact ⟨rfl, bne_iff_ne.2 h⟩
    · exact ⟨rfl, rfl⟩
  · simp only [UE4, List.mem_cons, List.not_mem_nil, or_false] at hx
    rcases hx with rfl | rfl | rfl | rfl
    · exact sokE (vs := [agV ka a]) (v := .int .i64 ea) rfl rfl rfl rfl fun w hG => (h1 w hG).2
    · exact sokE (vs := [agV ka a]) (v := .int .i64 ea) rfl rfl rfl rfl fun w hG => (h1 w hG).2
    · exact sokE (vs := [agV ka a]) (v := .int .i64 ea) rfl rfl rfl rfl fun w hG => (h1 w hG).1
    · exact sokE (vs := [agV ka a]) (v := .int .i64 ea) rfl rfl rfl rfl fun w hG => (h1 w hG).1
/-- What is not taken. -/
def notTaken : List (Nat × List Nat) := [(0, [0]), (1, [0]), (2, [0]), (3, [0, 10]), (4, [0, 9, 10]), (5, [0, 10]), (6, [0, 10]), (7, [9, 10]), (8, [9, 10]), (9, [9, 10]), (10, [0, 9, 10]), (11, [0, 9, 10]), (12, [0, 9, 10]), (13, [0, 9, 10]), (14, [0, 9, 10]), (15, [0, 9, 10]), (18, [0, 10]), (19, [0, 10])]
def jT (o : Nat) (k : Nat) : List SEntry := [(7, [.v (.int .i64 ((o + 6 : Nat) : Int)), ag0 k, ag1 k], .v (.tuple #[agV 0 0, .int .i64 12])), (8, [.v (.int .i64 ((o + 6 : Nat) : Int)), ag0 k, ag1 k], .v (.tuple #[agV 0 0, .int .i64 12]))]
noncomputable def runT (W : Nat → Nat) (C : Nat → Nat × Nat) (ρ : Nat → Int) (aR aS : Addr) (o k : Nat) : List (Option SVal) := (jT o k).map (fun e => (@call (E W C ρ [] []) Tryz.prog (glob aR aS) (tabS (UV4 k)) 300 60 (.fn e.1) e.2.1 []).map fun r => nrm r.1)
theorem run_t' (W : Nat → Nat) (C : Nat → Nat × Nat) (ρ : Nat → Int) (aR aS : Addr) : notTaken.map (fun p => p.2.map (runT W C ρ aR aS p.1)) = notTaken.map fun p => p.2.map fun k => (jT p.1 k).map fun e => some e.2.2 := by kernel_rfl
theorem bad_ap {aR aS : Addr} {o k : Nat} {l : List Nat} (ho : (o, l) ∈ notTaken) (hk : k ∈ l) {b b2 : Int} (h1 : Chk aR aS k b 0) (h2 : Chk aR aS k b2 0) : ApV aR aS ((o + 6 : Nat) : Int) k b k b2 := by
  have h3 := fun W C ρ => List.map_inj_left.1 (List.map_inj_left.1 (run_t' W C ρ aR aS) _ ho) k hk
  exact ⟨0, 0, 12, fun w hG => pair_of (W := wF 0) (C := cF 0) (ρ := rg b b2 0 0) (L := []) (T := []) (fun _ h => by cases h) (fun _ h => by cases h) (UV4_ok h1 h2) (h3 _ _ _) rfl rfl rfl (vs := [.int .i64 ((o + 6 : Nat) : Int), agV k b, agV k b2]) rfl rfl rfl w hG⟩
end
end Go.Proofs.YtonkcpmefnddaaaGreatDoor
