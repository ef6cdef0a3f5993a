import Derived.Test.YtonkcpmefnddaaaGreatDoorJM
import Derived.Test.YtonkcpmefnddaaaGreatDoorJH
import Derived.Test.YtonkcpmefnddaaaGreatDoorJR
import Derived.Test.YtonkcpmefnddaaaGreatDoorJV
namespace Go.Proofs.YtonkcpmefnddaaaGreatDoor
noncomputable section
open Go Go.RX
open Go.RowKit (Below)
set_option maxRecDepth 1000000
set_option maxHeartbeats 4000000

/-! ### Integers: which one is less -/
def ULe (k : Int) (r s : Bool) : List SEntry := UV4 k ++ [(33, [ag0 k], w2), (33, [ag1 k], w12), (120, [w2, w12], .v (.bool r)), (120, [w12, w2], .v (.bool s)), (93, [ag0 k, ag1 k], .v (.bool r)), (93, [ag1 k, ag0 k], .v (.bool s))]
def Jle (k : Int) (r s : Bool) : List SEntry := [(7, [.v (.int .i64 24), ag0 k, ag1 k], tr r), (8, [.v (.int .i64 24), ag0 k, ag1 k], tr r), (7, [.v (.int .i64 25), ag0 k, ag1 k], tr (!s)), (8, [.v (.int .i64 25), ag0 k, ag1 k], tr (!s))]
noncomputable def runL (W : Nat → Nat) (C : Nat → Nat × Nat) (ρ : Nat → Int) (aR aS : Addr) (r s : Bool) (k : Nat) : List (Option SVal) := (Jle k r s).map (fun e => (@call (E W C ρ [] []) Tryz.prog (glob aR aS) (tabS (ULe k r s)) 300 60 (.fn e.1) e.2.1 []).map fun r => nrm r.1)
theorem run_Ltf (W : Nat → Nat) (C : Nat → Nat × Nat) (ρ : Nat → Int) (aR aS : Addr) : k18.map (runL W C ρ aR aS true false) = k18.map fun (k : Nat) => (Jle k true false).map fun e => some e.2.2 := by kernel_rfl
theorem run_Lft (W : Nat → Nat) (C : Nat → Nat × Nat) (ρ : Nat → Int) (aR aS : Addr) : k18.map (runL W C ρ aR aS false true) = k18.map fun (k : Nat) => (Jle k false true).map fun e => some e.2.2 := by kernel_rfl
theorem run_Lff (W : Nat → Nat) (C : Nat → Nat × Nat) (ρ : Nat → Int) (aR aS : Addr) : k18.map (runL W C ρ aR aS false false) = k18.map fun (k : Nat) => (Jle k false false).map fun e => some e.2.2 := by kernel_rfl
theorem less_of {aR aS : Addr} {k : Nat} (hk : k ∈ k18) {b n b2 n2 : Int} (hn : Am n) (hn2 : Am n2) (h1 : Chk aR aS k b 0) (h2 : Chk aR aS k b2 0) (i1 : IntV aR aS k b n) (i2 : IntV aR aS k b2 n2) (hb : BelV aR aS k b b2 (decide (n < n2))) (hb' : BelV aR aS k b2 b (decide (n2 < n))) : ApV aR aS 24 k b k b2 ∧ ApV aR aS 25 k b k b2 := by
  obtain ⟨a1, a2⟩ := hn
  obtain ⟨c1, c2⟩ := hn2
  have s1 : Sm n := by unfold Sm; omega
  have s2 : Sm n2 := by unfold Sm; omega
  have hr : runE (wF 0) (cF 0) (re b n b2 n2 0 0 0 0) aR aS [] [] (ULe k (decide (n < n2)) (decide (n2 < n))) (Jle k (decide (n < n2)) (decide (n2 < n))) := by
    by_cases h : n < n2
    · rw [decide_eq_true h, decide_eq_false (show ¬ n2 < n by omega)]
      exact List.map_inj_left.1 (run_Ltf _ _ _ aR aS) k hk
    · rw [decide_eq_false h]
      by_cases h' : n2 < n
      · rw [decide_eq_true h']
        exact List.map_inj_left.1 (run_Lft _ _ _ aR aS) k hk
      · rw [decide_eq_false h']
        exact List.map_inj_left.1 (run_Lff _ _ _ aR aS) k hk
  have hU : ∀ x ∈ ULe k (decide (n < n2)) (decide (n2 < n)), @SOk (E (wF 0) (cF 0) (re b n b2 n2 0 0 0 0) [] []) Tryz.prog (glob aR aS) x := fun x hx => by
    simp only [ULe, UV4, List.cons_append, List.nil_append, List.mem_cons, List.not_mem_nil, or_false] at hx
    rcases hx with rfl | rfl | rfl | rfl | rfl | rfl | rfl | rfl | rfl | rfl
    · exact sokE (vs := [agV k b]) (v := .int .i64 0) rfl rfl rfl rfl fun w hG => (h1 w hG).2
    · exact sokE (vs := [agV k b2]) (v := .int .i64 0) rfl rfl rfl rfl fun w hG => (h2 w hG).2
    · exact sokE (vs := [agV k b]) (v := .int .i64 0) rfl rfl rfl rfl fun w hG => (h1 w hG).1
    · exact sokE (vs := [agV k b2]) (v := .int .i64 0) rfl rfl rfl rfl fun w hG => (h2 w hG).1
    · exact sokE (vs := [agV k b]) (v := Wd n) rfl rfl rfl rfl fun w hG => intW i1 (by omega) a2 w hG
    · exact sokE (vs := [agV k b2]) (v := Wd n2) rfl rfl rfl rfl fun w hG => intW i2 (by omega) c2 w hG
    · exact sokE (vs := [Wd n, Wd n2]) (v := .bool (decide (n < n2))) rfl rfl rfl rfl fun w hG => less_ok aR aS s1 s2 w hG
    · exact sokE (vs := [Wd n2, Wd n]) (v := .bool (decide (n2 < n))) rfl rfl rfl rfl fun w hG => less_ok aR aS s2 s1 w hG
    · exact sokE (vs := [agV k b, agV k b2]) (v := .bool (decide (n < n2))) rfl rfl rfl rfl fun w hG => hb w hG
    · exact sokE (vs := [agV k b2, agV k b]) (v := .bool (decide (n2 < n))) rfl rfl rfl rfl fun w hG => hb' w hG
  have go : ∀ {e : SEntry}, e ∈ Jle k (decide (n < n2)) (decide (n2 < n)) → ∀ {op x : Int}, e.2.1 = [.v (.int .i64 op), ag0 k, ag1 k] → e.2.2 = .v (.tuple #[agV 0 x, .int .i64 0]) → ∀ w, (glob aR aS).holds w → Calls Tryz.prog e.1 #[.int .i64 op, agV k b, agV k b2] w (Ret (.tuple #[agV 0 x, .int .i64 0]) w) := fun {e} he {op x} h3 h4 w hG =>
    calls_symF (W := wF 0) (C := cF 0) (ρ := re b n b2 n2 0 0 0 0) (L := []) (T := []) (fun _ h => by cases h) (fun _ h => by cases h) hU hr he (by rw [h3]; rfl) (by rw [h4]; rfl) (vs := [.int .i64 op, agV k b, agV k b2]) (by rw [h3]; rfl) (by rw [h4]; rfl) hG
  exact ⟨⟨0, _, 0, fun w hG => ⟨go (e := (7, _, _)) (List.mem_cons_self) rfl rfl w hG, go (e := (8, _, _)) (List.mem_cons_of_mem _ List.mem_cons_self) rfl rfl w hG⟩⟩, ⟨0, _, 0, fun w hG => ⟨go (e := (7, _, _)) (List.mem_cons_of_mem _ (List.mem_cons_of_mem _ List.mem_cons_self)) rfl rfl w hG, go (e := (8, _, _)) (List.mem_cons_of_mem _ (List.mem_cons_of_mem _ (List.mem_cons_of_mem _ List.mem_cons_self))) rfl rfl w hG⟩⟩⟩

/-! ### Integers, put together -/
theorem ap_of {aR aS : Addr} {op k b b2 K B : Int} (h1 : ApI aR aS 7 op k b b2 K B) (h2 : ApI aR aS 8 op k b b2 K B) : ApV aR aS op k b k b2 := ⟨K, B, 0, fun w hG => ⟨h1 w hG, h2 w hG⟩⟩
theorem ri_bnd {n n2 : Int} (h : Am n2) : 0 ≤ RI n n2 ∧ RI n n2 < 18446744073709551616 := by
  obtain ⟨h0, h1⟩ := h
  unfold RI
  split
  · omega
  · rename_i hz
    have := Int.emod_nonneg n hz
    have := Int.emod_lt n hz
    omega
theorem qi_bnd (n n2 : Int) : 0 ≤ QI n n2 ∧ QI n n2 < 18446744073709551616 := by
  unfold QI loI
  split <;> omega
theorem lim_in {b2 n2 : Int} (h0 : 0 ≤ n2) (h1 : n2 < 64) (h : b2 = n2) : limOf b2 = n2.toNat := by
  unfold limOf
  split <;> omega
theorem lim_out {b2 : Int} (h : 64 ≤ b2) : limOf b2 = 64 := by
  unfold limOf
  split <;> omega
def shlN (n n2 : Int) : Int := if 0 ≤ n2 ∧ n2 < 64 then loI (n * 2 ^ n2.toNat) else 0
def shrN (n n2 : Int) : Int := if 0 ≤ n2 ∧ n2 < 64 then n / 2 ^ n2.toNat else if n < 0 then -1 else 0
theorem shl_num {M b n b2 n2 : Int} (hM : M ∣ 18446744073709551616) (hb : b % M = n % M) (h : 0 ≤ n2 → n2 < 64 → b2 = n2) (h' : n2 < 0 ∨ 64 ≤ n2 → 64 ≤ b2) : shlN n n2 % M = b * 2 ^ limOf b2 % M := by
  unfold shlN
  split
  · rename_i hc
    rw [lim_in hc.1 hc.2 (h hc.1 hc.2)]
    unfold loI
    exact shlM hM hb.symm _
  · rw [lim_out (h' (by omega)), show (2 : Int) ^ 64 = 18446744073709551616 from rfl, Int.emod_eq_zero_of_dvd (Int.dvd_trans hM (Int.dvd_mul_left _ _))]
    exact Int.zero_emod _
theorem shr_num {n b2 n2 : Int} (hn : Am n) (h : 0 ≤ n2 → n2 < 64 → b2 = n2) (h' : n2 < 0 ∨ 64 ≤ n2 → 64 ≤ b2) : shrN n n2 = n / 2 ^ limOf b2 := by
  obtain ⟨n0, n1⟩ := hn
  unfold shrN
  split
  · rename_i hc
    rw [lim_in hc.1 hc.2 (h hc.1 hc.2)]
  · rw [lim_out (h' (by omega)), show (2 : Int) ^ 64 = 18446744073709551616 from rfl]
    split <;> omega
theorem shl_w (aR aS : Addr) {n n2 : Int} (hn2 : Am n2) : WFun aR aS FSL n n2 (Wd (shlN n n2)) := by
  unfold shlN
  split
  · rename_i hc
    have := sl_in aR aS (n := n) (s := n2.toNat) (by omega)
    rw [show ((n2.toNat : Nat) : Int) = n2 by omega] at this
    exact this
  · exact sl_out aR aS hn2 (by omega)
theorem shr_w (aR aS : Addr) {n n2 : Int} (hn : Am n) (hn2 : Am n2) : WFun aR aS FSR n n2 (Wd (shrN n n2)) := by
  obtain ⟨n0, n1⟩ := hn
  unfold shrN
  split
  · rename_i hc
    have := sr_in aR aS (n := n) (by unfold Sm; omega) (s := n2.toNat) (by omega)
    rw [show ((n2.toNat : Nat) : Int) = n2 by omega] at this
    exact this
  · exact sr_out aR aS ⟨by omega, n1⟩ hn2 (by omega)
theorem bits_num {M : Int} (w : Nat) (hw : ((2 ^ w : Nat) : Int) = M) (hM : M ∣ 18446744073709551616) {op : BinOp} (hop : op = .and ∨ op = .or ∨ op = .xor) {b n b2 n2 : Int} (b0 : 0 ≤ b) (b1 : b < 18446744073709551616) (c0' : 0 ≤ b2) (c1 : b2 < 18446744073709551616) (h1 : b % M = n % M) (h2 : b2 % M = n2 % M) : binI op .u64 b b2 % M = bitW op n n2 % M := by
  have e := bitsM hop w b0 b1 c0' c1 (bndW n).2.2.1 (bndW n).2.2.2 (bndW n2).2.2.1 (bndW n2).2.2.2 (by rw [hw, h1]; unfold loI; rw [Int.emod_emod_of_dvd _ hM]) (by rw [hw, h2]; unfold loI; rw [Int.emod_emod_of_dvd _ hM])
  rw [hw] at e
  rw [e]
  unfold bitW mkW
  obtain ⟨q, hq⟩ := hM
  rw [hq, show ∀ x y : Int, x * (M * q) + y = y + M * (x * q) from fun x y => by rw [Int.add_comm, ← Int.mul_assoc, Int.mul_comm x M, Int.mul_assoc], Int.add_mul_emod_self_left]
end
end Go.Proofs.YtonkcpmefnddaaaGreatDoor
