import Derived.Test.YtgecchiocfkpkaaGreatDoorLN0
namespace Go.Proofs.YtgecchiocfkpkaaGreatDoor
noncomputable section
open Go Go.RX
open Go.RowKit (Below)
set_option maxRecDepth 1000000
set_option maxHeartbeats 4000000
/-! ### The reference's words -/
abbrev bV (k b : Int) : Value := .agg #[.int .i64 k, .int .u64 b]
abbrev wd8 (i : Nat) : SVal := .sym (.int .u64 (.var i))
def agK (k : Int) (i : Nat) : SVal := .agg [.v (.int .i64 k), wd8 i]
def r2 (x y p q : Int) : Nat → Int := fun i => match i with
  | 0 => x
  | 1 => y
  | 2 => p
  | _ => q
def wrE (M : Int) : IE := .bin .and .u64 (.cv .u64 (.var 0)) (.lit M)
theorem run_wr (ρ : Nat → Int) (aR aS : Addr) : bitK.map (fun s => (@call (E ρ []) Tryz.prog (glob aR aS) (tabS []) 300 60 (.fn 66) [.v (.int .i64 s.1), sy 0] []).map fun r => nrm r.1) = bitK.map fun s => some (.agg [.v (.int .i64 s.1), .sym (.int .u64 (wrE s.2.2.2.2))]) := by kernel_rfl
theorem wr_ok (aR aS : Addr) {s : Int × Bool × Int × Int × Int} (hs : s ∈ bitK) (n : Int) : ∀ w, (glob aR aS).holds w → Calls Tryz.prog 66 #[.int .i64 s.1, .int .i64 n] w (Ret (bV s.1 (n % (s.2.2.2.2 + 1))) w) := fun w hG => by
  have h := List.map_inj_left.1 (run_wr (r2 n 0 0 0) aR aS) s hs
  have hM := (bitK_ok hs).1
  have hJ : ([(66, [.v (.int .i64 s.1), sy 0], .agg [.v (.int .i64 s.1), .sym (.int .u64 (wrE s.2.2.2.2))])] : List SEntry).map (fun e => (@call (E (r2 n 0 0 0) []) Tryz.prog (glob aR aS) (tabS []) 300 60 (.fn e.1) e.2.1 []).map fun r => nrm r.1) = ([(66, [.v (.int .i64 s.1), sy 0], .agg [.v (.int .i64 s.1), .sym (.int .u64 (wrE s.2.2.2.2))])] : List SEntry).map fun e => some e.2.2 := by
    simp only [List.map_cons, List.map_nil, h]
  refine calls_sym (L := []) (ρ := r2 n 0 0 0) (fun _ h => by cases h) (fun _ h => by cases h) hJ List.mem_cons_self rfl rfl (vs := [.int .i64 s.1, .int .i64 n]) rfl ?_ hG
  show some (Value.agg #[.int .i64 s.1, .int .u64 (binI .and .u64 (IntKind.wrap .u64 n) s.2.2.2.2)]) = _
  have h0 : 0 ≤ IntKind.wrap .u64 n ∧ IntKind.wrap .u64 n < 18446744073709551616 := by rw [wrap_u64]; omega
  rw [and_mask hM h0.1 h0.2, wrap_u64]
  have e : n % 18446744073709551616 % (s.2.2.2.2 + 1) = n % (s.2.2.2.2 + 1) := by rcases hM with h | h | h | h <;> rw [h] <;> omega
  rw [e]
def orE (i : Nat) (M : Int) : IE := .bin .or .u64 (.var i) (.lit (18446744073709551615 - M))
def nuE (sg b : Bool) (i : Nat) (M : Int) : IE := if sg && b then .cv .i64 (orE i M) else .cv .i64 (.var i)
def L_nu (hi : Int) (b : Bool) : List CF := [⟨.gtr, .var 0, .lit hi, b⟩]
theorem run_nu (ρ : Nat → Int) (aR aS : Addr) (b : Bool) {s : Int × Bool × Int × Int × Int} (hs : s ∈ bitK) : runE ρ aR aS (L_nu s.2.2.2.1 b) [] [(67, [agK s.1 0], .sym (.int .i64 (nuE s.2.1 b 0 s.2.2.2.2)))] := by
  unfold runE
  simp only [bitK, List.mem_cons, List.not_mem_nil, or_false] at hs
  rcases hs with rfl | rfl | rfl | rfl | rfl | rfl | rfl <;> cases b <;> kernel_rfl
theorem nuE_ev {ρ : Nat → Int} {s : Int × Bool × Int × Int × Int} (hs : s ∈ bitK) {i : Nat} (h0 : 0 ≤ ρ i) (h1 : ρ i ≤ s.2.2.2.2) : (nuE s.2.1 (decide (ρ i > s.2.2.2.1)) i s.2.2.2.2).ev ρ = numI s.2.1 s.2.2.2.1 s.2.2.2.2 (ρ i) := by
  obtain ⟨hM, hS, hU⟩ := bitK_ok hs
  unfold nuE numI
  split
  · rename_i hc
    simp only [Bool.and_eq_true, decide_eq_true_eq] at hc
    obtain ⟨g1, g2, g3⟩ := hS hc.1
    show IntKind.wrap .i64 (binI .or .u64 (ρ i) (18446744073709551615 - s.2.2.2.2)) = _
    rw [or_mask g1 h0 h1, wrap_i64]
    rcases g1 with h | h | h <;> rw [h] at g2 h1 ⊢ <;> omega
  · show IntKind.wrap .i64 (ρ i) = _
    rw [w64 (by omega) (by omega)]
theorem nu_ok (aR aS : Addr) {s : Int × Bool × Int × Int × Int} (hs : s ∈ bitK) {b : Int} (h0 : 0 ≤ b) (h1 : b ≤ s.2.2.2.2) : ∀ w, (glob aR aS).holds w → Calls Tryz.prog 67 #[bV s.1 b] w (Ret (.int .i64 (numI s.2.1 s.2.2.2.1 s.2.2.2.2 b)) w) := fun w hG => by
  refine calls_sym (L := L_nu s.2.2.2.1 (decide (b > s.2.2.2.1))) (ρ := r2 b 0 0 0) (fun f hf => ?_) (fun _ h => by cases h) (run_nu _ aR aS _ hs) List.mem_cons_self rfl rfl (vs := [bV s.1 b]) rfl ?_ hG
  · obtain rfl := List.mem_singleton.1 hf
    exact ⟨rfl, rfl⟩
  · exact congrArg (fun x => some (Value.int .i64 x)) (nuE_ev (ρ := r2 b 0 0 0) (i := 0) hs h0 h1)
/-! ### divided returns something -/
def L_dz : List CF := [⟨.eql, .var 1, .lit 0, true⟩]
theorem run_dz (ρ : Nat → Int) (aR aS : Addr) {s : Int × Bool × Int × Int × Int} (hs : s ∈ bitK) : runE ρ aR aS L_dz [] [(191, [agK s.1 0, agK s.1 1], .v (.tuple #[.int .u64 0, .int .u64 0]))] := by
  unfold runE
  simp only [bitK, List.mem_cons, List.not_mem_nil, or_false] at hs
  rcases hs with rfl | rfl | rfl | rfl | rfl | rfl | rfl <;> kernel_rfl
def L_du : List CF := [⟨.eql, .var 1, .lit 0, false⟩, ⟨.neq, .var 1, .lit 0, true⟩]
def bitU : List Int := [0, 1, 2, 3]
theorem run_du (ρ : Nat → Int) (aR aS : Addr) {k : Int} (hk : k ∈ bitU) : runE ρ aR aS L_du [] [(191, [agK k 0, agK k 1], .tuple [.sym (.int .u64 (.bin .quo .u64 (.var 0) (.var 1))), .sym (.int .u64 (.bin .rem .u64 (.var 0) (.var 1)))])] := by
  unfold runE
  simp only [bitU, List.mem_cons, List.not_mem_nil, or_false] at hk
  rcases hk with rfl | rfl | rfl | rfl <;> kernel_rfl
def bitS : List (Int × Int × Int) := [(5, 127, 255), (6, 32767, 65535), (7, 2147483647, 4294967295)]
def L_ds (hi M : Int) (s1 s2 r p : Bool) : List CF := [⟨.eql, .var 1, .lit 0, false⟩, ⟨.gtr, .var 0, .lit hi, s1⟩, ⟨.gtr, .var 1, .lit hi, s2⟩, ⟨.neq, nuE true s2 1 M, .lit 0, true⟩, ⟨.lss, .bin .rem .i64 (nuE true s1 0 M) (nuE true s2 1 M), .lit 0, r⟩, ⟨.gtr, nuE true s2 1 M, .lit 0, p⟩]
def q_ds (M : Int) (s1 s2 r p : Bool) : IE := if r then (if p then .bin .sub .i64 (.bin .quo .i64 (nuE true s1 0 M) (nuE true s2 1 M)) (.lit 1) else .bin .add .i64 (.bin .quo .i64 (nuE true s1 0 M) (nuE true s2 1 M)) (.lit 1)) else .bin .quo .i64 (nuE true s1 0 M) (nuE true s2 1 M)
def r_ds (M : Int) (s1 s2 r p : Bool) : IE := if r then (if p then .bin .add .i64 (.bin .rem .i64 (nuE true s1 0 M) (nuE true s2 1 M)) (nuE true s2 1 M) else .bin .sub .i64 (.bin .rem .i64 (nuE true s1 0 M) (nuE true s2 1 M)) (nuE true s2 1 M)) else .bin .rem .i64 (nuE true s1 0 M) (nuE true s2 1 M)
theorem run_ds (ρ : Nat → Int) (aR aS : Addr) {t : Int × Int × Int} (ht : t ∈ bitS) (s1 s2 r p : Bool) : runE ρ aR aS (L_ds t.2.1 t.2.2 s1 s2 r p) [] [(191, [agK t.1 0, agK t.1 1], .tuple [.sym (.int .u64 (.cv .u64 (q_ds t.2.2 s1 s2 r p))), .sym (.int .u64 (.cv .u64 (r_ds t.2.2 s1 s2 r p)))])] := by
  unfold runE
  simp only [bitS, List.mem_cons, List.not_mem_nil, or_false] at ht
  rcases ht with rfl | rfl | rfl <;> cases s1 <;> cases s2 <;> cases r <;> cases p <;> kernel_rfl
def DivE (aR aS : Addr) (k a b : Int) : Prop := ∃ q r : Int, ∀ w, (glob aR aS).holds w → Calls Tryz.prog 191 #[bV k a, bV k b] w (Ret (.tuple #[.int .u64 q, .int .u64 r]) w)
theorem div_z {aR aS : Addr} {s : Int × Bool × Int × Int × Int} (hs : s ∈ bitK) (a : Int) : DivE aR aS s.1 a 0 :=
  ⟨0, 0, fun w hG => calls_sym (L := L_dz) (ρ := r2 a 0 0 0) (fun f hf => by obtain rfl := List.mem_singleton.1 hf; exact ⟨rfl, rfl⟩) (fun _ h => by cases h) (run_dz _ aR aS hs) List.mem_cons_self rfl rfl (vs := [bV s.1 a, bV s.1 0]) rfl rfl hG⟩
theorem div_u {aR aS : Addr} {k : Int} (hk : k ∈ bitU) (a : Int) {b : Int} (hb : b ≠ 0) : DivE aR aS k a b :=
  ⟨_, _, fun w hG => calls_sym (L := L_du) (ρ := r2 a b 0 0) (fun f hf => by
    simp only [L_du, List.mem_cons, List.not_mem_nil, or_false] at hf
    rcases hf with rfl | rfl
    · exact ⟨rfl, beq_false_of_ne hb⟩
    · exact ⟨rfl, bne_iff_ne.2 hb⟩) (fun _ h => by cases h) (run_du _ aR aS hk) List.mem_cons_self rfl rfl (vs := [bV k a, bV k b]) rfl rfl hG⟩
theorem div_s {aR aS : Addr} {t : Int × Int × Int} (ht : t ∈ bitS) {a b : Int} (hb : b ≠ 0) (b0 : 0 ≤ b) (b1 : b ≤ t.2.2) : DivE aR aS t.1 a b := by
  have hy : (nuE true (decide (b > t.2.1)) 1 t.2.2).ev (r2 a b 0 0) ≠ 0 := by
    simp only [bitS, List.mem_cons, List.not_mem_nil, or_false] at ht
    rcases ht with rfl | rfl | rfl
    · intro hz
      have h := (nuE_ev (ρ := r2 a b 0 0) (i := 1) (s := (5, true, -128, 127, 255)) (by decide) b0 b1).symm.trans hz
      change b ≤ 255 at b1
      change numI true 127 255 b = 0 at h
      unfold numI at h
      simp only [Bool.true_and, decide_eq_true_eq] at h
      split at h <;> omega
    · intro hz
      have h := (nuE_ev (ρ := r2 a b 0 0) (i := 1) (s := (6, true, -32768, 32767, 65535)) (by decide) b0 b1).symm.trans hz
      change b ≤ 65535 at b1
      change numI true 32767 65535 b = 0 at h
      unfold numI at h
      simp only [Bool.true_and, decide_eq_true_eq] at h
      split at h <;> omega
    · intro hz
      have h := (nuE_ev (ρ := r2 a b 0 0) (i := 1) (s := (7, true, -2147483648, 2147483647, 4294967295)) (by decide) b0 b1).symm.trans hz
      change b ≤ 4294967295 at b1
      change numI true 2147483647 4294967295 b = 0 at h
      unfold numI at h
      simp only [Bool.true_and, decide_eq_true_eq] at h
      split at h <;> omega
  generalize hp : decide ((nuE true (decide (b > t.2.1)) 1 t.2.2).ev (r2 a b 0 0) > 0) = p
  generalize hr : decide ((IE.bin .rem .i64 (nuE true (decide (a > t.2.1)) 0 t.2.2) (nuE true (decide (b > t.2.1)) 1 t.2.2)).ev (r2 a b 0 0) < 0) = r
  refine ⟨_, _, fun w hG => calls_sym (L := L_ds t.2.1 t.2.2 (decide (a > t.2.1)) (decide (b > t.2.1)) r p) (ρ := r2 a b 0 0) (fun f hf => ?_) (fun _ h => by cases h) (run_ds _ aR aS ht _ _ _ _) List.mem_cons_self rfl rfl (vs := [bV t.1 a, bV t.1 b]) rfl rfl hG⟩
  simp only [L_ds, List.mem_cons, List.not_mem_nil, or_false] at hf
  rcases hf with rfl | rfl | rfl | rfl | rfl | rfl
  · exact ⟨rfl, beq_false_of_ne hb⟩
  · exact ⟨rfl, rfl⟩
  · exact ⟨rfl, rfl⟩
  · exact ⟨rfl, bne_iff_ne.2 hy⟩
  · exact ⟨rfl, hr⟩
  · exact ⟨rfl, hp⟩
theorem div_e (aR aS : Addr) {s : Int × Bool × Int × Int × Int} (hs : s ∈ bitK) (a : Int) {b : Int} (b0 : 0 ≤ b) (b1 : b ≤ s.2.2.2.2) : DivE aR aS s.1 a b := by
  by_cases hb : b = 0
  · subst hb; exact div_z hs a
  simp only [bitK, List.mem_cons, List.not_mem_nil, or_false] at hs
  rcases hs with rfl | rfl | rfl | rfl | rfl | rfl | rfl
  · exact div_u (by decide) a hb
  · exact div_u (by decide) a hb
  · exact div_u (by decide) a hb
  · exact div_u (by decide) a hb
  · exact div_s (t := (5, 127, 255)) (by decide) hb b0 b1
  · exact div_s (t := (6, 32767, 65535)) (by decide) hb b0 b1
  · exact div_s (t := (7, 2147483647, 4294967295)) (by decide) hb b0 b1
end
end Go.Proofs.YtgecchiocfkpkaaGreatDoor

namespace Go.Proofs.YtgecchiocfkpkaaGreatDoor
noncomputable section
open Go Go.RX
open Go.RowKit (Below)
set_option maxRecDepth 1000000
set_option maxHeartbeats 4000000
def g_and (M : Int) : IE := .bin .and .u64 (.bin .and .u64 (.var 0) (.var 1)) (.lit M)
theorem run_aand (ρ : Nat → Int) (aR aS : Addr) {s : Int × Bool × Int × Int × Int} (hs : s ∈ bitK) : runE ρ aR aS [⟨.leq, .var 0, .lit s.2.2.2.2, true⟩, ⟨.leq, .var 1, .lit s.2.2.2.2, true⟩] [(191, [agK s.1 0, agK s.1 1], .tuple [wd8 2, wd8 3])] [(65, [.v (.int .i64 13), agK s.1 0, agK s.1 1], .tuple [.agg [.v (.int .i64 s.1), .sym (.int .u64 (g_and s.2.2.2.2))], .v (.int .i64 0)])] := by
  unfold runE
  simp only [bitK, List.mem_cons, List.not_mem_nil, or_false] at hs
  rcases hs with rfl | rfl | rfl | rfl | rfl | rfl | rfl <;> kernel_rfl
theorem ra_and (aR aS : Addr) {s : Int × Bool × Int × Int × Int} (hs : s ∈ bitK) {a b : Int} (a1 : a ≤ s.2.2.2.2) (b0 : 0 ≤ b) (b1 : b ≤ s.2.2.2.2) (z0 : 0 ≤ binI .and .u64 a b) (z1 : binI .and .u64 a b ≤ s.2.2.2.2) : ∀ w, (glob aR aS).holds w → Calls Tryz.prog 65 #[.int .i64 13, bV s.1 a, bV s.1 b] w (Ret (.tuple #[bV s.1 (binI .and .u64 a b), .int .i64 0]) w) := fun w hG => by
  obtain ⟨q, r, hd⟩ := div_e aR aS hs a b0 b1
  have hM := (bitK_ok hs).1
  refine calls_sym (L := [⟨.leq, .var 0, .lit s.2.2.2.2, true⟩, ⟨.leq, .var 1, .lit s.2.2.2.2, true⟩]) (ρ := r2 a b q r) (fun f hf => ?_) (fun u hu => ?_) (run_aand _ aR aS hs) List.mem_cons_self rfl rfl (vs := [.int .i64 13, bV s.1 a, bV s.1 b]) rfl ?_ hG
  · simp only [List.mem_cons, List.not_mem_nil, or_false] at hf
    rcases hf with rfl | rfl
    · exact ⟨rfl, decide_eq_true a1⟩
    · exact ⟨rfl, decide_eq_true b1⟩
  · obtain rfl := List.mem_singleton.1 hu
    exact sokE rfl rfl (vs := [bV s.1 a, bV s.1 b]) (v := .tuple #[.int .u64 q, .int .u64 r]) rfl rfl hd
  · show some (Value.tuple #[.agg #[.int .i64 s.1, .int .u64 (binI .and .u64 (binI .and .u64 a b) s.2.2.2.2)], .int .i64 0]) = _
    rw [and_mask hM z0 (by omega), Int.emod_eq_of_lt z0 (by omega)]
def g_or (M : Int) : IE := .bin .and .u64 (.bin .or .u64 (.var 0) (.var 1)) (.lit M)
theorem run_aor (ρ : Nat → Int) (aR aS : Addr) {s : Int × Bool × Int × Int × Int} (hs : s ∈ bitK) : runE ρ aR aS [⟨.leq, .var 0, .lit s.2.2.2.2, true⟩, ⟨.leq, .var 1, .lit s.2.2.2.2, true⟩] [(191, [agK s.1 0, agK s.1 1], .tuple [wd8 2, wd8 3])] [(65, [.v (.int .i64 14), agK s.1 0, agK s.1 1], .tuple [.agg [.v (.int .i64 s.1), .sym (.int .u64 (g_or s.2.2.2.2))], .v (.int .i64 0)])] := by
  unfold runE
  simp only [bitK, List.mem_cons, List.not_mem_nil, or_false] at hs
  rcases hs with rfl | rfl | rfl | rfl | rfl | rfl | rfl <;> kernel_rfl
theorem ra_or (aR aS : Addr) {s : Int × Bool × Int × Int × Int} (hs : s ∈ bitK) {a b : Int} (a1 : a ≤ s.2.2.2.2) (b0 : 0 ≤ b) (b1 : b ≤ s.2.2.2.2) (z0 : 0 ≤ binI .or .u64 a b) (z1 : binI .or .u64 a b ≤ s.2.2.2.2) : ∀ w, (glob aR aS).holds w → Calls Tryz.prog 65 #[.int .i64 14, bV s.1 a, bV s.1 b] w (Ret (.tuple #[bV s.1 (binI .or .u64 a b), .int .i64 0]) w) := fun w hG => by
  obtain ⟨q, r, hd⟩ := div_e aR aS hs a b0 b1
  have hM := (bitK_ok hs).1
  refine calls_sym (L := [⟨.leq, .var 0, .lit s.2.2.2.2, true⟩, ⟨.leq, .var 1, .lit s.2.2.2.2, true⟩]) (ρ := r2 a b q r) (fun f hf => ?_) (fun u hu => ?_) (run_aor _ aR aS hs) List.mem_cons_self rfl rfl (vs := [.int .i64 14, bV s.1 a, bV s.1 b]) rfl ?_ hG
  · simp only [List.mem_cons, List.not_mem_nil, or_false] at hf
    rcases hf with rfl | rfl
    · exact ⟨rfl, decide_eq_true a1⟩
    · exact ⟨rfl, decide_eq_true b1⟩
  · obtain rfl := List.mem_singleton.1 hu
    exact sokE rfl rfl (vs := [bV s.1 a, bV s.1 b]) (v := .tuple #[.int .u64 q, .int .u64 r]) rfl rfl hd
  · show some (Value.tuple #[.agg #[.int .i64 s.1, .int .u64 (binI .and .u64 (binI .or .u64 a b) s.2.2.2.2)], .int .i64 0]) = _
    rw [and_mask hM z0 (by omega), Int.emod_eq_of_lt z0 (by omega)]
def g_xor (M : Int) : IE := .bin .and .u64 (.bin .xor .u64 (.var 0) (.var 1)) (.lit M)
theorem run_axor (ρ : Nat → Int) (aR aS : Addr) {s : Int × Bool × Int × Int × Int} (hs : s ∈ bitK) : runE ρ aR aS [⟨.leq, .var 0, .lit s.2.2.2.2, true⟩, ⟨.leq, .var 1, .lit s.2.2.2.2, true⟩] [(191, [agK s.1 0, agK s.1 1], .tuple [wd8 2, wd8 3])] [(65, [.v (.int .i64 15), agK s.1 0, agK s.1 1], .tuple [.agg [.v (.int .i64 s.1), .sym (.int .u64 (g_xor s.2.2.2.2))], .v (.int .i64 0)])] := by
  unfold runE
  simp only [bitK, List.mem_cons, List.not_mem_nil, or_false] at hs
  rcases hs with rfl | rfl | rfl | rfl | rfl | rfl | rfl <;> kernel_rfl
theorem ra_xor (aR aS : Addr) {s : Int × Bool × Int × Int × Int} (hs : s ∈ bitK) {a b : Int} (a1 : a ≤ s.2.2.2.2) (b0 : 0 ≤ b) (b1 : b ≤ s.2.2.2.2) (z0 : 0 ≤ binI .xor .u64 a b) (z1 : binI .xor .u64 a b ≤ s.2.2.2.2) : ∀ w, (glob aR aS).holds w → Calls Tryz.prog 65 #[.int .i64 15, bV s.1 a, bV s.1 b] w (Ret (.tuple #[bV s.1 (binI .xor .u64 a b), .int .i64 0]) w) := fun w hG => by
  obtain ⟨q, r, hd⟩ := div_e aR aS hs a b0 b1
  have hM := (bitK_ok hs).1
  refine calls_sym (L := [⟨.leq, .var 0, .lit s.2.2.2.2, true⟩, ⟨.leq, .var 1, .lit s.2.2.2.2, true⟩]) (ρ := r2 a b q r) (fun f hf => ?_) (fun u hu => ?_) (run_axor _ aR aS hs) List.mem_cons_self rfl rfl (vs := [.int .i64 15, bV s.1 a, bV s.1 b]) rfl ?_ hG
  · simp only [List.mem_cons, List.not_mem_nil, or_false] at hf
    rcases hf with rfl | rfl
    · exact ⟨rfl, decide_eq_true a1⟩
    · exact ⟨rfl, decide_eq_true b1⟩
  · obtain rfl := List.mem_singleton.1 hu
    exact sokE rfl rfl (vs := [bV s.1 a, bV s.1 b]) (v := .tuple #[.int .u64 q, .int .u64 r]) rfl rfl hd
  · show some (Value.tuple #[.agg #[.int .i64 s.1, .int .u64 (binI .and .u64 (binI .xor .u64 a b) s.2.2.2.2)], .int .i64 0]) = _
    rw [and_mask hM z0 (by omega), Int.emod_eq_of_lt z0 (by omega)]
end
end Go.Proofs.YtgecchiocfkpkaaGreatDoor
