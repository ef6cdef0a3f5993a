import Derived.Test.YtonkcpmefnddaaaGreatDoorFE
namespace Go.Proofs.YtonkcpmefnddaaaGreatDoor
noncomputable section
open Go Go.RX
open Go.RowKit (Below)
set_option maxRecDepth 1000000
set_option maxHeartbeats 4000000

/-! ### The value of a float that is one -/
/-- The word of a float, held within the finite ones, without -0. -/
def normW (b : Nat) : Nat := if b % 2147483648 = 0 then 0 else if b = 2139095040 then 2139095039 else if b = 4286578688 then 4286578687 else b
theorem normW_lt {b : Nat} (h : b < 4294967296) : normW b < 4294967296 := by
  unfold normW
  (repeat' split) <;> omega

def maxF : SVal := .v (.float .f32 2139095039)
def minF : SVal := .v (.float .f32 4286578687)
noncomputable def tM (g l z : Bool) : List XE := [(kBin .gtr, [.sym (.nm 0), maxF], .v (.bool g)), (kBin .lss, [.sym (.nm 0), minF], .v (.bool l)), (kBin .eql, [.sym (.nm 0), zeroF], .v (.bool z)),
  (kVal, [.v (.func (.func 87) #[] #[]), .sym (.nm 0)], .sym (.int .u32 (.var 0)))]
theorem tM_ok {b : Nat} (hb : Num b) {g l z : Bool} (hg : decide (keyB b > 2139095039) = g) (hl : decide (keyB b < -2139095039) = l) (hz : (keyB b == 0) = z) : XF (w4 b 0 0 0) c0 (rho b 0 0 0 0 0) (tM g l z) := fun x hx => by
  have n1 : Num 2139095039 := by unfold Num; omega
  have n2 : Num 4286578687 := by unfold Num; omega
  simp only [tM, List.mem_cons, List.not_mem_nil, or_false] at hx
  rcases hx with rfl | rfl | rfl | rfl
  · exact xok_cmp (a := b) (b := 2139095039) rfl rfl rfl (by rw [cmpF_key rfl hb n1]; exact hg)
  · exact xok_cmp (a := b) (b := 4286578687) rfl rfl rfl (by rw [cmpF_key rfl hb n2]; exact hl)
  · exact xok_cmp (a := b) (b := 0) rfl rfl rfl (by rw [cmpF_key rfl hb num_0]; exact hz)
  · exact xok_bits ext_bits (c := b) (e := .var 0) rfl rfl rfl

/-- The ends. -/
def UE : List SEntry := [(95, [.v (.int .u64 2139095039)], maxF), (95, [.v (.int .u64 4286578687)], minF), (148, [maxF], .v (.int .u64 2139095039)), (148, [minF], .v (.int .u64 4286578687))]
theorem UE_ok {W : Nat → Nat} {C : Nat → Nat × Nat} {ρ : Nat → Int} {L : List CF} {T : List XE} (aR aS : Addr) : ∀ e ∈ UE, @SOk (E W C ρ L T) Tryz.prog (glob aR aS) e := fun e he => by
  simp only [UE, List.mem_cons, List.not_mem_nil, or_false] at he
  rcases he with rfl | rfl | rfl | rfl
  · exact sokE (vs := [.int .u64 2139095039]) (v := .float .f32 2139095039) rfl rfl rfl rfl fun w hG => float_calls aR aS 2139095039 (by omega) (by omega) (by omega) w hG
  · exact sokE (vs := [.int .u64 4286578687]) (v := .float .f32 4286578687) rfl rfl rfl rfl fun w hG => float_calls aR aS 4286578687 (by omega) (by omega) (by omega) w hG
  · exact sokE (vs := [.float .f32 2139095039]) (v := .int .u64 2139095039) rfl rfl rfl rfl fun w hG => bits_calls aR aS 2139095039 (by omega) (by omega) (by omega) w hG
  · exact sokE (vs := [.float .f32 4286578687]) (v := .int .u64 4286578687) rfl rfl rfl rfl fun w hG => bits_calls aR aS 4286578687 (by omega) (by omega) (by omega) w hG
def UB : List SEntry := (148, [.sym (.nm 0)], .sym (.int .u64 (.var 0))) :: UE
theorem UB_ok {b : Nat} (hb : b < 4294967296) (hr : b % 2147483648 < 2139095040) (h0 : b % 2147483648 ≠ 0) {L : List CF} {T : List XE} (aR aS : Addr) : ∀ e ∈ UB, @SOk (E (w4 b 0 0 0) c0 (rho b 0 0 0 0 0) L T) Tryz.prog (glob aR aS) e := fun e he => by
  rcases List.mem_cons.1 he with rfl | he
  · exact sokE (vs := [.float .f32 b]) (v := .int .u64 b) rfl rfl rfl rfl fun w hG => bits_calls aR aS b hb hr h0 w hG
  · exact UE_ok aR aS e he

def Jc (n : Int) : List SEntry := [(29, [.sym (.nm 0)], .v (.agg #[.int .i64 9, .int .u64 n])), (127, [.sym (.nm 0)], .v (.agg #[.int .i64 9, .int .u64 n]))]
def Jf : List SEntry := [(29, [.sym (.nm 0)], .agg [.v (.int .i64 9), .sym (.int .u64 (.cv .u64 (.var 0)))]), (127, [.sym (.nm 0)], .agg [.v (.int .i64 9), .sym (.int .u64 (.var 0))])]
theorem run_z (W : Nat → Nat) (ρ : Nat → Int) (aR aS : Addr) : (Jc 0).map (fun e => (@call (E W c0 ρ [] (tM false false true)) Tryz.prog (glob aR aS) (tabS UE) 300 60 (.fn e.1) e.2.1 []).map fun r => nrm r.1) = (Jc 0).map fun e => some e.2.2 := by kernel_rfl
theorem run_p (W : Nat → Nat) (ρ : Nat → Int) (aR aS : Addr) : (Jc 2139095039).map (fun e => (@call (E W c0 ρ [] (tM true false false)) Tryz.prog (glob aR aS) (tabS UE) 300 60 (.fn e.1) e.2.1 []).map fun r => nrm r.1) = (Jc 2139095039).map fun e => some e.2.2 := by kernel_rfl
theorem run_n (W : Nat → Nat) (ρ : Nat → Int) (aR aS : Addr) : (Jc 4286578687).map (fun e => (@call (E W c0 ρ [] (tM false true false)) Tryz.prog (glob aR aS) (tabS UE) 300 60 (.fn e.1) e.2.1 []).map fun r => nrm r.1) = (Jc 4286578687).map fun e => some e.2.2 := by kernel_rfl
theorem run_f (W : Nat → Nat) (ρ : Nat → Int) (aR aS : Addr) : Jf.map (fun e => (@call (E W c0 ρ [] (tM false false false)) Tryz.prog (glob aR aS) (tabS UB) 300 60 (.fn e.1) e.2.1 []).map fun r => nrm r.1) = Jf.map fun e => some e.2.2 := by kernel_rfl

def FromIs (aR aS : Addr) (b n : Nat) : Prop := ∀ w, (glob aR aS).holds w → Calls Tryz.prog 29 #[.float .f32 b] w (Ret (.agg #[.int .i64 9, .int .u64 n]) w) ∧ Calls Tryz.prog 127 #[.float .f32 b] w (Ret (.agg #[.int .i64 9, .int .u64 n]) w)
theorem from_const (aR aS : Addr) {b n : Nat} {T : List XE} (hT : XF (w4 b 0 0 0) c0 (rho b 0 0 0 0 0) T)
    (h : (Jc n).map (fun e => (@call (E (w4 b 0 0 0) c0 (rho b 0 0 0 0 0) [] T) Tryz.prog (glob aR aS) (tabS UE) 300 60 (.fn e.1) e.2.1 []).map fun r => nrm r.1) = (Jc n).map fun e => some e.2.2) : FromIs aR aS b n := fun w hG =>
  ⟨calls_symF (W := w4 b 0 0 0) (ρ := rho b 0 0 0 0 0) (L := []) (fun _ h => by cases h) hT (UE_ok aR aS) h List.mem_cons_self rfl rfl rfl rfl hG, calls_symF (W := w4 b 0 0 0) (ρ := rho b 0 0 0 0 0) (L := []) (fun _ h => by cases h) hT (UE_ok aR aS) h (List.mem_cons_of_mem _ List.mem_cons_self) rfl rfl rfl rfl hG⟩

/-- **The value of a float.** -/
theorem from_calls (aR aS : Addr) (b : Nat) (hb : Num b) : FromIs aR aS b (normW b) := by
  obtain ⟨h1, h2⟩ := hb
  by_cases hz : b % 2147483648 = 0
  · have e : normW b = 0 := by unfold normW; rw [if_pos hz]
    rw [e]
    have hk : keyB b = 0 := by unfold keyB; split <;> omega
    exact from_const aR aS (tM_ok ⟨h1, h2⟩ (by rw [hk]; rfl) (by rw [hk]; rfl) (by rw [hk]; rfl)) (run_z _ _ aR aS)
  by_cases hp : b = 2139095040
  · subst hp
    exact from_const aR aS (tM_ok ⟨h1, h2⟩ (by decide) (by decide) (by decide)) (run_p _ _ aR aS)
  by_cases hn : b = 4286578688
  · subst hn
    exact from_const aR aS (tM_ok ⟨h1, h2⟩ (by decide) (by decide) (by decide)) (run_n _ _ aR aS)
  have e : normW b = b := by unfold normW; rw [if_neg hz, if_neg hp, if_neg hn]
  rw [e]
  have hT : XF (w4 b 0 0 0) c0 (rho b 0 0 0 0 0) (tM false false false) := by
    have hk : (keyB b > 2139095039) = False ∧ (keyB b < -2139095039) = False ∧ keyB b ≠ 0 := by
      unfold keyB
      split <;> refine ⟨eq_false (by omega), eq_false (by omega), by omega⟩
    exact tM_ok ⟨h1, h2⟩ (by simp only [hk.1]; rfl) (by simp only [hk.2.1]; rfl) (by simpa using hk.2.2)
  intro w hG
  refine ⟨?_, calls_symF (W := w4 b 0 0 0) (ρ := rho b 0 0 0 0 0) (L := []) (fun _ h => by cases h) hT (UB_ok h1 (by omega) hz aR aS) (run_f _ _ aR aS) (List.mem_cons_of_mem _ List.mem_cons_self) rfl rfl rfl rfl hG⟩
  have hw : ((b : Nat) : Int) = (IE.cv .u64 (.var 0)).ev (rho b 0 0 0 0 0) := by
    show _ = IntKind.wrap .u64 b
    rw [wrap64_id _ (by omega) (by omega)]
  rw [hw]
  exact calls_symF (W := w4 b 0 0 0) (ρ := rho b 0 0 0 0 0) (L := []) (fun _ h => by cases h) hT (UB_ok h1 (by omega) hz aR aS) (run_f _ _ aR aS) List.mem_cons_self rfl rfl rfl rfl hG
end
end Go.Proofs.YtonkcpmefnddaaaGreatDoor
