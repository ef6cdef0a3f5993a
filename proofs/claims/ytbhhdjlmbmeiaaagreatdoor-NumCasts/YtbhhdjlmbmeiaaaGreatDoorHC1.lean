import Derived.Test.YtbhhdjlmbmeiaaaGreatDoorHT
namespace Go.Proofs.YtbhhdjlmbmeiaaaGreatDoor
noncomputable section
open Go Go.RX
open Go.RowKit (Below)
set_option maxRecDepth 1000000
set_option maxHeartbeats 4000000
def L_C2_0 : List CF := []
theorem run_C2_0 : RunE L_C2_0 T_C1_0 (UI 0) [(5, [.v (.int .i64 2), ag0 0], .tuple [.agg [.v (.int .i64 2), .sym (.int .u64 (.sh .shr .u64 (.sh .shl .u64 (.var 3) (.lit 48)) (.lit 48)))], .v (.int .i64 0)]), (6, [.v (.int .i64 2), ag0 0], .tuple [.agg [.v (.int .i64 2), .sym (.int .u64 (.bin .and .u64 (.cv .u64 (.var 4)) (.lit 65535)))], .v (.int .i64 0)])] := fun W C ρ aR aS => by unfold runE; kernel_rfl
theorem ag_C2_0 {aR aS : Addr} (b n : Int) (h : HN 0 b n)  (hc : Chk aR aS 0 b 0) (hi : IntV aR aS 0 b n) : AgC aR aS 2 0 b := by
  have e : (IE.ev (ri b n 0 2) (.bin .and .u64 (.cv .u64 (.var 4)) (.lit 65535)) : Int) = IE.ev (ri b n 0 2) (.sh .shr .u64 (.sh .shl .u64 (.var 3) (.lit 48)) (.lit 48)) := by
    obtain ⟨hb0, hb1, hn, l0, l1⟩ := h
    simp (disch := omega) only [IE.ev, ri, rc_3, rc_4, loI, and_u64_16, shl_u64_48, shr_u64_48, wrap_i64, wrap_u64] <;> omega
  exact ⟨2, IE.ev (ri b n 0 2) (.sh .shr .u64 (.sh .shl .u64 (.var 3) (.lit 48)) (.lit 48)), 0, fun w hG => pair_of (W := wF (FloatKind.nearest .f32 n)) (C := cF (FloatKind.nearest .f32 n)) (ρ := ri b n 0 2) (fun _ h => by cases h) (tk_C1_0 b n h ) (UI_ok (nearest_num n) hc hi) (run_C2_0 _ _ _ aR aS) rfl rfl rfl (vs := [.int .i64 2, agV 0 b]) rfl rfl (tupE 2 0 e) w hG⟩
def L_C6_0 : List CF := []
theorem run_C6_0 : RunE L_C6_0 T_C1_0 (UI 0) [(5, [.v (.int .i64 6), ag0 0], .tuple [.agg [.v (.int .i64 6), .sym (.int .u64 (.sh .shr .u64 (.sh .shl .u64 (.var 3) (.lit 48)) (.lit 48)))], .v (.int .i64 0)]), (6, [.v (.int .i64 6), ag0 0], .tuple [.agg [.v (.int .i64 6), .sym (.int .u64 (.bin .and .u64 (.cv .u64 (.var 4)) (.lit 65535)))], .v (.int .i64 0)])] := fun W C ρ aR aS => by unfold runE; kernel_rfl
theorem ag_C6_0 {aR aS : Addr} (b n : Int) (h : HN 0 b n)  (hc : Chk aR aS 0 b 0) (hi : IntV aR aS 0 b n) : AgC aR aS 6 0 b := by
  have e : (IE.ev (ri b n 0 6) (.bin .and .u64 (.cv .u64 (.var 4)) (.lit 65535)) : Int) = IE.ev (ri b n 0 6) (.sh .shr .u64 (.sh .shl .u64 (.var 3) (.lit 48)) (.lit 48)) := by
    obtain ⟨hb0, hb1, hn, l0, l1⟩ := h
    simp (disch := omega) only [IE.ev, ri, rc_3, rc_4, loI, and_u64_16, shl_u64_48, shr_u64_48, wrap_i64, wrap_u64] <;> omega
  exact ⟨6, IE.ev (ri b n 0 6) (.sh .shr .u64 (.sh .shl .u64 (.var 3) (.lit 48)) (.lit 48)), 0, fun w hG => pair_of (W := wF (FloatKind.nearest .f32 n)) (C := cF (FloatKind.nearest .f32 n)) (ρ := ri b n 0 6) (fun _ h => by cases h) (tk_C1_0 b n h ) (UI_ok (nearest_num n) hc hi) (run_C6_0 _ _ _ aR aS) rfl rfl rfl (vs := [.int .i64 6, agV 0 b]) rfl rfl (tupE 6 0 e) w hG⟩
def L_C0_0n : List CF := [⟨.neq, .var 0, .lit 0, true⟩]
theorem ok_C0_0n (b n : Int) (h : HN 0 b n) (h0 : b ≠ 0) : ∀ f ∈ L_C0_0n, f.ok (ri b n 0 0) := by
  obtain ⟨hb0, hb1, hn, l0, l1⟩ := h
  intro f hf
  simp only [L_C0_0n, List.mem_cons, List.not_mem_nil, or_false] at hf
  subst hf
  · exact ⟨rfl, cmp_neq_t (by simp (disch := omega) only [IE.ev, ri, rc_0] <;> omega)⟩
theorem run_C0_0n : RunE L_C0_0n [] (UI 0) [(5, [.v (.int .i64 0), ag0 0], .tuple [.agg [.v (.int .i64 0), .sym (.int .u64 (.var 0))], .v (.int .i64 0)]), (6, [.v (.int .i64 0), ag0 0], .v (.tuple #[.agg #[.int .i64 0, .int .u64 1], .int .i64 0]))] := fun W C ρ aR aS => by unfold runE; kernel_rfl
theorem ag_C0_0n {aR aS : Addr} (b n : Int) (h : HN 0 b n) (h0 : b ≠ 0) (hc : Chk aR aS 0 b 0) (hi : IntV aR aS 0 b n) : AgC aR aS 0 0 b := by
  have e : (1 : Int) = IE.ev (ri b n 0 0) (.var 0) := by
    obtain ⟨hb0, hb1, hn, l0, l1⟩ := h
    simp (disch := omega) only [IE.ev, ri, rc_0] <;> omega
  exact ⟨0, IE.ev (ri b n 0 0) (.var 0), 0, fun w hG => pair_of (W := wF (FloatKind.nearest .f32 n)) (C := cF (FloatKind.nearest .f32 n)) (ρ := ri b n 0 0) (ok_C0_0n b n h h0) (fun _ h => by cases h) (UI_ok (nearest_num n) hc hi) (run_C0_0n _ _ _ aR aS) rfl rfl rfl (vs := [.int .i64 0, agV 0 b]) rfl rfl (tupE 0 0 e) w hG⟩
def L_C3_1 : List CF := []
theorem run_C3_1 : RunE L_C3_1 T_C1_1 (UI 1) [(5, [.v (.int .i64 3), ag0 1], .tuple [.agg [.v (.int .i64 3), .sym (.int .u64 (.sh .shr .u64 (.sh .shl .u64 (.var 3) (.lit 32)) (.lit 32)))], .v (.int .i64 0)]), (6, [.v (.int .i64 3), ag0 1], .tuple [.agg [.v (.int .i64 3), .sym (.int .u64 (.bin .and .u64 (.cv .u64 (.var 4)) (.lit 4294967295)))], .v (.int .i64 0)])] := fun W C ρ aR aS => by unfold runE; kernel_rfl
theorem ag_C3_1 {aR aS : Addr} (b n : Int) (h : HN 1 b n)  (hc : Chk aR aS 1 b 0) (hi : IntV aR aS 1 b n) : AgC aR aS 3 1 b := by
  have e : (IE.ev (ri b n 1 3) (.bin .and .u64 (.cv .u64 (.var 4)) (.lit 4294967295)) : Int) = IE.ev (ri b n 1 3) (.sh .shr .u64 (.sh .shl .u64 (.var 3) (.lit 32)) (.lit 32)) := by
    obtain ⟨hb0, hb1, hn, l0, l1⟩ := h
    simp (disch := omega) only [IE.ev, ri, rc_3, rc_4, loI, and_u64_32, shl_u64_32, shr_u64_32, wrap_i64, wrap_u64] <;> omega
  exact ⟨3, IE.ev (ri b n 1 3) (.sh .shr .u64 (.sh .shl .u64 (.var 3) (.lit 32)) (.lit 32)), 0, fun w hG => pair_of (W := wF (FloatKind.nearest .f32 n)) (C := cF (FloatKind.nearest .f32 n)) (ρ := ri b n 1 3) (fun _ h => by cases h) (tk_C1_1 b n h ) (UI_ok (nearest_num n) hc hi) (run_C3_1 _ _ _ aR aS) rfl rfl rfl (vs := [.int .i64 3, agV 1 b]) rfl rfl (tupE 3 0 e) w hG⟩
def L_C7_1 : List CF := []
theorem run_C7_1 : RunE L_C7_1 T_C1_1 (UI 1) [(5, [.v (.int .i64 7), ag0 1], .tuple [.agg [.v (.int .i64 7), .sym (.int .u64 (.sh .shr .u64 (.sh .shl .u64 (.var 3) (.lit 32)) (.lit 32)))], .v (.int .i64 0)]), (6, [.v (.int .i64 7), ag0 1], .tuple [.agg [.v (.int .i64 7), .sym (.int .u64 (.bin .and .u64 (.cv .u64 (.var 4)) (.lit 4294967295)))], .v (.int .i64 0)])] := fun W C ρ aR aS => by unfold runE; kernel_rfl
theorem ag_C7_1 {aR aS : Addr} (b n : Int) (h : HN 1 b n)  (hc : Chk aR aS 1 b 0) (hi : IntV aR aS 1 b n) : AgC aR aS 7 1 b := by
  have e : (IE.ev (ri b n 1 7) (.bin .and .u64 (.cv .u64 (.var 4)) (.lit 4294967295)) : Int) = IE.ev (ri b n 1 7) (.sh .shr .u64 (.sh .shl .u64 (.var 3) (.lit 32)) (.lit 32)) := by
    obtain ⟨hb0, hb1, hn, l0, l1⟩ := h
    simp (disch := omega) only [IE.ev, ri, rc_3, rc_4, loI, and_u64_32, shl_u64_32, shr_u64_32, wrap_i64, wrap_u64] <;> omega
  exact ⟨7, IE.ev (ri b n 1 7) (.sh .shr .u64 (.sh .shl .u64 (.var 3) (.lit 32)) (.lit 32)), 0, fun w hG => pair_of (W := wF (FloatKind.nearest .f32 n)) (C := cF (FloatKind.nearest .f32 n)) (ρ := ri b n 1 7) (fun _ h => by cases h) (tk_C1_1 b n h ) (UI_ok (nearest_num n) hc hi) (run_C7_1 _ _ _ aR aS) rfl rfl rfl (vs := [.int .i64 7, agV 1 b]) rfl rfl (tupE 7 0 e) w hG⟩
def L_C9_1p : List CF := [⟨.lss, (.cv .i64 (.var 2)), .lit 0, false⟩]
theorem ok_C9_1p (b n : Int) (h : HN 1 b n) (_ : 0 ≤ n) : ∀ f ∈ L_C9_1p, f.ok (ri b n 1 9) := by
  obtain ⟨hb0, hb1, hn, l0, l1⟩ := h
  intro f hf
  simp only [L_C9_1p, List.mem_cons, List.not_mem_nil, or_false] at hf
  subst hf
  · exact ⟨rfl, cmp_lss_f (by simp (disch := omega) only [IE.ev, ri, rc_2, hiI_pos, wrap_i64] <;> omega)⟩
theorem run_C9_1p : RunE L_C9_1p T_C9_1p (UI 1) [(5, [.v (.int .i64 9), ag0 1], .tuple [.agg [.v (.int .i64 9), .sym (.int .u64 (.var 5))], .v (.int .i64 0)]), (6, [.v (.int .i64 9), ag0 1], .tuple [.agg [.v (.int .i64 9), .sym (.int .u64 (.var 5))], .v (.int .i64 0)])] := fun W C ρ aR aS => by unfold runE; kernel_rfl
theorem ag_C9_1p {aR aS : Addr} (b n : Int) (h : HN 1 b n) (h0 : 0 ≤ n) (hc : Chk aR aS 1 b 0) (hi : IntV aR aS 1 b n) : AgC aR aS 9 1 b := ⟨9, IE.ev (ri b n 1 9) (.var 5), 0, fun w hG => pair_of (W := wF (FloatKind.nearest .f32 n)) (C := cF (FloatKind.nearest .f32 n)) (ρ := ri b n 1 9) (ok_C9_1p b n h h0) (tk_C9_1p b n h h0) (UI_ok (nearest_num n) hc hi) (run_C9_1p _ _ _ aR aS) rfl rfl rfl (vs := [.int .i64 9, agV 1 b]) rfl rfl rfl w hG⟩
def L_C3_2 : List CF := []
theorem run_C3_2 : RunE L_C3_2 T_C1_2 (UI 2) [(5, [.v (.int .i64 3), ag0 2], .tuple [.agg [.v (.int .i64 3), .sym (.int .u64 (.sh .shr .u64 (.sh .shl .u64 (.var 3) (.lit 32)) (.lit 32)))], .v (.int .i64 0)]), (6, [.v (.int .i64 3), ag0 2], .tuple [.agg [.v (.int .i64 3), .sym (.int .u64 (.bin .and .u64 (.cv .u64 (.var 4)) (.lit 4294967295)))], .v (.int .i64 0)])] := fun W C ρ aR aS => by unfold runE; kernel_rfl
theorem ag_C3_2 {aR aS : Addr} (b n : Int) (h : HN 2 b n)  (hc : Chk aR aS 2 b 0) (hi : IntV aR aS 2 b n) : AgC aR aS 3 2 b := by
  have e : (IE.ev (ri b n 2 3) (.bin .and .u64 (.cv .u64 (.var 4)) (.lit 4294967295)) : Int) = IE.ev (ri b n 2 3) (.sh .shr .u64 (.sh .shl .u64 (.var 3) (.lit 32)) (.lit 32)) := by
    obtain ⟨hb0, hb1, hn, l0, l1⟩ := h
    simp (disch := omega) only [IE.ev, ri, rc_3, rc_4, loI, and_u64_32, shl_u64_32, shr_u64_32, wrap_i64, wrap_u64] <;> omega
  exact ⟨3, IE.ev (ri b n 2 3) (.sh .shr .u64 (.sh .shl .u64 (.var 3) (.lit 32)) (.lit 32)), 0, fun w hG => pair_of (W := wF (FloatKind.nearest .f32 n)) (C := cF (FloatKind.nearest .f32 n)) (ρ := ri b n 2 3) (fun _ h => by cases h) (tk_C1_2 b n h ) (UI_ok (nearest_num n) hc hi) (run_C3_2 _ _ _ aR aS) rfl rfl rfl (vs := [.int .i64 3, agV 2 b]) rfl rfl (tupE 3 0 e) w hG⟩
def L_C7_2 : List CF := []
theorem run_C7_2 : RunE L_C7_2 T_C1_2 (UI 2) [(5, [.v (.int .i64 7), ag0 2], .tuple [.agg [.v (.int .i64 7), .sym (.int .u64 (.sh .shr .u64 (.sh .shl .u64 (.var 3) (.lit 32)) (.lit 32)))], .v (.int .i64 0)]), (6, [.v (.int .i64 7), ag0 2], .tuple [.agg [.v (.int .i64 7), .sym (.int .u64 (.bin .and .u64 (.cv .u64 (.var 4)) (.lit 4294967295)))], .v (.int .i64 0)])] := fun W C ρ aR aS => by unfold runE; kernel_rfl
theorem ag_C7_2 {aR aS : Addr} (b n : Int) (h : HN 2 b n)  (hc : Chk aR aS 2 b 0) (hi : IntV aR aS 2 b n) : AgC aR aS 7 2 b := by
  have e : (IE.ev (ri b n 2 7) (.bin .and .u64 (.cv .u64 (.var 4)) (.lit 4294967295)) : Int) = IE.ev (ri b n 2 7) (.sh .shr .u64 (.sh .shl .u64 (.var 3) (.lit 32)) (.lit 32)) := by
    obtain ⟨hb0, hb1, hn, l0, l1⟩ := h
    simp (disch := omega) only [IE.ev, ri, rc_3, rc_4, loI, and_u64_32, shl_u64_32, shr_u64_32, wrap_i64, wrap_u64] <;> omega
  exact ⟨7, IE.ev (ri b n 2 7) (.sh .shr .u64 (.sh .shl .u64 (.var 3) (.lit 32)) (.lit 32)), 0, fun w hG => pair_of (W := wF (FloatKind.nearest .f32 n)) (C := cF (FloatKind.nearest .f32 n)) (ρ := ri b n 2 7) (fun _ h => by cases h) (tk_C1_2 b n h ) (UI_ok (nearest_num n) hc hi) (run_C7_2 _ _ _ aR aS) rfl rfl rfl (vs := [.int .i64 7, agV 2 b]) rfl rfl (tupE 7 0 e) w hG⟩
def L_C9_2p : List CF := [⟨.lss, (.cv .i64 (.var 2)), .lit 0, false⟩]
theorem ok_C9_2p (b n : Int) (h : HN 2 b n) (_ : 0 ≤ n) : ∀ f ∈ L_C9_2p, f.ok (ri b n 2 9) := by
  obtain ⟨hb0, hb1, hn, l0, l1⟩ := h
  intro f hf
  simp only [L_C9_2p, List.mem_cons, List.not_mem_nil, or_false] at hf
  subst hf
  · exact ⟨rfl, cmp_lss_f (by simp (disch := omega) only [IE.ev, ri, rc_2, hiI_pos, wrap_i64] <;> omega)⟩
theorem run_C9_2p : RunE L_C9_2p T_C9_2p (UI 2) [(5, [.v (.int .i64 9), ag0 2], .tuple [.agg [.v (.int .i64 9), .sym (.int .u64 (.var 5))], .v (.int .i64 0)]), (6, [.v (.int .i64 9), ag0 2], .tuple [.agg [.v (.int .i64 9), .sym (.int .u64 (.var 5))], .v (.int .i64 0)])] := fun W C ρ aR aS => by unfold runE; kernel_rfl
theorem ag_C9_2p {aR aS : Addr} (b n : Int) (h : HN 2 b n) (h0 : 0 ≤ n) (hc : Chk aR aS 2 b 0) (hi : IntV aR aS 2 b n) : AgC aR aS 9 2 b := ⟨9, IE.ev (ri b n 2 9) (.var 5), 0, fun w hG => pair_of (W := wF (FloatKind.nearest .f32 n)) (C := cF (FloatKind.nearest .f32 n)) (ρ := ri b n 2 9) (ok_C9_2p b n h h0) (tk_C9_2p b n h h0) (UI_ok (nearest_num n) hc hi) (run_C9_2p _ _ _ aR aS) rfl rfl rfl (vs := [.int .i64 9, agV 2 b]) rfl rfl rfl w hG⟩
def L_C1_3 : List CF := []
theorem run_C1_3 : RunE L_C1_3 T_C1_3 (UI 3) [(5, [.v (.int .i64 1), ag0 3], .tuple [.agg [.v (.int .i64 1), .sym (.int .u64 (.sh .shr .u64 (.sh .shl .u64 (.var 3) (.lit 56)) (.lit 56)))], .v (.int .i64 0)]), (6, [.v (.int .i64 1), ag0 3], .tuple [.agg [.v (.int .i64 1), .sym (.int .u64 (.bin .and .u64 (.cv .u64 (.var 4)) (.lit 255)))], .v (.int .i64 0)])] := fun W C ρ aR aS => by unfold runE; kernel_rfl
theorem ag_C1_3 {aR aS : Addr} (b n : Int) (h : HN 3 b n)  (hc : Chk aR aS 3 b 0) (hi : IntV aR aS 3 b n) : AgC aR aS 1 3 b := by
  have e : (IE.ev (ri b n 3 1) (.bin .and .u64 (.cv .u64 (.var 4)) (.lit 255)) : Int) = IE.ev (ri b n 3 1) (.sh .shr .u64 (.sh .shl .u64 (.var 3) (.lit 56)) (.lit 56)) := by
    obtain ⟨hb0, hb1, hn, l0, l1⟩ := h
    simp (disch := omega) only [IE.ev, ri, rc_3, rc_4, loI, and_u64_8, shl_u64_56, shr_u64_56, wrap_i64, wrap_u64] <;> omega
  exact ⟨1, IE.ev (ri b n 3 1) (.sh .shr .u64 (.sh .shl .u64 (.var 3) (.lit 56)) (.lit 56)), 0, fun w hG => pair_of (W := wF (FloatKind.nearest .f32 n)) (C := cF (FloatKind.nearest .f32 n)) (ρ := ri b n 3 1) (fun _ h => by cases h) (tk_C1_3 b n h ) (UI_ok (nearest_num n) hc hi) (run_C1_3 _ _ _ aR aS) rfl rfl rfl (vs := [.int .i64 1, agV 3 b]) rfl rfl (tupE 1 0 e) w hG⟩
def L_C5_3 : List CF := []
theorem run_C5_3 : RunE L_C5_3 T_C1_3 (UI 3) [(5, [.v (.int .i64 5), ag0 3], .tuple [.agg [.v (.int .i64 5), .sym (.int .u64 (.sh .shr .u64 (.sh .shl .u64 (.var 3) (.lit 56)) (.lit 56)))], .v (.int .i64 0)]), (6, [.v (.int .i64 5), ag0 3], .tuple [.agg [.v (.int .i64 5), .sym (.int .u64 (.bin .and .u64 (.cv .u64 (.var 4)) (.lit 255)))], .v (.int .i64 0)])] := fun W C ρ aR aS => by unfold runE; kernel_rfl
theorem ag_C5_3 {aR aS : Addr} (b n : Int) (h : HN 3 b n)  (hc : Chk aR aS 3 b 0) (hi : IntV aR aS 3 b n) : AgC aR aS 5 3 b := by
  have e : (IE.ev (ri b n 3 5) (.bin .and .u64 (.cv .u64 (.var 4)) (.lit 255)) : Int) = IE.ev (ri b n 3 5) (.sh .shr .u64 (.sh .shl .u64 (.var 3) (.lit 56)) (.lit 56)) := by
    obtain ⟨hb0, hb1, hn, l0, l1⟩ := h
    simp (disch := omega) only [IE.ev, ri, rc_3, rc_4, loI, and_u64_8, shl_u64_56, shr_u64_56, wrap_i64, wrap_u64] <;> omega
  exact ⟨5, IE.ev (ri b n 3 5) (.sh .shr .u64 (.sh .shl .u64 (.var 3) (.lit 56)) (.lit 56)), 0, fun w hG => pair_of (W := wF (FloatKind.nearest .f32 n)) (C := cF (FloatKind.nearest .f32 n)) (ρ := ri b n 3 5) (fun _ h => by cases h) (tk_C1_3 b n h ) (UI_ok (nearest_num n) hc hi) (run_C5_3 _ _ _ aR aS) rfl rfl rfl (vs := [.int .i64 5, agV 3 b]) rfl rfl (tupE 5 0 e) w hG⟩
def L_C0_3z : List CF := [⟨.neq, .var 0, .lit 0, false⟩]
theorem ok_C0_3z (b n : Int) (h : HN 3 b n) (h0 : b = 0) : ∀ f ∈ L_C0_3z, f.ok (ri b n 3 0) := by
  obtain ⟨hb0, hb1, hn, l0, l1⟩ := h
  intro f hf
  simp only [L_C0_3z, List.mem_cons, List.not_mem_nil, or_false] at hf
  subst hf
  · exact ⟨rfl, cmp_neq_f (by simp (disch := omega) only [IE.ev, ri, rc_0] <;> omega)⟩
theorem run_C0_3z : RunE L_C0_3z [] (UI 3) [(5, [.v (.int .i64 0), ag0 3], .v (.tuple #[.agg #[.int .i64 0, .int .u64 0], .int .i64 0])), (6, [.v (.int .i64 0), ag0 3], .v (.tuple #[.agg #[.int .i64 0, .int .u64 0], .int .i64 0]))] := fun W C ρ aR aS => by unfold runE; kernel_rfl
theorem ag_C0_3z {aR aS : Addr} (b n : Int) (h : HN 3 b n) (h0 : b = 0) (hc : Chk aR aS 3 b 0) (hi : IntV aR aS 3 b n) : AgC aR aS 0 3 b := ⟨0, 0, 0, fun w hG => pair_of (W := wF (FloatKind.nearest .f32 n)) (C := cF (FloatKind.nearest .f32 n)) (ρ := ri b n 3 0) (ok_C0_3z b n h h0) (fun _ h => by cases h) (UI_ok (nearest_num n) hc hi) (run_C0_3z _ _ _ aR aS) rfl rfl rfl (vs := [.int .i64 0, agV 3 b]) rfl rfl rfl w hG⟩
def L_C1_4 : List CF := []
theorem run_C1_4 : RunE L_C1_4 T_C1_4 (UI 4) [(5, [.v (.int .i64 1), ag0 4], .tuple [.agg [.v (.int .i64 1), .sym (.int .u64 (.sh .shr .u64 (.sh .shl .u64 (.var 3) (.lit 56)) (.lit 56)))], .v (.int .i64 0)]), (6, [.v (.int .i64 1), ag0 4], .tuple [.agg [.v (.int .i64 1), .sym (.int .u64 (.bin .and .u64 (.cv .u64 (.var 4)) (.lit 255)))], .v (.int .i64 0)])] := fun W C ρ aR aS => by unfold runE; kernel_rfl
theorem ag_C1_4 {aR aS : Addr} (b n : Int) (h : HN 4 b n)  (hc : Chk aR aS 4 b 0) (hi : IntV aR aS 4 b n) : AgC aR aS 1 4 b := by
  have e : (IE.ev (ri b n 4 1) (.bin .and .u64 (.cv .u64 (.var 4)) (.lit 255)) : Int) = IE.ev (ri b n 4 1) (.sh .shr .u64 (.sh .shl .u64 (.var 3) (.lit 56)) (.lit 56)) := by
    obtain ⟨hb0, hb1, hn, l0, l1⟩ := h
    simp (disch := omega) only [IE.ev, ri, rc_3, rc_4, loI, and_u64_8, shl_u64_56, shr_u64_56, wrap_i64, wrap_u64] <;> omega
  exact ⟨1, IE.ev (ri b n 4 1) (.sh .shr .u64 (.sh .shl .u64 (.var 3) (.lit 56)) (.lit 56)), 0, fun w hG => pair_of (W := wF (FloatKind.nearest .f32 n)) (C := cF (FloatKind.nearest .f32 n)) (ρ := ri b n 4 1) (fun _ h => by cases h) (tk_C1_4 b n h ) (UI_ok (nearest_num n) hc hi) (run_C1_4 _ _ _ aR aS) rfl rfl rfl (vs := [.int .i64 1, agV 4 b]) rfl rfl (tupE 1 0 e) w hG⟩
def L_C5_4 : List CF := []
theorem run_C5_4 : RunE L_C5_4 T_C1_4 (UI 4) [(5, [.v (.int .i64 5), ag0 4], .tuple [.agg [.v (.int .i64 5), .sym (.int .u64 (.sh .shr .u64 (.sh .shl .u64 (.var 3) (.lit 56)) (.lit 56)))], .v (.int .i64 0)]), (6, [.v (.int .i64 5), ag0 4], .tuple [.agg [.v (.int .i64 5), .sym (.int .u64 (.bin .and .u64 (.cv .u64 (.var 4)) (.lit 255)))], .v (.int .i64 0)])] := fun W C ρ aR aS => by unfold runE; kernel_rfl
theorem ag_C5_4 {aR aS : Addr} (b n : Int) (h : HN 4 b n)  (hc : Chk aR aS 4 b 0) (hi : IntV aR aS 4 b n) : AgC aR aS 5 4 b := by
  have e : (IE.ev (ri b n 4 5) (.bin .and .u64 (.cv .u64 (.var 4)) (.lit 255)) : Int) = IE.ev (ri b n 4 5) (.sh .shr .u64 (.sh .shl .u64 (.var 3) (.lit 56)) (.lit 56)) := by
    obtain ⟨hb0, hb1, hn, l0, l1⟩ := h
    simp (disch := omega) only [IE.ev, ri, rc_3, rc_4, loI, and_u64_8, shl_u64_56, shr_u64_56, wrap_i64, wrap_u64] <;> omega
  exact ⟨5, IE.ev (ri b n 4 5) (.sh .shr .u64 (.sh .shl .u64 (.var 3) (.lit 56)) (.lit 56)), 0, fun w hG => pair_of (W := wF (FloatKind.nearest .f32 n)) (C := cF (FloatKind.nearest .f32 n)) (ρ := ri b n 4 5) (fun _ h => by cases h) (tk_C1_4 b n h ) (UI_ok (nearest_num n) hc hi) (run_C5_4 _ _ _ aR aS) rfl rfl rfl (vs := [.int .i64 5, agV 4 b]) rfl rfl (tupE 5 0 e) w hG⟩
def L_C0_4z : List CF := [⟨.neq, .var 0, .lit 0, false⟩]
theorem ok_C0_4z (b n : Int) (h : HN 4 b n) (h0 : b = 0) : ∀ f ∈ L_C0_4z, f.ok (ri b n 4 0) := by
  obtain ⟨hb0, hb1, hn, l0, l1⟩ := h
  intro f hf
  simp only [L_C0_4z, List.mem_cons, List.not_mem_nil, or_false] at hf
  subst hf
  · exact ⟨rfl, cmp_neq_f (by simp (disch := omega) only [IE.ev, ri, rc_0] <;> omega)⟩
theorem run_C0_4z : RunE L_C0_4z [] (UI 4) [(5, [.v (.int .i64 0), ag0 4], .v (.tuple #[.agg #[.int .i64 0, .int .u64 0], .int .i64 0])), (6, [.v (.int .i64 0), ag0 4], .v (.tuple #[.agg #[.int .i64 0, .int .u64 0], .int .i64 0]))] := fun W C ρ aR aS => by unfold runE; kernel_rfl
theorem ag_C0_4z {aR aS : Addr} (b n : Int) (h : HN 4 b n) (h0 : b = 0) (hc : Chk aR aS 4 b 0) (hi : IntV aR aS 4 b n) : AgC aR aS 0 4 b := ⟨0, 0, 0, fun w hG => pair_of (W := wF (FloatKind.nearest .f32 n)) (C := cF (FloatKind.nearest .f32 n)) (ρ := ri b n 4 0) (ok_C0_4z b n h h0) (fun _ h => by cases h) (UI_ok (nearest_num n) hc hi) (run_C0_4z _ _ _ aR aS) rfl rfl rfl (vs := [.int .i64 0, agV 4 b]) rfl rfl rfl w hG⟩
def L_C3_5 : List CF := []
theorem run_C3_5 : RunE L_C3_5 T_C1_5 (UI 5) [(5, [.v (.int .i64 3), ag0 5], .tuple [.agg [.v (.int .i64 3), .sym (.int .u64 (.sh .shr .u64 (.sh .shl .u64 (.var 3) (.lit 32)) (.lit 32)))], .v (.int .i64 0)]), (6, [.v (.int .i64 3), ag0 5], .tuple [.agg [.v (.int .i64 3), .sym (.int .u64 (.bin .and .u64 (.cv .u64 (.var 4)) (.lit 4294967295)))], .v (.int .i64 0)])] := fun W C ρ aR aS => by unfold runE; kernel_rfl
theorem ag_C3_5 {aR aS : Addr} (b n : Int) (h : HN 5 b n)  (hc : Chk aR aS 5 b 0) (hi : IntV aR aS 5 b n) : AgC aR aS 3 5 b := by
  have e : (IE.ev (ri b n 5 3) (.bin .and .u64 (.cv .u64 (.var 4)) (.lit 4294967295)) : Int) = IE.ev (ri b n 5 3) (.sh .shr .u64 (.sh .shl .u64 (.var 3) (.lit 32)) (.lit 32)) := by
    obtain ⟨hb0, hb1, hn, l0, l1⟩ := h
    simp (disch := omega) only [IE.ev, ri, rc_3, rc_4, loI, and_u64_32, shl_u64_32, shr_u64_32, wrap_i64, wrap_u64] <;> omega
  exact ⟨3, IE.ev (ri b n 5 3) (.sh .shr .u64 (.sh .shl .u64 (.var 3) (.lit 32)) (.lit 32)), 0, fun w hG => pair_of (W := wF (FloatKind.nearest .f32 n)) (C := cF (FloatKind.nearest .f32 n)) (ρ := ri b n 5 3) (fun _ h => by cases h) (tk_C1_5 b n h ) (UI_ok (nearest_num n) hc hi) (run_C3_5 _ _ _ aR aS) rfl rfl rfl (vs := [.int .i64 3, agV 5 b]) rfl rfl (tupE 3 0 e) w hG⟩
def L_C7_5 : List CF := []
theorem run_C7_5 : RunE L_C7_5 T_C1_5 (UI 5) [(5, [.v (.int .i64 7), ag0 5], .tuple [.agg [.v (.int .i64 7), .sym (.int .u64 (.sh .shr .u64 (.sh .shl .u64 (.var 3) (.lit 32)) (.lit 32)))], .v (.int .i64 0)]), (6, [.v (.int .i64 7), ag0 5], .tuple [.agg [.v (.int .i64 7), .sym (.int .u64 (.bin .and .u64 (.cv .u64 (.var 4)) (.lit 4294967295)))], .v (.int .i64 0)])] := fun W C ρ aR aS => by unfold runE; kernel_rfl
theorem ag_C7_5 {aR aS : Addr} (b n : Int) (h : HN 5 b n)  (hc : Chk aR aS 5 b 0) (hi : IntV aR aS 5 b n) : AgC aR aS 7 5 b := by
  have e : (IE.ev (ri b n 5 7) (.bin .and .u64 (.cv .u64 (.var 4)) (.lit 4294967295)) : Int) = IE.ev (ri b n 5 7) (.sh .shr .u64 (.sh .shl .u64 (.var 3) (.lit 32)) (.lit 32)) := by
    obtain ⟨hb0, hb1, hn, l0, l1⟩ := h
    simp (disch := omega) only [IE.ev, ri, rc_3, rc_4, loI, and_u64_32, shl_u64_32, shr_u64_32, wrap_i64, wrap_u64] <;> omega
  exact ⟨7, IE.ev (ri b n 5 7) (.sh .shr .u64 (.sh .shl .u64 (.var 3) (.lit 32)) (.lit 32)), 0, fun w hG => pair_of (W := wF (FloatKind.nearest .f32 n)) (C := cF (FloatKind.nearest .f32 n)) (ρ := ri b n 5 7) (fun _ h => by cases h) (tk_C1_5 b n h ) (UI_ok (nearest_num n) hc hi) (run_C7_5 _ _ _ aR aS) rfl rfl rfl (vs := [.int .i64 7, agV 5 b]) rfl rfl (tupE 7 0 e) w hG⟩
def L_C9_5p : List CF := [⟨.lss, (.cv .i64 (.var 2)), .lit 0, false⟩]
theorem ok_C9_5p (b n : Int) (h : HN 5 b n) (h0 : 0 ≤ n) : ∀ f ∈ L_C9_5p, f.ok (ri b n 5 9) := by
  obtain ⟨hb0, hb1, hn, l0, l1⟩ := h
  intro f hf
  simp only [L_C9_5p, List.mem_cons, List.not_mem_nil, or_false] at hf
  subst hf
  · exact ⟨rfl, cmp_lss_f (by simp (disch := omega) only [IE.ev, ri, rc_2, hiI_pos, wrap_i64] <;> omega)⟩
theorem run_C9_5p : RunE L_C9_5p T_C9_5p (UI 5) [(5, [.v (.int .i64 9), ag0 5], .tuple [.agg [.v (.int .i64 9), .sym (.int .u64 (.var 5))], .v (.int .i64 0)]), (6, [.v (.int .i64 9), ag0 5], .tuple [.agg [.v (.int .i64 9), .sym (.int .u64 (.var 5))], .v (.int .i64 0)])] := fun W C ρ aR aS => by unfold runE; kernel_rfl
theorem ag_C9_5p {aR aS : Addr} (b n : Int) (h : HN 5 b n) (h0 : 0 ≤ n) (hc : Chk aR aS 5 b 0) (hi : IntV aR aS 5 b n) : AgC aR aS 9 5 b := ⟨9, IE.ev (ri b n 5 9) (.var 5), 0, fun w hG => pair_of (W := wF (FloatKind.nearest .f32 n)) (C := cF (FloatKind.nearest .f32 n)) (ρ := ri b n 5 9) (ok_C9_5p b n h h0) (tk_C9_5p b n h h0) (UI_ok (nearest_num n) hc hi) (run_C9_5p _ _ _ aR aS) rfl rfl rfl (vs := [.int .i64 9, agV 5 b]) rfl rfl rfl w hG⟩
def L_C2_6 : List CF := []
theorem run_C2_6 : RunE L_C2_6 T_C1_6 (UI 6) [(5, [.v (.int .i64 2), ag0 6], .tuple [.agg [.v (.int .i64 2), .sym (.int .u64 (.sh .shr .u64 (.sh .shl .u64 (.var 3) (.lit 48)) (.lit 48)))], .v (.int .i64 0)]), (6, [.v (.int .i64 2), ag0 6], .tuple [.agg [.v (.int .i64 2), .sym (.int .u64 (.bin .and .u64 (.cv .u64 (.var 4)) (.lit 65535)))], .v (.int .i64 0)])] := fun W C ρ aR aS => by unfold runE; kernel_rfl
theorem ag_C2_6 {aR aS : Addr} (b n : Int) (h : HN 6 b n)  (hc : Chk aR aS 6 b 0) (hi : IntV aR aS 6 b n) : AgC aR aS 2 6 b := by
  have e : (IE.ev (ri b n 6 2) (.bin .and .u64 (.cv .u64 (.var 4)) (.lit 65535)) : Int) = IE.ev (ri b n 6 2) (.sh .shr .u64 (.sh .shl .u64 (.var 3) (.lit 48)) (.lit 48)) := by
    obtain ⟨hb0, hb1, hn, l0, l1⟩ := h
    simp (disch := omega) only [IE.ev, ri, rc_3, rc_4, loI, and_u64_16, shl_u64_48, shr_u64_48, wrap_i64, wrap_u64] <;> omega
  exact ⟨2, IE.ev (ri b n 6 2) (.sh .shr .u64 (.sh .shl .u64 (.var 3) (.lit 48)) (.lit 48)), 0, fun w hG => pair_of (W := wF (FloatKind.nearest .f32 n)) (C := cF (FloatKind.nearest .f32 n)) (ρ := ri b n 6 2) (fun _ h => by cases h) (tk_C1_6 b n h ) (UI_ok (nearest_num n) hc hi) (run_C2_6 _ _ _ aR aS) rfl rfl rfl (vs := [.int .i64 2, agV 6 b]) rfl rfl (tupE 2 0 e) w hG⟩
def L_C6_6 : List CF := []
theorem run_C6_6 : RunE L_C6_6 T_C1_6 (UI 6) [(5, [.v (.int .i64 6), ag0 6], .tuple [.agg [.v (.int .i64 6), .sym (.int .u64 (.var 0))], .v (.int .i64 0)]), (6, [.v (.int .i64 6), ag0 6], .tuple [.agg [.v (.int .i64 6), .sym (.int .u64 (.bin .and .u64 (.cv .u64 (.var 4)) (.lit 65535)))], .v (.int .i64 0)])] := fun W C ρ aR aS => by unfold runE; kernel_rfl
theorem ag_C6_6 {aR aS : Addr} (b n : Int) (h : HN 6 b n)  (hc : Chk aR aS 6 b 0) (hi : IntV aR aS 6 b n) : AgC aR aS 6 6 b := by
  have e : (IE.ev (ri b n 6 6) (.bin .and .u64 (.cv .u64 (.var 4)) (.lit 65535)) : Int) = IE.ev (ri b n 6 6) (.var 0) := by
    obtain ⟨hb0, hb1, hn, l0, l1⟩ := h
    simp (disch := omega) only [IE.ev, ri, rc_0, rc_4, and_u64_16, wrap_i64, wrap_u64] <;> omega
  exact ⟨6, IE.ev (ri b n 6 6) (.var 0), 0, fun w hG => pair_of (W := wF (FloatKind.nearest .f32 n)) (C := cF (FloatKind.nearest .f32 n)) (ρ := ri b n 6 6) (fun _ h => by cases h) (tk_C1_6 b n h ) (UI_ok (nearest_num n) hc hi) (run_C6_6 _ _ _ aR aS) rfl rfl rfl (vs := [.int .i64 6, agV 6 b]) rfl rfl (tupE 6 0 e) w hG⟩
def L_C0_6n : List CF := [⟨.neq, .var 0, .lit 0, true⟩]
theorem ok_C0_6n (b n : Int) (h : HN 6 b n) (h0 : b ≠ 0) : ∀ f ∈ L_C0_6n, f.ok (ri b n 6 0) := by
  obtain ⟨hb0, hb1, hn, l0, l1⟩ := h
  intro f hf
  simp only [L_C0_6n, List.mem_cons, List.not_mem_nil, or_false] at hf
  subst hf
  · exact ⟨rfl, cmp_neq_t (by simp (disch := omega) only [IE.ev, ri, rc_0] <;> omega)⟩
theorem run_C0_6n : RunE L_C0_6n [] (UI 6) [(5, [.v (.int .i64 0), ag0 6], .v (.tuple #[.agg #[.int .i64 0, .int .u64 1], .int .i64 0])), (6, [.v (.int .i64 0), ag0 6], .v (.tuple #[.agg #[.int .i64 0, .int .u64 1], .int .i64 0]))] := fun W C ρ aR aS => by unfold runE; kernel_rfl
theorem ag_C0_6n {aR aS : Addr} (b n : Int) (h : HN 6 b n) (h0 : b ≠ 0) (hc : Chk aR aS 6 b 0) (hi : IntV aR aS 6 b n) : AgC aR aS 0 6 b := ⟨0, 1, 0, fun w hG => pair_of (W := wF (FloatKind.nearest .f32 n)) (C := cF (FloatKind.nearest .f32 n)) (ρ := ri b n 6 0) (ok_C0_6n b n h h0) (fun _ h => by cases h) (UI_ok (nearest_num n) hc hi) (run_C0_6n _ _ _ aR aS) rfl rfl rfl (vs := [.int .i64 0, agV 6 b]) rfl rfl rfl w hG⟩
def L_C10_6m : List CF := [⟨.lss, (.cv .i64 (.var 2)), .lit 0, true⟩]
theorem ok_C10_6m (b n : Int) (h : HN 6 b n) (h0 : n < 0) : ∀ f ∈ L_C10_6m, f.ok (ri b n 6 10) := by
  obtain ⟨hb0, hb1, hn, l0, l1⟩ := h
  intro f hf
  simp only [L_C10_6m, List.mem_cons, List.not_mem_nil, or_false] at hf
  subst hf
  · exact ⟨rfl, cmp_lss_t (by simp (disch := omega) only [IE.ev, ri, rc_2, hiI_neg, wrap_i64] <;> omega)⟩
theorem run_C10_6m : RunE L_C10_6m T_C10_6m (UI 6) [(5, [.v (.int .i64 10), ag0 6], .tuple [.agg [.v (.int .i64 10), .sym (.int .u64 (.bin .or .u64 (.var 5) (.lit 0)))], .v (.int .i64 0)]), (6, [.v (.int .i64 10), ag0 6], .tuple [.agg [.v (.int .i64 10), .sym (.int .u64 (.var 5))], .v (.int .i64 0)])] := fun W C ρ aR aS => by unfold runE; kernel_rfl
theorem ag_C10_6m {aR aS : Addr} (b n : Int) (h : HN 6 b n) (h0 : n < 0) (hc : Chk aR aS 6 b 0) (hi : IntV aR aS 6 b n) : AgC aR aS 10 6 b := by
  have e : (IE.ev (ri b n 6 10) (.var 5) : Int) = IE.ev (ri b n 6 10) (.bin .or .u64 (.var 5) (.lit 0)) := by
    obtain ⟨hb0, hb1, hn, l0, l1⟩ := h
    have hw := normW_lt (nearest_num n).1
    have hz0 : ∀ x : Int, 0 ≤ x → x < 18446744073709551616 → binI .or .u64 x 0 = x := or_u64_64
    simp (disch := omega) only [IE.ev, ri, rc_5, hz0] <;> omega
  exact ⟨10, IE.ev (ri b n 6 10) (.bin .or .u64 (.var 5) (.lit 0)), 0, fun w hG => pair_of (W := wF (FloatKind.nearest .f32 n)) (C := cF (FloatKind.nearest .f32 n)) (ρ := ri b n 6 10) (ok_C10_6m b n h h0) (tk_C10_6m b n h h0) (UI_ok (nearest_num n) hc hi) (run_C10_6m _ _ _ aR aS) rfl rfl rfl (vs := [.int .i64 10, agV 6 b]) rfl rfl (tupE 10 0 e) w hG⟩
def L_C2_7 : List CF := []
theorem run_C2_7 : RunE L_C2_7 T_C1_7 (UI 7) [(5, [.v (.int .i64 2), ag0 7], .tuple [.agg [.v (.int .i64 2), .sym (.int .u64 (.sh .shr .u64 (.sh .shl .u64 (.var 3) (.lit 48)) (.lit 48)))], .v (.int .i64 0)]), (6, [.v (.int .i64 2), ag0 7], .tuple [.agg [.v (.int .i64 2), .sym (.int .u64 (.bin .and .u64 (.cv .u64 (.var 4)) (.lit 65535)))], .v (.int .i64 0)])] := fun W C ρ aR aS => by unfold runE; kernel_rfl
theorem ag_C2_7 {aR aS : Addr} (b n : Int) (h : HN 7 b n)  (hc : Chk aR aS 7 b 0) (hi : IntV aR aS 7 b n) : AgC aR aS 2 7 b := by
  have e : (IE.ev (ri b n 7 2) (.bin .and .u64 (.cv .u64 (.var 4)) (.lit 65535)) : Int) = IE.ev (ri b n 7 2) (.sh .shr .u64 (.sh .shl .u64 (.var 3) (.lit 48)) (.lit 48)) := by
    obtain ⟨hb0, hb1, hn, l0, l1⟩ := h
    simp (disch := omega) only [IE.ev, ri, rc_3, rc_4, loI, and_u64_16, shl_u64_48, shr_u64_48, wrap_i64, wrap_u64] <;> omega
  exact ⟨2, IE.ev (ri b n 7 2) (.sh .shr .u64 (.sh .shl .u64 (.var 3) (.lit 48)) (.lit 48)), 0, fun w hG => pair_of (W := wF (FloatKind.nearest .f32 n)) (C := cF (FloatKind.nearest .f32 n)) (ρ := ri b n 7 2) (fun _ h => by cases h) (tk_C1_7 b n h ) (UI_ok (nearest_num n) hc hi) (run_C2_7 _ _ _ aR aS) rfl rfl rfl (vs := [.int .i64 2, agV 7 b]) rfl rfl (tupE 2 0 e) w hG⟩
def L_C6_7 : List CF := []
theorem run_C6_7 : RunE L_C6_7 T_C1_7 (UI 7) [(5, [.v (.int .i64 6), ag0 7], .tuple [.agg [.v (.int .i64 6), .sym (.int .u64 (.sh .shr .u64 (.sh .shl .u64 (.var 3) (.lit 48)) (.lit 48)))], .v (.int .i64 0)]), (6, [.v (.int .i64 6), ag0 7], .tuple [.agg [.v (.int .i64 6), .sym (.int .u64 (.bin .and .u64 (.cv .u64 (.var 4)) (.lit 65535)))], .v (.int .i64 0)])] := fun W C ρ aR aS => by unfold runE; kernel_rfl
theorem ag_C6_7 {aR aS : Addr} (b n : Int) (h : HN 7 b n)  (hc : Chk aR aS 7 b 0) (hi : IntV aR aS 7 b n) : AgC aR aS 6 7 b := by
  have e : (IE.ev (ri b n 7 6) (.bin .and .u64 (.cv .u64 (.var 4)) (.lit 65535)) : Int) = IE.ev (ri b n 7 6) (.sh .shr .u64 (.sh .shl .u64 (.var 3) (.lit 48)) (.lit 48)) := by
    obtain ⟨hb0, hb1, hn, l0, l1⟩ := h
    simp (disch := omega) only [IE.ev, ri, rc_3, rc_4, loI, and_u64_16, shl_u64_48, shr_u64_48, wrap_i64, wrap_u64] <;> omega
  exact ⟨6, IE.ev (ri b n 7 6) (.sh .shr .u64 (.sh .shl .u64 (.var 3) (.lit 48)) (.lit 48)), 0, fun w hG => pair_of (W := wF (FloatKind.nearest .f32 n)) (C := cF (FloatKind.nearest .f32 n)) (ρ := ri b n 7 6) (fun _ h => by cases h) (tk_C1_7 b n h ) (UI_ok (nearest_num n) hc hi) (run_C6_7 _ _ _ aR aS) rfl rfl rfl (vs := [.int .i64 6, agV 7 b]) rfl rfl (tupE 6 0 e) w hG⟩
def L_C0_7n : List CF := [⟨.neq, .var 0, .lit 0, true⟩]
theorem ok_C0_7n (b n : Int) (h : HN 7 b n) (h0 : b ≠ 0) : ∀ f ∈ L_C0_7n, f.ok (ri b n 7 0) := by
  obtain ⟨hb0, hb1, hn, l0, l1⟩ := h
  intro f hf
  simp only [L_C0_7n, List.mem_cons, List.not_mem_nil, or_false] at hf
  subst hf
  · exact ⟨rfl, cmp_neq_t (by simp (disch := omega) only [IE.ev, ri, rc_0] <;> omega)⟩
theorem run_C0_7n : RunE L_C0_7n [] (UI 7) [(5, [.v (.int .i64 0), ag0 7], .v (.tuple #[.agg #[.int .i64 0, .int .u64 1], .int .i64 0])), (6, [.v (.int .i64 0), ag0 7], .v (.tuple #[.agg #[.int .i64 0, .int .u64 1], .int .i64 0]))] := fun W C ρ aR aS => by unfold runE; kernel_rfl
theorem ag_C0_7n {aR aS : Addr} (b n : Int) (h : HN 7 b n) (h0 : b ≠ 0) (hc : Chk aR aS 7 b 0) (hi : IntV aR aS 7 b n) : AgC aR aS 0 7 b := ⟨0, 1, 0, fun w hG => pair_of (W := wF (FloatKind.nearest .f32 n)) (C := cF (FloatKind.nearest .f32 n)) (ρ := ri b n 7 0) (ok_C0_7n b n h h0) (fun _ h => by cases h) (UI_ok (nearest_num n) hc hi) (run_C0_7n _ _ _ aR aS) rfl rfl rfl (vs := [.int .i64 0, agV 7 b]) rfl rfl rfl w hG⟩
def L_C10_7m : List CF := [⟨.lss, (.cv .i64 (.var 2)), .lit 0, true⟩]
theorem ok_C10_7m (b n : Int) (h : HN 7 b n) (h0 : n < 0) : ∀ f ∈ L_C10_7m, f.ok (ri b n 7 10) := by
  obtain ⟨hb0, hb1, hn, l0, l1⟩ := h
  intro f hf
  simp only [L_C10_7m, List.mem_cons, List.not_mem_nil, or_false] at hf
  subst hf
  · exact ⟨rfl, cmp_lss_t (by simp (disch := omega) only [IE.ev, ri, rc_2, hiI_neg, wrap_i64] <;> omega)⟩
theorem run_C10_7m : RunE L_C10_7m T_C10_7m (UI 7) [(5, [.v (.int .i64 10), ag0 7], .tuple [.agg [.v (.int .i64 10), .sym (.int .u64 (.bin .or .u64 (.var 5) (.lit 0)))], .v (.int .i64 0)]), (6, [.v (.int .i64 10), ag0 7], .tuple [.agg [.v (.int .i64 10), .sym (.int .u64 (.var 5))], .v (.int .i64 0)])] := fun W C ρ aR aS => by unfold runE; kernel_rfl
theorem ag_C10_7m {aR aS : Addr} (b n : Int) (h : HN 7 b n) (h0 : n < 0) (hc : Chk aR aS 7 b 0) (hi : IntV aR aS 7 b n) : AgC aR aS 10 7 b := by
  have e : (IE.ev (ri b n 7 10) (.var 5) : Int) = IE.ev (ri b n 7 10) (.bin .or .u64 (.var 5) (.lit 0)) := by
    obtain ⟨hb0, hb1, hn, l0, l1⟩ := h
    have hw := normW_lt (nearest_num n).1
    have hz0 : ∀ x : Int, 0 ≤ x → x < 18446744073709551616 → binI .or .u64 x 0 = x := or_u64_64
    simp (disch := omega) only [IE.ev, ri, rc_5, hz0] <;> omega
  exact ⟨10, IE.ev (ri b n 7 10) (.bin .or .u64 (.var 5) (.lit 0)), 0, fun w hG => pair_of (W := wF (FloatKind.nearest .f32 n)) (C := cF (FloatKind.nearest .f32 n)) (ρ := ri b n 7 10) (ok_C10_7m b n h h0) (tk_C10_7m b n h h0) (UI_ok (nearest_num n) hc hi) (run_C10_7m _ _ _ aR aS) rfl rfl rfl (vs := [.int .i64 10, agV 7 b]) rfl rfl (tupE 10 0 e) w hG⟩
def L_C3_8 : List CF := []
theorem run_C3_8 : RunE L_C3_8 T_C1_8 (UI 8) [(5, [.v (.int .i64 3), ag0 8], .tuple [.agg [.v (.int .i64 3), .sym (.int .u64 (.sh .shr .u64 (.sh .shl .u64 (.var 3) (.lit 32)) (.lit 32)))], .v (.int .i64 0)]), (6, [.v (.int .i64 3), ag0 8], .tuple [.agg [.v (.int .i64 3), .sym (.int .u64 (.bin .and .u64 (.cv .u64 (.var 4)) (.lit 4294967295)))], .v (.int .i64 0)])] := fun W C ρ aR aS => by unfold runE; kernel_rfl
theorem ag_C3_8 {aR aS : Addr} (b n : Int) (h : HN 8 b n)  (hc : Chk aR aS 8 b 0) (hi : IntV aR aS 8 b n) : AgC aR aS 3 8 b := by
  have e : (IE.ev (ri b n 8 3) (.bin .and .u64 (.cv .u64 (.var 4)) (.lit 4294967295)) : Int) = IE.ev (ri b n 8 3) (.sh .shr .u64 (.sh .shl .u64 (.var 3) (.lit 32)) (.lit 32)) := by
    obtain ⟨hb0, hb1, hn, l0, l1⟩ := h
    simp (disch := omega) only [IE.ev, ri, rc_3, rc_4, loI, and_u64_32, shl_u64_32, shr_u64_32, wrap_i64, wrap_u64] <;> omega
  exact ⟨3, IE.ev (ri b n 8 3) (.sh .shr .u64 (.sh .shl .u64 (.var 3) (.lit 32)) (.lit 32)), 0, fun w hG => pair_of (W := wF (FloatKind.nearest .f32 n)) (C := cF (FloatKind.nearest .f32 n)) (ρ := ri b n 8 3) (fun _ h => by cases h) (tk_C1_8 b n h ) (UI_ok (nearest_num n) hc hi) (run_C3_8 _ _ _ aR aS) rfl rfl rfl (vs := [.int .i64 3, agV 8 b]) rfl rfl (tupE 3 0 e) w hG⟩
def L_C7_8 : List CF := []
theorem run_C7_8 : RunE L_C7_8 T_C1_8 (UI 8) [(5, [.v (.int .i64 7), ag0 8], .tuple [.agg [.v (.int .i64 7), .sym (.int .u64 (.sh .shr .u64 (.sh .shl .u64 (.var 3) (.lit 32)) (.lit 32)))], .v (.int .i64 0)]), (6, [.v (.int .i64 7), ag0 8], .tuple [.agg [.v (.int .i64 7), .sym (.int .u64 (.bin .and .u64 (.cv .u64 (.var 4)) (.lit 4294967295)))], .v (.int .i64 0)])] := fun W C ρ aR aS => by unfold runE; kernel_rfl
theorem ag_C7_8 {aR aS : Addr} (b n : Int) (h : HN 8 b n)  (hc : Chk aR aS 8 b 0) (hi : IntV aR aS 8 b n) : AgC aR aS 7 8 b := by
  have e : (IE.ev (ri b n 8 7) (.bin .and .u64 (.cv .u64 (.var 4)) (.lit 4294967295)) : Int) = IE.ev (ri b n 8 7) (.sh .shr .u64 (.sh .shl .u64 (.var 3) (.lit 32)) (.lit 32)) := by
    obtain ⟨hb0, hb1, hn, l0, l1⟩ := h
    simp (disch := omega) only [IE.ev, ri, rc_3, rc_4, loI, and_u64_32, shl_u64_32, shr_u64_32, wrap_i64, wrap_u64] <;> omega
  exact ⟨7, IE.ev (ri b n 8 7) (.sh .shr .u64 (.sh .shl .u64 (.var 3) (.lit 32)) (.lit 32)), 0, fun w hG => pair_of (W := wF (FloatKind.nearest .f32 n)) (C := cF (FloatKind.nearest .f32 n)) (ρ := ri b n 8 7) (fun _ h => by cases h) (tk_C1_8 b n h ) (UI_ok (nearest_num n) hc hi) (run_C7_8 _ _ _ aR aS) rfl rfl rfl (vs := [.int .i64 7, agV 8 b]) rfl rfl (tupE 7 0 e) w hG⟩
def L_C9_8p : List CF := [⟨.lss, (.cv .i64 (.var 2)), .lit 0, false⟩]
theorem ok_C9_8p (b n : Int) (h : HN 8 b n) (h0 : 0 ≤ n) : ∀ f ∈ L_C9_8p, f.ok (ri b n 8 9) := by
  obtain ⟨hb0, hb1, hn, l0, l1⟩ := h
  intro f hf
  simp only [L_C9_8p, List.mem_cons, List.not_mem_nil, or_false] at hf
  subst hf
  · exact ⟨rfl, cmp_lss_f (by simp (disch := omega) only [IE.ev, ri, rc_2, hiI_pos, wrap_i64] <;> omega)⟩
theorem run_C9_8p : RunE L_C9_8p T_C9_8p (UI 8) [(5, [.v (.int .i64 9), ag0 8], .tuple [.agg [.v (.int .i64 9), .sym (.int .u64 (.var 5))], .v (.int .i64 0)]), (6, [.v (.int .i64 9), ag0 8], .tuple [.agg [.v (.int .i64 9), .sym (.int .u64 (.var 5))], .v (.int .i64 0)])] := fun W C ρ aR aS => by unfold runE; kernel_rfl
theorem ag_C9_8p {aR aS : Addr} (b n : Int) (h : HN 8 b n) (h0 : 0 ≤ n) (hc : Chk aR aS 8 b 0) (hi : IntV aR aS 8 b n) : AgC aR aS 9 8 b := ⟨9, IE.ev (ri b n 8 9) (.var 5), 0, fun w hG => pair_of (W := wF (FloatKind.nearest .f32 n)) (C := cF (FloatKind.nearest .f32 n)) (ρ := ri b n 8 9) (ok_C9_8p b n h h0) (tk_C9_8p b n h h0) (UI_ok (nearest_num n) hc hi) (run_C9_8p _ _ _ aR aS) rfl rfl rfl (vs := [.int .i64 9, agV 8 b]) rfl rfl rfl w hG⟩
def L_C1_9bb : List CF := []
theorem run_C1_9bb : RunE L_C1_9bb T_C1_9bb UF [(5, [.v (.int .i64 1), ag0 9], .v (.tuple #[.agg #[.int .i64 1, .int .u64 0], .int .i64 0])), (6, [.v (.int .i64 1), ag0 9], .v (.tuple #[.agg #[.int .i64 1, .int .u64 0], .int .i64 0]))] := fun W C ρ aR aS => by unfold runE; kernel_rfl
theorem ag_C1_9bb {aR aS : Addr} (F : Nat) (h : HF F) (h0 : tB F < 0) (h1 : keyB F ≤ 0) (hc : Chk aR aS 9 F 0) : AgC aR aS 1 9 (F : Int) := ⟨1, 0, 0, fun w hG => pair_of (W := wF F) (C := cF F) (ρ := rf F 1) (fun _ h => by cases h) (tk_C1_9bb F h h0 h1) (UF_ok h.1 h.2.1 h.2.2 hc) (run_C1_9bb _ _ _ aR aS) rfl rfl rfl (vs := [.int .i64 1, agV 9 (F : Int)]) rfl rfl rfl w hG⟩
def L_C1_9aa : List CF := []
theorem run_C1_9aa : RunE L_C1_9aa T_C1_9aa UF [(5, [.v (.int .i64 1), ag0 9], .v (.tuple #[.agg #[.int .i64 1, .int .u64 255], .int .i64 0])), (6, [.v (.int .i64 1), ag0 9], .v (.tuple #[.agg #[.int .i64 1, .int .u64 255], .int .i64 0]))] := fun W C ρ aR aS => by unfold runE; kernel_rfl
theorem ag_C1_9aa {aR aS : Addr} (F : Nat) (h : HF F) (h0 : 256 ≤ tB F) (h1 : 1132396544 ≤ keyB F) (hc : Chk aR aS 9 F 0) : AgC aR aS 1 9 (F : Int) := ⟨1, 255, 0, fun w hG => pair_of (W := wF F) (C := cF F) (ρ := rf F 1) (fun _ h => by cases h) (tk_C1_9aa F h h0 h1) (UF_ok h.1 h.2.1 h.2.2 hc) (run_C1_9aa _ _ _ aR aS) rfl rfl rfl (vs := [.int .i64 1, agV 9 (F : Int)]) rfl rfl rfl w hG⟩
def L_C2_9ia : List CF := []
theorem run_C2_9ia : RunE L_C2_9ia T_C2_9ia UF [(5, [.v (.int .i64 2), ag0 9], .tuple [.agg [.v (.int .i64 2), .sym (.int .u64 (.sh .shr .u64 (.sh .shl .u64 (.var 8) (.lit 48)) (.lit 48)))], .v (.int .i64 0)]), (6, [.v (.int .i64 2), ag0 9], .v (.tuple #[.agg #[.int .i64 2, .int .u64 65535], .int .i64 0]))] := fun W C ρ aR aS => by unfold runE; kernel_rfl
theorem ag_C2_9ia {aR aS : Addr} (F : Nat) (h : HF F) (h0 : tB F = 65535) (h1 : 0 < keyB F) (h2 : 1199570688 ≤ keyB F) (hc : Chk aR aS 9 F 0) : AgC aR aS 2 9 (F : Int) := by
  have e : (65535 : Int) = IE.ev (rf F 2) (.sh .shr .u64 (.sh .shl .u64 (.var 8) (.lit 48)) (.lit 48)) := by
    obtain ⟨hF, hr, hz⟩ := h
    simp (disch := omega) only [IE.ev, rf, rc_8, shl_u64_48, shr_u64_48, wrap_u64] <;> omega
  exact ⟨2, IE.ev (rf F 2) (.sh .shr .u64 (.sh .shl .u64 (.var 8) (.lit 48)) (.lit 48)), 0, fun w hG => pair_of (W := wF F) (C := cF F) (ρ := rf F 2) (fun _ h => by cases h) (tk_C2_9ia F h h0 h1 h2) (UF_ok h.1 h.2.1 h.2.2 hc) (run_C2_9ia _ _ _ aR aS) rfl rfl rfl (vs := [.int .i64 2, agV 9 (F : Int)]) rfl rfl (tupE 2 0 e) w hG⟩
def L_C3_9ii : List CF := []
theorem run_C3_9ii : RunE L_C3_9ii T_C3_9ii UF [(5, [.v (.int .i64 3), ag0 9], .tuple [.agg [.v (.int .i64 3), .sym (.int .u64 (.sh .shr .u64 (.sh .shl .u64 (.var 8) (.lit 32)) (.lit 32)))], .v (.int .i64 0)]), (6, [.v (.int .i64 3), ag0 9], .tuple [.agg [.v (.int .i64 3), .sym (.int .u64 (.bin .and .u64 (.var 8) (.lit 4294967295)))], .v (.int .i64 0)])] := fun W C ρ aR aS => by unfold runE; kernel_rfl
theorem ag_C3_9ii {aR aS : Addr} (F : Nat) (h : HF F) (h0 : 0 ≤ tB F) (h1 : tB F < 4294967296) (h2 : 0 < keyB F) (h3 : keyB F < 1333788672) (hc : Chk aR aS 9 F 0) : AgC aR aS 3 9 (F : Int) := by
  have e : (IE.ev (rf F 3) (.bin .and .u64 (.var 8) (.lit 4294967295)) : Int) = IE.ev (rf F 3) (.sh .shr .u64 (.sh .shl .u64 (.var 8) (.lit 32)) (.lit 32)) := by
    obtain ⟨hF, hr, hz⟩ := h
    simp (disch := omega) only [IE.ev, rf, rc_8, and_u64_32, shl_u64_32, shr_u64_32, wrap_u64] <;> omega
  exact ⟨3, IE.ev (rf F 3) (.sh .shr .u64 (.sh .shl .u64 (.var 8) (.lit 32)) (.lit 32)), 0, fun w hG => pair_of (W := wF F) (C := cF F) (ρ := rf F 3) (fun _ h => by cases h) (tk_C3_9ii F h h0 h1 h2 h3) (UF_ok h.1 h.2.1 h.2.2 hc) (run_C3_9ii _ _ _ aR aS) rfl rfl rfl (vs := [.int .i64 3, agV 9 (F : Int)]) rfl rfl (tupE 3 0 e) w hG⟩
def L_C4_9ii : List CF := []
theorem run_C4_9ii : RunE L_C4_9ii T_C4_9ii UF [(5, [.v (.int .i64 4), ag0 9], .tuple [.agg [.v (.int .i64 4), .sym (.int .u64 (.sh .shr .u64 (.sh .shl .u64 (.var 8) (.lit 0)) (.lit 0)))], .v (.int .i64 0)]), (6, [.v (.int .i64 4), ag0 9], .tuple [.agg [.v (.int .i64 4), .sym (.int .u64 (.bin .and .u64 (.var 8) (.lit 18446744073709551615)))], .v (.int .i64 0)])] := fun W C ρ aR aS => by unfold runE; kernel_rfl
theorem ag_C4_9ii {aR aS : Addr} (F : Nat) (h : HF F) (h0 : 0 ≤ tB F) (h1 : tB F < 18446744073709551616) (h2 : 0 < keyB F) (h3 : keyB F < 1602224128) (hc : Chk aR aS 9 F 0) : AgC aR aS 4 9 (F : Int) := by
  have e : (IE.ev (rf F 4) (.bin .and .u64 (.var 8) (.lit 18446744073709551615)) : Int) = IE.ev (rf F 4) (.sh .shr .u64 (.sh .shl .u64 (.var 8) (.lit 0)) (.lit 0)) := by
    obtain ⟨hF, hr, hz⟩ := h
    simp (disch := omega) only [IE.ev, rf, rc_8, and_u64_64, shl_u64_0, shr_u64_0, wrap_u64] <;> omega
  exact ⟨4, IE.ev (rf F 4) (.sh .shr .u64 (.sh .shl .u64 (.var 8) (.lit 0)) (.lit 0)), 0, fun w hG => pair_of (W := wF F) (C := cF F) (ρ := rf F 4) (fun _ h => by cases h) (tk_C4_9ii F h h0 h1 h2 h3) (UF_ok h.1 h.2.1 h.2.2 hc) (run_C4_9ii _ _ _ aR aS) rfl rfl rfl (vs := [.int .i64 4, agV 9 (F : Int)]) rfl rfl (tupE 4 0 e) w hG⟩
def L_C5_9ii : List CF := []
theorem run_C5_9ii : RunE L_C5_9ii T_C5_9ii UF [(5, [.v (.int .i64 5), ag0 9], .tuple [.agg [.v (.int .i64 5), .sym (.int .u64 (.sh .shr .u64 (.sh .shl .u64 (.cv .u64 (.var 8)) (.lit 56)) (.lit 56)))], .v (.int .i64 0)]), (6, [.v (.int .i64 5), ag0 9], .tuple [.agg [.v (.int .i64 5), .sym (.int .u64 (.bin .and .u64 (.cv .u64 (.var 8)) (.lit 255)))], .v (.int .i64 0)])] := fun W C ρ aR aS => by unfold runE; kernel_rfl
theorem ag_C5_9ii {aR aS : Addr} (F : Nat) (h : HF F) (h0 : -128 ≤ tB F) (h1 : tB F < 128) (h2 : -1124073472 < keyB F) (h3 : keyB F < 1123942400) (hc : Chk aR aS 9 F 0) : AgC aR aS 5 9 (F : Int) := by
  have e : (IE.ev (rf F 5) (.bin .and .u64 (.cv .u64 (.var 8)) (.lit 255)) : Int) = IE.ev (rf F 5) (.sh .shr .u64 (.sh .shl .u64 (.cv .u64 (.var 8)) (.lit 56)) (.lit 56)) := by
    obtain ⟨hF, hr, hz⟩ := h
    simp (disch := omega) only [IE.ev, rf, rc_8, and_u64_8, shl_u64_56, shr_u64_56, wrap_u64] <;> omega
  exact ⟨5, IE.ev (rf F 5) (.sh .shr .u64 (.sh .shl .u64 (.cv .u64 (.var 8)) (.lit 56)) (.lit 56)), 0, fun w hG => pair_of (W := wF F) (C := cF F) (ρ := rf F 5) (fun _ h => by cases h) (tk_C5_9ii F h h0 h1 h2 h3) (UF_ok h.1 h.2.1 h.2.2 hc) (run_C5_9ii _ _ _ aR aS) rfl rfl rfl (vs := [.int .i64 5, agV 9 (F : Int)]) rfl rfl (tupE 5 0 e) w hG⟩
def L_C6_9ib : List CF := []
theorem run_C6_9ib : RunE L_C6_9ib T_C6_9ib UF [(5, [.v (.int .i64 6), ag0 9], .tuple [.agg [.v (.int .i64 6), .sym (.int .u64 (.sh .shr .u64 (.sh .shl .u64 (.cv .u64 (.var 8)) (.lit 48)) (.lit 48)))], .v (.int .i64 0)]), (6, [.v (.int .i64 6), ag0 9], .v (.tuple #[.agg #[.int .i64 6, .int .u64 32768], .int .i64 0]))] := fun W C ρ aR aS => by unfold runE; kernel_rfl
theorem ag_C6_9ib {aR aS : Addr} (F : Nat) (h : HF F) (h0 : tB F = (-32768)) (h1 : keyB F ≤ -1191182336) (hc : Chk aR aS 9 F 0) : AgC aR aS 6 9 (F : Int) := by
  have e : (32768 : Int) = IE.ev (rf F 6) (.sh .shr .u64 (.sh .shl .u64 (.cv .u64 (.var 8)) (.lit 48)) (.lit 48)) := by
    obtain ⟨hF, hr, hz⟩ := h
    simp (disch := omega) only [IE.ev, rf, rc_8, shl_u64_48, shr_u64_48, wrap_u64] <;> omega
  exact ⟨6, IE.ev (rf F 6) (.sh .shr .u64 (.sh .shl .u64 (.cv .u64 (.var 8)) (.lit 48)) (.lit 48)), 0, fun w hG => pair_of (W := wF F) (C := cF F) (ρ := rf F 6) (fun _ h => by cases h) (tk_C6_9ib F h h0 h1) (UF_ok h.1 h.2.1 h.2.2 hc) (run_C6_9ib _ _ _ aR aS) rfl rfl rfl (vs := [.int .i64 6, agV 9 (F : Int)]) rfl rfl (tupE 6 0 e) w hG⟩
def L_C7_9bb : List CF := []
theorem run_C7_9bb : RunE L_C7_9bb T_C7_9bb UF [(5, [.v (.int .i64 7), ag0 9], .v (.tuple #[.agg #[.int .i64 7, .int .u64 2147483648], .int .i64 0])), (6, [.v (.int .i64 7), ag0 9], .v (.tuple #[.agg #[.int .i64 7, .int .u64 2147483648], .int .i64 0]))] := fun W C ρ aR aS => by unfold runE; kernel_rfl
theorem ag_C7_9bb {aR aS : Addr} (F : Nat) (h : HF F) (h0 : tB F < -2147483648) (h1 : keyB F ≤ -1325400064) (hc : Chk aR aS 9 F 0) : AgC aR aS 7 9 (F : Int) := ⟨7, 2147483648, 0, fun w hG => pair_of (W := wF F) (C := cF F) (ρ := rf F 7) (fun _ h => by cases h) (tk_C7_9bb F h h0 h1) (UF_ok h.1 h.2.1 h.2.2 hc) (run_C7_9bb _ _ _ aR aS) rfl rfl rfl (vs := [.int .i64 7, agV 9 (F : Int)]) rfl rfl rfl w hG⟩
def L_C8_9bb : List CF := []
theorem run_C8_9bb : RunE L_C8_9bb T_C8_9bb UF [(5, [.v (.int .i64 8), ag0 9], .v (.tuple #[.agg #[.int .i64 8, .int .u64 9223372036854775808], .int .i64 0])), (6, [.v (.int .i64 8), ag0 9], .v (.tuple #[.agg #[.int .i64 8, .int .u64 9223372036854775808], .int .i64 0]))] := fun W C ρ aR aS => by unfold runE; kernel_rfl
theorem ag_C8_9bb {aR aS : Addr} (F : Nat) (h : HF F) (h0 : tB F < -9223372036854775808) (h1 : keyB F ≤ -1593835520) (hc : Chk aR aS 9 F 0) : AgC aR aS 8 9 (F : Int) := ⟨8, 9223372036854775808, 0, fun w hG => pair_of (W := wF F) (C := cF F) (ρ := rf F 8) (fun _ h => by cases h) (tk_C8_9bb F h h0 h1) (UF_ok h.1 h.2.1 h.2.2 hc) (run_C8_9bb _ _ _ aR aS) rfl rfl rfl (vs := [.int .i64 8, agV 9 (F : Int)]) rfl rfl rfl w hG⟩
def L_C0_9z : List CF := [⟨.neq, .var 0, .lit 0, false⟩]
theorem ok_C0_9z (F : Nat) (h : HF F) (h0 : F = 0) : ∀ f ∈ L_C0_9z, f.ok (rf F 0) := by
  obtain ⟨hF, hr, hz⟩ := h
  intro f hf
  simp only [L_C0_9z, List.mem_cons, List.not_mem_nil, or_false] at hf
  subst hf
  · exact ⟨rfl, cmp_neq_f (by simp (disch := omega) only [IE.ev, rf, rc_0] <;> omega)⟩
theorem run_C0_9z : RunE L_C0_9z [] UF [(5, [.v (.int .i64 0), ag0 9], .v (.tuple #[.agg #[.int .i64 0, .int .u64 0], .int .i64 0])), (6, [.v (.int .i64 0), ag0 9], .v (.tuple #[.agg #[.int .i64 0, .int .u64 0], .int .i64 0]))] := fun W C ρ aR aS => by unfold runE; kernel_rfl
theorem ag_C0_9z {aR aS : Addr} (F : Nat) (h : HF F) (h0 : F = 0) (hc : Chk aR aS 9 F 0) : AgC aR aS 0 9 (F : Int) := ⟨0, 0, 0, fun w hG => pair_of (W := wF F) (C := cF F) (ρ := rf F 0) (ok_C0_9z F h h0) (fun _ h => by cases h) (UF_ok h.1 h.2.1 h.2.2 hc) (run_C0_9z _ _ _ aR aS) rfl rfl rfl (vs := [.int .i64 0, agV 9 (F : Int)]) rfl rfl rfl w hG⟩
end
end Go.Proofs.YtbhhdjlmbmeiaaaGreatDoor
