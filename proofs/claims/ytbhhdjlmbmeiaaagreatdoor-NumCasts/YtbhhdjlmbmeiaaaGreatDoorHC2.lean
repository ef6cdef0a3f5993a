import Derived.Test.YtbhhdjlmbmeiaaaGreatDoorHT
namespace Go.Proofs.YtbhhdjlmbmeiaaaGreatDoor
noncomputable section
open Go Go.RX
open Go.RowKit (Below)
set_option maxRecDepth 1000000
set_option maxHeartbeats 4000000
def L_C3_0 : List CF := []
theorem run_C3_0 : RunE L_C3_0 T_C1_0 (UI 0) [(5, [.v (.int .i64 3), ag0 0], .tuple [.agg [.v (.int .i64 3), .sym (.int .u64 (.sh .shr .u64 (.sh .shl .u64 (.var 3) (.lit 32)) (.lit 32)))], .v (.int .i64 0)]), (6, [.v (.int .i64 3), ag0 0], .tuple [.agg [.v (.int .i64 3), .sym (.int .u64 (.bin .and .u64 (.cv .u64 (.var 4)) (.lit 4294967295)))], .v (.int .i64 0)])] := fun W C ρ aR aS => by unfold runE; kernel_rfl
theorem ag_C3_0 {aR aS : Addr} (b n : Int) (h : HN 0 b n)  (hc : Chk aR aS 0 b 0) (hi : IntV aR aS 0 b n) : AgC aR aS 3 0 b := by
  have e : (IE.ev (ri b n 0 3) (.bin .and .u64 (.cv .u64 (.var 4)) (.lit 4294967295)) : Int) = IE.ev (ri b n 0 3) (.sh .shr .u64 (.sh .shl .u64 (.var 3) (.lit 32)) (.lit 32)) := by
    obtain ⟨hb0, hb1, hn, l0, l1⟩ := h
    simp (disch := omega) only [IE.ev, ri, rc_3, rc_4, loI, and_u64_32, shl_u64_32, shr_u64_32, wrap_i64, wrap_u64] <;> omega
  exact ⟨3, IE.ev (ri b n 0 3) (.sh .shr .u64 (.sh .shl .u64 (.var 3) (.lit 32)) (.lit 32)), 0, fun w hG => pair_of (W := wF (FloatKind.nearest .f32 n)) (C := cF (FloatKind.nearest .f32 n)) (ρ := ri b n 0 3) (fun _ h => by cases h) (tk_C1_0 b n h ) (UI_ok (nearest_num n) hc hi) (run_C3_0 _ _ _ aR aS) rfl rfl rfl (vs := [.int .i64 3, agV 0 b]) rfl rfl (tupE 3 0 e) w hG⟩
def L_C7_0 : List CF := []
theorem run_C7_0 : RunE L_C7_0 T_C1_0 (UI 0) [(5, [.v (.int .i64 7), ag0 0], .tuple [.agg [.v (.int .i64 7), .sym (.int .u64 (.sh .shr .u64 (.sh .shl .u64 (.var 3) (.lit 32)) (.lit 32)))], .v (.int .i64 0)]), (6, [.v (.int .i64 7), ag0 0], .tuple [.agg [.v (.int .i64 7), .sym (.int .u64 (.bin .and .u64 (.cv .u64 (.var 4)) (.lit 4294967295)))], .v (.int .i64 0)])] := fun W C ρ aR aS => by unfold runE; kernel_rfl
theorem ag_C7_0 {aR aS : Addr} (b n : Int) (h : HN 0 b n)  (hc : Chk aR aS 0 b 0) (hi : IntV aR aS 0 b n) : AgC aR aS 7 0 b := by
  have e : (IE.ev (ri b n 0 7) (.bin .and .u64 (.cv .u64 (.var 4)) (.lit 4294967295)) : Int) = IE.ev (ri b n 0 7) (.sh .shr .u64 (.sh .shl .u64 (.var 3) (.lit 32)) (.lit 32)) := by
    obtain ⟨hb0, hb1, hn, l0, l1⟩ := h
    simp (disch := omega) only [IE.ev, ri, rc_3, rc_4, loI, and_u64_32, shl_u64_32, shr_u64_32, wrap_i64, wrap_u64] <;> omega
  exact ⟨7, IE.ev (ri b n 0 7) (.sh .shr .u64 (.sh .shl .u64 (.var 3) (.lit 32)) (.lit 32)), 0, fun w hG => pair_of (W := wF (FloatKind.nearest .f32 n)) (C := cF (FloatKind.nearest .f32 n)) (ρ := ri b n 0 7) (fun _ h => by cases h) (tk_C1_0 b n h ) (UI_ok (nearest_num n) hc hi) (run_C7_0 _ _ _ aR aS) rfl rfl rfl (vs := [.int .i64 7, agV 0 b]) rfl rfl (tupE 7 0 e) w hG⟩
def L_C9_0p : List CF := [⟨.lss, (.cv .i64 (.var 2)), .lit 0, false⟩]
theorem ok_C9_0p (b n : Int) (h : HN 0 b n) (_ : 0 ≤ n) : ∀ f ∈ L_C9_0p, f.ok (ri b n 0 9) := by
  obtain ⟨hb0, hb1, hn, l0, l1⟩ := h
  intro f hf
  simp only [L_C9_0p, List.mem_cons, List.not_mem_nil, or_false] at hf
  subst hf
  · exact ⟨rfl, cmp_lss_f (by simp (disch := omega) only [IE.ev, ri, rc_2, hiI_pos, wrap_i64] <;> omega)⟩
theorem run_C9_0p : RunE L_C9_0p T_C9_0p (UI 0) [(5, [.v (.int .i64 9), ag0 0], .tuple [.agg [.v (.int .i64 9), .sym (.int .u64 (.var 5))], .v (.int .i64 0)]), (6, [.v (.int .i64 9), ag0 0], .tuple [.agg [.v (.int .i64 9), .sym (.int .u64 (.var 5))], .v (.int .i64 0)])] := fun W C ρ aR aS => by unfold runE; kernel_rfl
theorem ag_C9_0p {aR aS : Addr} (b n : Int) (h : HN 0 b n) (h0 : 0 ≤ n) (hc : Chk aR aS 0 b 0) (hi : IntV aR aS 0 b n) : AgC aR aS 9 0 b := ⟨9, IE.ev (ri b n 0 9) (.var 5), 0, fun w hG => pair_of (W := wF (FloatKind.nearest .f32 n)) (C := cF (FloatKind.nearest .f32 n)) (ρ := ri b n 0 9) (ok_C9_0p b n h h0) (tk_C9_0p b n h h0) (UI_ok (nearest_num n) hc hi) (run_C9_0p _ _ _ aR aS) rfl rfl rfl (vs := [.int .i64 9, agV 0 b]) rfl rfl rfl w hG⟩
def L_C4_1 : List CF := []
theorem run_C4_1 : RunE L_C4_1 T_C1_1 (UI 1) [(5, [.v (.int .i64 4), ag0 1], .tuple [.agg [.v (.int .i64 4), .sym (.int .u64 (.sh .shr .u64 (.sh .shl .u64 (.var 3) (.lit 0)) (.lit 0)))], .v (.int .i64 0)]), (6, [.v (.int .i64 4), ag0 1], .tuple [.agg [.v (.int .i64 4), .sym (.int .u64 (.bin .and .u64 (.cv .u64 (.var 4)) (.lit 18446744073709551615)))], .v (.int .i64 0)])] := fun W C ρ aR aS => by unfold runE; kernel_rfl
theorem ag_C4_1 {aR aS : Addr} (b n : Int) (h : HN 1 b n)  (hc : Chk aR aS 1 b 0) (hi : IntV aR aS 1 b n) : AgC aR aS 4 1 b := by
  have e : (IE.ev (ri b n 1 4) (.bin .and .u64 (.cv .u64 (.var 4)) (.lit 18446744073709551615)) : Int) = IE.ev (ri b n 1 4) (.sh .shr .u64 (.sh .shl .u64 (.var 3) (.lit 0)) (.lit 0)) := by
    obtain ⟨hb0, hb1, hn, l0, l1⟩ := h
    simp (disch := omega) only [IE.ev, ri, rc_3, rc_4, loI, and_u64_64, shl_u64_0, shr_u64_0, wrap_i64, wrap_u64] <;> omega
  exact ⟨4, IE.ev (ri b n 1 4) (.sh .shr .u64 (.sh .shl .u64 (.var 3) (.lit 0)) (.lit 0)), 0, fun w hG => pair_of (W := wF (FloatKind.nearest .f32 n)) (C := cF (FloatKind.nearest .f32 n)) (ρ := ri b n 1 4) (fun _ h => by cases h) (tk_C1_1 b n h ) (UI_ok (nearest_num n) hc hi) (run_C4_1 _ _ _ aR aS) rfl rfl rfl (vs := [.int .i64 4, agV 1 b]) rfl rfl (tupE 4 0 e) w hG⟩
def L_C8_1 : List CF := []
theorem run_C8_1 : RunE L_C8_1 T_C1_1 (UI 1) [(5, [.v (.int .i64 8), ag0 1], .tuple [.agg [.v (.int .i64 8), .sym (.int .u64 (.sh .shr .u64 (.sh .shl .u64 (.var 3) (.lit 0)) (.lit 0)))], .v (.int .i64 0)]), (6, [.v (.int .i64 8), ag0 1], .tuple [.agg [.v (.int .i64 8), .sym (.int .u64 (.bin .and .u64 (.cv .u64 (.var 4)) (.lit 18446744073709551615)))], .v (.int .i64 0)])] := fun W C ρ aR aS => by unfold runE; kernel_rfl
theorem ag_C8_1 {aR aS : Addr} (b n : Int) (h : HN 1 b n)  (hc : Chk aR aS 1 b 0) (hi : IntV aR aS 1 b n) : AgC aR aS 8 1 b := by
  have e : (IE.ev (ri b n 1 8) (.bin .and .u64 (.cv .u64 (.var 4)) (.lit 18446744073709551615)) : Int) = IE.ev (ri b n 1 8) (.sh .shr .u64 (.sh .shl .u64 (.var 3) (.lit 0)) (.lit 0)) := by
    obtain ⟨hb0, hb1, hn, l0, l1⟩ := h
    simp (disch := omega) only [IE.ev, ri, rc_3, rc_4, loI, and_u64_64, shl_u64_0, shr_u64_0, wrap_i64, wrap_u64] <;> omega
  exact ⟨8, IE.ev (ri b n 1 8) (.sh .shr .u64 (.sh .shl .u64 (.var 3) (.lit 0)) (.lit 0)), 0, fun w hG => pair_of (W := wF (FloatKind.nearest .f32 n)) (C := cF (FloatKind.nearest .f32 n)) (ρ := ri b n 1 8) (fun _ h => by cases h) (tk_C1_1 b n h ) (UI_ok (nearest_num n) hc hi) (run_C8_1 _ _ _ aR aS) rfl rfl rfl (vs := [.int .i64 8, agV 1 b]) rfl rfl (tupE 8 0 e) w hG⟩
def L_C10_1p : List CF := [⟨.lss, (.cv .i64 (.var 2)), .lit 0, false⟩]
theorem ok_C10_1p (b n : Int) (h : HN 1 b n) (_ : 0 ≤ n) : ∀ f ∈ L_C10_1p, f.ok (ri b n 1 10) := by
  obtain ⟨hb0, hb1, hn, l0, l1⟩ := h
  intro f hf
  simp only [L_C10_1p, List.mem_cons, List.not_mem_nil, or_false] at hf
  subst hf
  · exact ⟨rfl, cmp_lss_f (by simp (disch := omega) only [IE.ev, ri, rc_2, hiI_pos, wrap_i64] <;> omega)⟩
theorem run_C10_1p : RunE L_C10_1p T_C10_1p (UI 1) [(5, [.v (.int .i64 10), ag0 1], .tuple [.agg [.v (.int .i64 10), .sym (.int .u64 (.bin .or .u64 (.var 5) (.lit 0)))], .v (.int .i64 0)]), (6, [.v (.int .i64 10), ag0 1], .tuple [.agg [.v (.int .i64 10), .sym (.int .u64 (.var 5))], .v (.int .i64 0)])] := fun W C ρ aR aS => by unfold runE; kernel_rfl
theorem ag_C10_1p {aR aS : Addr} (b n : Int) (h : HN 1 b n) (h0 : 0 ≤ n) (hc : Chk aR aS 1 b 0) (hi : IntV aR aS 1 b n) : AgC aR aS 10 1 b := by
  have e : (IE.ev (ri b n 1 10) (.var 5) : Int) = IE.ev (ri b n 1 10) (.bin .or .u64 (.var 5) (.lit 0)) := by
    obtain ⟨hb0, hb1, hn, l0, l1⟩ := h
    have hw := normW_lt (nearest_num n).1
    have hz0 : ∀ x : Int, 0 ≤ x → x < 18446744073709551616 → binI .or .u64 x 0 = x := or_u64_64
    simp (disch := omega) only [IE.ev, ri, rc_5, hz0] <;> omega
  exact ⟨10, IE.ev (ri b n 1 10) (.bin .or .u64 (.var 5) (.lit 0)), 0, fun w hG => pair_of (W := wF (FloatKind.nearest .f32 n)) (C := cF (FloatKind.nearest .f32 n)) (ρ := ri b n 1 10) (ok_C10_1p b n h h0) (tk_C10_1p b n h h0) (UI_ok (nearest_num n) hc hi) (run_C10_1p _ _ _ aR aS) rfl rfl rfl (vs := [.int .i64 10, agV 1 b]) rfl rfl (tupE 10 0 e) w hG⟩
def L_C4_2 : List CF := []
theorem run_C4_2 : RunE L_C4_2 T_C1_2 (UI 2) [(5, [.v (.int .i64 4), ag0 2], .tuple [.agg [.v (.int .i64 4), .sym (.int .u64 (.sh .shr .u64 (.sh .shl .u64 (.var 3) (.lit 0)) (.lit 0)))], .v (.int .i64 0)]), (6, [.v (.int .i64 4), ag0 2], .tuple [.agg [.v (.int .i64 4), .sym (.int .u64 (.bin .and .u64 (.cv .u64 (.var 4)) (.lit 18446744073709551615)))], .v (.int .i64 0)])] := fun W C ρ aR aS => by unfold runE; kernel_rfl
theorem ag_C4_2 {aR aS : Addr} (b n : Int) (h : HN 2 b n)  (hc : Chk aR aS 2 b 0) (hi : IntV aR aS 2 b n) : AgC aR aS 4 2 b := by
  have e : (IE.ev (ri b n 2 4) (.bin .and .u64 (.cv .u64 (.var 4)) (.lit 18446744073709551615)) : Int) = IE.ev (ri b n 2 4) (.sh .shr .u64 (.sh .shl .u64 (.var 3) (.lit 0)) (.lit 0)) := by
    obtain ⟨hb0, hb1, hn, l0, l1⟩ := h
    simp (disch := omega) only [IE.ev, ri, rc_3, rc_4, loI, and_u64_64, shl_u64_0, shr_u64_0, wrap_i64, wrap_u64] <;> omega
  exact ⟨4, IE.ev (ri b n 2 4) (.sh .shr .u64 (.sh .shl .u64 (.var 3) (.lit 0)) (.lit 0)), 0, fun w hG => pair_of (W := wF (FloatKind.nearest .f32 n)) (C := cF (FloatKind.nearest .f32 n)) (ρ := ri b n 2 4) (fun _ h => by cases h) (tk_C1_2 b n h ) (UI_ok (nearest_num n) hc hi) (run_C4_2 _ _ _ aR aS) rfl rfl rfl (vs := [.int .i64 4, agV 2 b]) rfl rfl (tupE 4 0 e) w hG⟩
def L_C8_2 : List CF := []
theorem run_C8_2 : RunE L_C8_2 T_C1_2 (UI 2) [(5, [.v (.int .i64 8), ag0 2], .tuple [.agg [.v (.int .i64 8), .sym (.int .u64 (.sh .shr .u64 (.sh .shl .u64 (.var 3) (.lit 0)) (.lit 0)))], .v (.int .i64 0)]), (6, [.v (.int .i64 8), ag0 2], .tuple [.agg [.v (.int .i64 8), .sym (.int .u64 (.bin .and .u64 (.cv .u64 (.var 4)) (.lit 18446744073709551615)))], .v (.int .i64 0)])] := fun W C ρ aR aS => by unfold runE; kernel_rfl
theorem ag_C8_2 {aR aS : Addr} (b n : Int) (h : HN 2 b n)  (hc : Chk aR aS 2 b 0) (hi : IntV aR aS 2 b n) : AgC aR aS 8 2 b := by
  have e : (IE.ev (ri b n 2 8) (.bin .and .u64 (.cv .u64 (.var 4)) (.lit 18446744073709551615)) : Int) = IE.ev (ri b n 2 8) (.sh .shr .u64 (.sh .shl .u64 (.var 3) (.lit 0)) (.lit 0)) := by
    obtain ⟨hb0, hb1, hn, l0, l1⟩ := h
    simp (disch := omega) only [IE.ev, ri, rc_3, rc_4, loI, and_u64_64, shl_u64_0, shr_u64_0, wrap_i64, wrap_u64] <;> omega
  exact ⟨8, IE.ev (ri b n 2 8) (.sh .shr .u64 (.sh .shl .u64 (.var 3) (.lit 0)) (.lit 0)), 0, fun w hG => pair_of (W := wF (FloatKind.nearest .f32 n)) (C := cF (FloatKind.nearest .f32 n)) (ρ := ri b n 2 8) (fun _ h => by cases h) (tk_C1_2 b n h ) (UI_ok (nearest_num n) hc hi) (run_C8_2 _ _ _ aR aS) rfl rfl rfl (vs := [.int .i64 8, agV 2 b]) rfl rfl (tupE 8 0 e) w hG⟩
def L_C10_2p : List CF := [⟨.lss, (.cv .i64 (.var 2)), .lit 0, false⟩]
theorem ok_C10_2p (b n : Int) (h : HN 2 b n) (_ : 0 ≤ n) : ∀ f ∈ L_C10_2p, f.ok (ri b n 2 10) := by
  obtain ⟨hb0, hb1, hn, l0, l1⟩ := h
  intro f hf
  simp only [L_C10_2p, List.mem_cons, List.not_mem_nil, or_false] at hf
  subst hf
  · exact ⟨rfl, cmp_lss_f (by simp (disch := omega) only [IE.ev, ri, rc_2, hiI_pos, wrap_i64] <;> omega)⟩
theorem run_C10_2p : RunE L_C10_2p T_C10_2p (UI 2) [(5, [.v (.int .i64 10), ag0 2], .tuple [.agg [.v (.int .i64 10), .sym (.int .u64 (.bin .or .u64 (.var 5) (.lit 0)))], .v (.int .i64 0)]), (6, [.v (.int .i64 10), ag0 2], .tuple [.agg [.v (.int .i64 10), .sym (.int .u64 (.var 5))], .v (.int .i64 0)])] := fun W C ρ aR aS => by unfold runE; kernel_rfl
theorem ag_C10_2p {aR aS : Addr} (b n : Int) (h : HN 2 b n) (h0 : 0 ≤ n) (hc : Chk aR aS 2 b 0) (hi : IntV aR aS 2 b n) : AgC aR aS 10 2 b := by
  have e : (IE.ev (ri b n 2 10) (.var 5) : Int) = IE.ev (ri b n 2 10) (.bin .or .u64 (.var 5) (.lit 0)) := by
    obtain ⟨hb0, hb1, hn, l0, l1⟩ := h
    have hw := normW_lt (nearest_num n).1
    have hz0 : ∀ x : Int, 0 ≤ x → x < 18446744073709551616 → binI .or .u64 x 0 = x := or_u64_64
    simp (disch := omega) only [IE.ev, ri, rc_5, hz0] <;> omega
  exact ⟨10, IE.ev (ri b n 2 10) (.bin .or .u64 (.var 5) (.lit 0)), 0, fun w hG => pair_of (W := wF (FloatKind.nearest .f32 n)) (C := cF (FloatKind.nearest .f32 n)) (ρ := ri b n 2 10) (ok_C10_2p b n h h0) (tk_C10_2p b n h h0) (UI_ok (nearest_num n) hc hi) (run_C10_2p _ _ _ aR aS) rfl rfl rfl (vs := [.int .i64 10, agV 2 b]) rfl rfl (tupE 10 0 e) w hG⟩
def L_C2_3 : List CF := []
theorem run_C2_3 : RunE L_C2_3 T_C1_3 (UI 3) [(5, [.v (.int .i64 2), ag0 3], .tuple [.agg [.v (.int .i64 2), .sym (.int .u64 (.sh .shr .u64 (.sh .shl .u64 (.var 3) (.lit 48)) (.lit 48)))], .v (.int .i64 0)]), (6, [.v (.int .i64 2), ag0 3], .tuple [.agg [.v (.int .i64 2), .sym (.int .u64 (.bin .and .u64 (.cv .u64 (.var 4)) (.lit 65535)))], .v (.int .i64 0)])] := fun W C ρ aR aS => by unfold runE; kernel_rfl
theorem ag_C2_3 {aR aS : Addr} (b n : Int) (h : HN 3 b n)  (hc : Chk aR aS 3 b 0) (hi : IntV aR aS 3 b n) : AgC aR aS 2 3 b := by
  have e : (IE.ev (ri b n 3 2) (.bin .and .u64 (.cv .u64 (.var 4)) (.lit 65535)) : Int) = IE.ev (ri b n 3 2) (.sh .shr .u64 (.sh .shl .u64 (.var 3) (.lit 48)) (.lit 48)) := by
    obtain ⟨hb0, hb1, hn, l0, l1⟩ := h
    simp (disch := omega) only [IE.ev, ri, rc_3, rc_4, loI, and_u64_16, shl_u64_48, shr_u64_48, wrap_i64, wrap_u64] <;> omega
  exact ⟨2, IE.ev (ri b n 3 2) (.sh .shr .u64 (.sh .shl .u64 (.var 3) (.lit 48)) (.lit 48)), 0, fun w hG => pair_of (W := wF (FloatKind.nearest .f32 n)) (C := cF (FloatKind.nearest .f32 n)) (ρ := ri b n 3 2) (fun _ h => by cases h) (tk_C1_3 b n h ) (UI_ok (nearest_num n) hc hi) (run_C2_3 _ _ _ aR aS) rfl rfl rfl (vs := [.int .i64 2, agV 3 b]) rfl rfl (tupE 2 0 e) w hG⟩
def L_C6_3 : List CF := []
theorem run_C6_3 : RunE L_C6_3 T_C1_3 (UI 3) [(5, [.v (.int .i64 6), ag0 3], .tuple [.agg [.v (.int .i64 6), .sym (.int .u64 (.sh .shr .u64 (.sh .shl .u64 (.var 3) (.lit 48)) (.lit 48)))], .v (.int .i64 0)]), (6, [.v (.int .i64 6), ag0 3], .tuple [.agg [.v (.int .i64 6), .sym (.int .u64 (.bin .and .u64 (.cv .u64 (.var 4)) (.lit 65535)))], .v (.int .i64 0)])] := fun W C ρ aR aS => by unfold runE; kernel_rfl
theorem ag_C6_3 {aR aS : Addr} (b n : Int) (h : HN 3 b n)  (hc : Chk aR aS 3 b 0) (hi : IntV aR aS 3 b n) : AgC aR aS 6 3 b := by
  have e : (IE.ev (ri b n 3 6) (.bin .and .u64 (.cv .u64 (.var 4)) (.lit 65535)) : Int) = IE.ev (ri b n 3 6) (.sh .shr .u64 (.sh .shl .u64 (.var 3) (.lit 48)) (.lit 48)) := by
    obtain ⟨hb0, hb1, hn, l0, l1⟩ := h
    simp (disch := omega) only [IE.ev, ri, rc_3, rc_4, loI, and_u64_16, shl_u64_48, shr_u64_48, wrap_i64, wrap_u64] <;> omega
  exact ⟨6, IE.ev (ri b n 3 6) (.sh .shr .u64 (.sh .shl .u64 (.var 3) (.lit 48)) (.lit 48)), 0, fun w hG => pair_of (W := wF (FloatKind.nearest .f32 n)) (C := cF (FloatKind.nearest .f32 n)) (ρ := ri b n 3 6) (fun _ h => by cases h) (tk_C1_3 b n h ) (UI_ok (nearest_num n) hc hi) (run_C6_3 _ _ _ aR aS) rfl rfl rfl (vs := [.int .i64 6, agV 3 b]) rfl rfl (tupE 6 0 e) w hG⟩
def L_C0_3n : List CF := [⟨.neq, .var 0, .lit 0, true⟩]
theorem ok_C0_3n (b n : Int) (h : HN 3 b n) (h0 : b ≠ 0) : ∀ f ∈ L_C0_3n, f.ok (ri b n 3 0) := by
  obtain ⟨hb0, hb1, hn, l0, l1⟩ := h
  intro f hf
  simp only [L_C0_3n, List.mem_cons, List.not_mem_nil, or_false] at hf
  subst hf
  · exact ⟨rfl, cmp_neq_t (by simp (disch := omega) only [IE.ev, ri, rc_0] <;> omega)⟩
theorem run_C0_3n : RunE L_C0_3n [] (UI 3) [(5, [.v (.int .i64 0), ag0 3], .v (.tuple #[.agg #[.int .i64 0, .int .u64 1], .int .i64 0])), (6, [.v (.int .i64 0), ag0 3], .v (.tuple #[.agg #[.int .i64 0, .int .u64 1], .int .i64 0]))] := fun W C ρ aR aS => by unfold runE; kernel_rfl
theorem ag_C0_3n {aR aS : Addr} (b n : Int) (h : HN 3 b n) (h0 : b ≠ 0) (hc : Chk aR aS 3 b 0) (hi : IntV aR aS 3 b n) : AgC aR aS 0 3 b := ⟨0, 1, 0, fun w hG => pair_of (W := wF (FloatKind.nearest .f32 n)) (C := cF (FloatKind.nearest .f32 n)) (ρ := ri b n 3 0) (ok_C0_3n b n h h0) (fun _ h => by cases h) (UI_ok (nearest_num n) hc hi) (run_C0_3n _ _ _ aR aS) rfl rfl rfl (vs := [.int .i64 0, agV 3 b]) rfl rfl rfl w hG⟩
def L_C2_4 : List CF := []
theorem run_C2_4 : RunE L_C2_4 T_C1_4 (UI 4) [(5, [.v (.int .i64 2), ag0 4], .tuple [.agg [.v (.int .i64 2), .sym (.int .u64 (.sh .shr .u64 (.sh .shl .u64 (.var 3) (.lit 48)) (.lit 48)))], .v (.int .i64 0)]), (6, [.v (.int .i64 2), ag0 4], .tuple [.agg [.v (.int .i64 2), .sym (.int .u64 (.bin .and .u64 (.cv .u64 (.var 4)) (.lit 65535)))], .v (.int .i64 0)])] := fun W C ρ aR aS => by unfold runE; kernel_rfl
theorem ag_C2_4 {aR aS : Addr} (b n : Int) (h : HN 4 b n)  (hc : Chk aR aS 4 b 0) (hi : IntV aR aS 4 b n) : AgC aR aS 2 4 b := by
  have e : (IE.ev (ri b n 4 2) (.bin .and .u64 (.cv .u64 (.var 4)) (.lit 65535)) : Int) = IE.ev (ri b n 4 2) (.sh .shr .u64 (.sh .shl .u64 (.var 3) (.lit 48)) (.lit 48)) := by
    obtain ⟨hb0, hb1, hn, l0, l1⟩ := h
    simp (disch := omega) only [IE.ev, ri, rc_3, rc_4, loI, and_u64_16, shl_u64_48, shr_u64_48, wrap_i64, wrap_u64] <;> omega
  exact ⟨2, IE.ev (ri b n 4 2) (.sh .shr .u64 (.sh .shl .u64 (.var 3) (.lit 48)) (.lit 48)), 0, fun w hG => pair_of (W := wF (FloatKind.nearest .f32 n)) (C := cF (FloatKind.nearest .f32 n)) (ρ := ri b n 4 2) (fun _ h => by cases h) (tk_C1_4 b n h ) (UI_ok (nearest_num n) hc hi) (run_C2_4 _ _ _ aR aS) rfl rfl rfl (vs := [.int .i64 2, agV 4 b]) rfl rfl (tupE 2 0 e) w hG⟩
def L_C6_4 : List CF := []
theorem run_C6_4 : RunE L_C6_4 T_C1_4 (UI 4) [(5, [.v (.int .i64 6), ag0 4], .tuple [.agg [.v (.int .i64 6), .sym (.int .u64 (.sh .shr .u64 (.sh .shl .u64 (.var 3) (.lit 48)) (.lit 48)))], .v (.int .i64 0)]), (6, [.v (.int .i64 6), ag0 4], .tuple [.agg [.v (.int .i64 6), .sym (.int .u64 (.bin .and .u64 (.cv .u64 (.var 4)) (.lit 65535)))], .v (.int .i64 0)])] := fun W C ρ aR aS => by unfold runE; kernel_rfl
theorem ag_C6_4 {aR aS : Addr} (b n : Int) (h : HN 4 b n)  (hc : Chk aR aS 4 b 0) (hi : IntV aR aS 4 b n) : AgC aR aS 6 4 b := by
  have e : (IE.ev (ri b n 4 6) (.bin .and .u64 (.cv .u64 (.var 4)) (.lit 65535)) : Int) = IE.ev (ri b n 4 6) (.sh .shr .u64 (.sh .shl .u64 (.var 3) (.lit 48)) (.lit 48)) := by
    obtain ⟨hb0, hb1, hn, l0, l1⟩ := h
    simp (disch := omega) only [IE.ev, ri, rc_3, rc_4, loI, and_u64_16, shl_u64_48, shr_u64_48, wrap_i64, wrap_u64] <;> omega
  exact ⟨6, IE.ev (ri b n 4 6) (.sh .shr .u64 (.sh .shl .u64 (.var 3) (.lit 48)) (.lit 48)), 0, fun w hG => pair_of (W := wF (FloatKind.nearest .f32 n)) (C := cF (FloatKind.nearest .f32 n)) (ρ := ri b n 4 6) (fun _ h => by cases h) (tk_C1_4 b n h ) (UI_ok (nearest_num n) hc hi) (run_C6_4 _ _ _ aR aS) rfl rfl rfl (vs := [.int .i64 6, agV 4 b]) rfl rfl (tupE 6 0 e) w hG⟩
def L_C0_4n : List CF := [⟨.neq, .var 0, .lit 0, true⟩]
theorem ok_C0_4n (b n : Int) (h : HN 4 b n) (h0 : b ≠ 0) : ∀ f ∈ L_C0_4n, f.ok (ri b n 4 0) := by
  obtain ⟨hb0, hb1, hn, l0, l1⟩ := h
  intro f hf
  simp only [L_C0_4n, List.mem_cons, List.not_mem_nil, or_false] at hf
  subst hf
  · exact ⟨rfl, cmp_neq_t (by simp (disch := omega) only [IE.ev, ri, rc_0] <;> omega)⟩
theorem run_C0_4n : RunE L_C0_4n [] (UI 4) [(5, [.v (.int .i64 0), ag0 4], .v (.tuple #[.agg #[.int .i64 0, .int .u64 1], .int .i64 0])), (6, [.v (.int .i64 0), ag0 4], .v (.tuple #[.agg #[.int .i64 0, .int .u64 1], .int .i64 0]))] := fun W C ρ aR aS => by unfold runE; kernel_rfl
theorem ag_C0_4n {aR aS : Addr} (b n : Int) (h : HN 4 b n) (h0 : b ≠ 0) (hc : Chk aR aS 4 b 0) (hi : IntV aR aS 4 b n) : AgC aR aS 0 4 b := ⟨0, 1, 0, fun w hG => pair_of (W := wF (FloatKind.nearest .f32 n)) (C := cF (FloatKind.nearest .f32 n)) (ρ := ri b n 4 0) (ok_C0_4n b n h h0) (fun _ h => by cases h) (UI_ok (nearest_num n) hc hi) (run_C0_4n _ _ _ aR aS) rfl rfl rfl (vs := [.int .i64 0, agV 4 b]) rfl rfl rfl w hG⟩
def L_C4_5 : List CF := []
theorem run_C4_5 : RunE L_C4_5 T_C1_5 (UI 5) [(5, [.v (.int .i64 4), ag0 5], .tuple [.agg [.v (.int .i64 4), .sym (.int .u64 (.sh .shr .u64 (.sh .shl .u64 (.var 3) (.lit 0)) (.lit 0)))], .v (.int .i64 0)]), (6, [.v (.int .i64 4), ag0 5], .tuple [.agg [.v (.int .i64 4), .sym (.int .u64 (.bin .and .u64 (.cv .u64 (.var 4)) (.lit 18446744073709551615)))], .v (.int .i64 0)])] := fun W C ρ aR aS => by unfold runE; kernel_rfl
theorem ag_C4_5 {aR aS : Addr} (b n : Int) (h : HN 5 b n)  (hc : Chk aR aS 5 b 0) (hi : IntV aR aS 5 b n) : AgC aR aS 4 5 b := by
  have e : (IE.ev (ri b n 5 4) (.bin .and .u64 (.cv .u64 (.var 4)) (.lit 18446744073709551615)) : Int) = IE.ev (ri b n 5 4) (.sh .shr .u64 (.sh .shl .u64 (.var 3) (.lit 0)) (.lit 0)) := by
    obtain ⟨hb0, hb1, hn, l0, l1⟩ := h
    simp (disch := omega) only [IE.ev, ri, rc_3, rc_4, loI, and_u64_64, shl_u64_0, shr_u64_0, wrap_i64, wrap_u64] <;> omega
  exact ⟨4, IE.ev (ri b n 5 4) (.sh .shr .u64 (.sh .shl .u64 (.var 3) (.lit 0)) (.lit 0)), 0, fun w hG => pair_of (W := wF (FloatKind.nearest .f32 n)) (C := cF (FloatKind.nearest .f32 n)) (ρ := ri b n 5 4) (fun _ h => by cases h) (tk_C1_5 b n h ) (UI_ok (nearest_num n) hc hi) (run_C4_5 _ _ _ aR aS) rfl rfl rfl (vs := [.int .i64 4, agV 5 b]) rfl rfl (tupE 4 0 e) w hG⟩
def L_C8_5 : List CF := []
theorem run_C8_5 : RunE L_C8_5 T_C1_5 (UI 5) [(5, [.v (.int .i64 8), ag0 5], .tuple [.agg [.v (.int .i64 8), .sym (.int .u64 (.sh .shr .u64 (.sh .shl .u64 (.var 3) (.lit 0)) (.lit 0)))], .v (.int .i64 0)]), (6, [.v (.int .i64 8), ag0 5], .tuple [.agg [.v (.int .i64 8), .sym (.int .u64 (.bin .and .u64 (.cv .u64 (.var 4)) (.lit 18446744073709551615)))], .v (.int .i64 0)])] := fun W C ρ aR aS => by unfold runE; kernel_rfl
theorem ag_C8_5 {aR aS : Addr} (b n : Int) (h : HN 5 b n)  (hc : Chk aR aS 5 b 0) (hi : IntV aR aS 5 b n) : AgC aR aS 8 5 b := by
  have e : (IE.ev (ri b n 5 8) (.bin .and .u64 (.cv .u64 (.var 4)) (.lit 18446744073709551615)) : Int) = IE.ev (ri b n 5 8) (.sh .shr .u64 (.sh .shl .u64 (.var 3) (.lit 0)) (.lit 0)) := by
    obtain ⟨hb0, hb1, hn, l0, l1⟩ := h
    simp (disch := omega) only [IE.ev, ri, rc_3, rc_4, loI, and_u64_64, shl_u64_0, shr_u64_0, wrap_i64, wrap_u64] <;> omega
  exact ⟨8, IE.ev (ri b n 5 8) (.sh .shr .u64 (.sh .shl .u64 (.var 3) (.lit 0)) (.lit 0)), 0, fun w hG => pair_of (W := wF (FloatKind.nearest .f32 n)) (C := cF (FloatKind.nearest .f32 n)) (ρ := ri b n 5 8) (fun _ h => by cases h) (tk_C1_5 b n h ) (UI_ok (nearest_num n) hc hi) (run_C8_5 _ _ _ aR aS) rfl rfl rfl (vs := [.int .i64 8, agV 5 b]) rfl rfl (tupE 8 0 e) w hG⟩
def L_C9_5m : List CF := [⟨.lss, (.cv .i64 (.var 2)), .lit 0, true⟩]
theorem ok_C9_5m (b n : Int) (h : HN 5 b n) (h0 : n < 0) : ∀ f ∈ L_C9_5m, f.ok (ri b n 5 9) := by
  obtain ⟨hb0, hb1, hn, l0, l1⟩ := h
  intro f hf
  simp only [L_C9_5m, List.mem_cons, List.not_mem_nil, or_false] at hf
  subst hf
  · exact ⟨rfl, cmp_lss_t (by simp (disch := omega) only [IE.ev, ri, rc_2, hiI_neg, wrap_i64] <;> omega)⟩
theorem run_C9_5m : RunE L_C9_5m T_C9_5m (UI 5) [(5, [.v (.int .i64 9), ag0 5], .tuple [.agg [.v (.int .i64 9), .sym (.int .u64 (.var 5))], .v (.int .i64 0)]), (6, [.v (.int .i64 9), ag0 5], .tuple [.agg [.v (.int .i64 9), .sym (.int .u64 (.var 5))], .v (.int .i64 0)])] := fun W C ρ aR aS => by unfold runE; kernel_rfl
theorem ag_C9_5m {aR aS : Addr} (b n : Int) (h : HN 5 b n) (h0 : n < 0) (hc : Chk aR aS 5 b 0) (hi : IntV aR aS 5 b n) : AgC aR aS 9 5 b := ⟨9, IE.ev (ri b n 5 9) (.var 5), 0, fun w hG => pair_of (W := wF (FloatKind.nearest .f32 n)) (C := cF (FloatKind.nearest .f32 n)) (ρ := ri b n 5 9) (ok_C9_5m b n h h0) (tk_C9_5m b n h h0) (UI_ok (nearest_num n) hc hi) (run_C9_5m _ _ _ aR aS) rfl rfl rfl (vs := [.int .i64 9, agV 5 b]) rfl rfl rfl w hG⟩
def L_C3_6 : List CF := []
theorem run_C3_6 : RunE L_C3_6 T_C1_6 (UI 6) [(5, [.v (.int .i64 3), ag0 6], .tuple [.agg [.v (.int .i64 3), .sym (.int .u64 (.sh .shr .u64 (.sh .shl .u64 (.var 3) (.lit 32)) (.lit 32)))], .v (.int .i64 0)]), (6, [.v (.int .i64 3), ag0 6], .tuple [.agg [.v (.int .i64 3), .sym (.int .u64 (.bin .and .u64 (.cv .u64 (.var 4)) (.lit 4294967295)))], .v (.int .i64 0)])] := fun W C ρ aR aS => by unfold runE; kernel_rfl
theorem ag_C3_6 {aR aS : Addr} (b n : Int) (h : HN 6 b n)  (hc : Chk aR aS 6 b 0) (hi : IntV aR aS 6 b n) : AgC aR aS 3 6 b := by
  have e : (IE.ev (ri b n 6 3) (.bin .and .u64 (.cv .u64 (.var 4)) (.lit 4294967295)) : Int) = IE.ev (ri b n 6 3) (.sh .shr .u64 (.sh .shl .u64 (.var 3) (.lit 32)) (.lit 32)) := by
    obtain ⟨hb0, hb1, hn, l0, l1⟩ := h
    simp (disch := omega) only [IE.ev, ri, rc_3, rc_4, loI, and_u64_32, shl_u64_32, shr_u64_32, wrap_i64, wrap_u64] <;> omega
  exact ⟨3, IE.ev (ri b n 6 3) (.sh .shr .u64 (.sh .shl .u64 (.var 3) (.lit 32)) (.lit 32)), 0, fun w hG => pair_of (W := wF (FloatKind.nearest .f32 n)) (C := cF (FloatKind.nearest .f32 n)) (ρ := ri b n 6 3) (fun _ h => by cases h) (tk_C1_6 b n h ) (UI_ok (nearest_num n) hc hi) (run_C3_6 _ _ _ aR aS) rfl rfl rfl (vs := [.int .i64 3, agV 6 b]) rfl rfl (tupE 3 0 e) w hG⟩
def L_C7_6 : List CF := []
theorem run_C7_6 : RunE L_C7_6 T_C1_6 (UI 6) [(5, [.v (.int .i64 7), ag0 6], .tuple [.agg [.v (.int .i64 7), .sym (.int .u64 (.sh .shr .u64 (.sh .shl .u64 (.var 3) (.lit 32)) (.lit 32)))], .v (.int .i64 0)]), (6, [.v (.int .i64 7), ag0 6], .tuple [.agg [.v (.int .i64 7), .sym (.int .u64 (.bin .and .u64 (.cv .u64 (.var 4)) (.lit 4294967295)))], .v (.int .i64 0)])] := fun W C ρ aR aS => by unfold runE; kernel_rfl
theorem ag_C7_6 {aR aS : Addr} (b n : Int) (h : HN 6 b n)  (hc : Chk aR aS 6 b 0) (hi : IntV aR aS 6 b n) : AgC aR aS 7 6 b := by
  have e : (IE.ev (ri b n 6 7) (.bin .and .u64 (.cv .u64 (.var 4)) (.lit 4294967295)) : Int) = IE.ev (ri b n 6 7) (.sh .shr .u64 (.sh .shl .u64 (.var 3) (.lit 32)) (.lit 32)) := by
    obtain ⟨hb0, hb1, hn, l0, l1⟩ := h
    simp (disch := omega) only [IE.ev, ri, rc_3, rc_4, loI, and_u64_32, shl_u64_32, shr_u64_32, wrap_i64, wrap_u64] <;> omega
  exact ⟨7, IE.ev (ri b n 6 7) (.sh .shr .u64 (.sh .shl .u64 (.var 3) (.lit 32)) (.lit 32)), 0, fun w hG => pair_of (W := wF (FloatKind.nearest .f32 n)) (C := cF (FloatKind.nearest .f32 n)) (ρ := ri b n 6 7) (fun _ h => by cases h) (tk_C1_6 b n h ) (UI_ok (nearest_num n) hc hi) (run_C7_6 _ _ _ aR aS) rfl rfl rfl (vs := [.int .i64 7, agV 6 b]) rfl rfl (tupE 7 0 e) w hG⟩
def L_C9_6p : List CF := [⟨.lss, (.cv .i64 (.var 2)), .lit 0, false⟩]
theorem ok_C9_6p (b n : Int) (h : HN 6 b n) (h0 : 0 ≤ n) : ∀ f ∈ L_C9_6p, f.ok (ri b n 6 9) := by
  obtain ⟨hb0, hb1, hn, l0, l1⟩ := h
  intro f hf
  simp only [L_C9_6p, List.mem_cons, List.not_mem_nil, or_false] at hf
  subst hf
  · exact ⟨rfl, cmp_lss_f (by simp (disch := omega) only [IE.ev, ri, rc_2, hiI_pos, wrap_i64] <;> omega)⟩
theorem run_C9_6p : RunE L_C9_6p T_C9_6p (UI 6) [(5, [.v (.int .i64 9), ag0 6], .tuple [.agg [.v (.int .i64 9), .sym (.int .u64 (.var 5))], .v (.int .i64 0)]), (6, [.v (.int .i64 9), ag0 6], .tuple [.agg [.v (.int .i64 9), .sym (.int .u64 (.var 5))], .v (.int .i64 0)])] := fun W C ρ aR aS => by unfold runE; kernel_rfl
theorem ag_C9_6p {aR aS : Addr} (b n : Int) (h : HN 6 b n) (h0 : 0 ≤ n) (hc : Chk aR aS 6 b 0) (hi : IntV aR aS 6 b n) : AgC aR aS 9 6 b := ⟨9, IE.ev (ri b n 6 9) (.var 5), 0, fun w hG => pair_of (W := wF (FloatKind.nearest .f32 n)) (C := cF (FloatKind.nearest .f32 n)) (ρ := ri b n 6 9) (ok_C9_6p b n h h0) (tk_C9_6p b n h h0) (UI_ok (nearest_num n) hc hi) (run_C9_6p _ _ _ aR aS) rfl rfl rfl (vs := [.int .i64 9, agV 6 b]) rfl rfl rfl w hG⟩
def L_C3_7 : List CF := []
theorem run_C3_7 : RunE L_C3_7 T_C1_7 (UI 7) [(5, [.v (.int .i64 3), ag0 7], .tuple [.agg [.v (.int .i64 3), .sym (.int .u64 (.sh .shr .u64 (.sh .shl .u64 (.var 3) (.lit 32)) (.lit 32)))], .v (.int .i64 0)]), (6, [.v (.int .i64 3), ag0 7], .tuple [.agg [.v (.int .i64 3), .sym (.int .u64 (.bin .and .u64 (.cv .u64 (.var 4)) (.lit 4294967295)))], .v (.int .i64 0)])] := fun W C ρ aR aS => by unfold runE; kernel_rfl
theorem ag_C3_7 {aR aS : Addr} (b n : Int) (h : HN 7 b n)  (hc : Chk aR aS 7 b 0) (hi : IntV aR aS 7 b n) : AgC aR aS 3 7 b := by
  have e : (IE.ev (ri b n 7 3) (.bin .and .u64 (.cv .u64 (.var 4)) (.lit 4294967295)) : Int) = IE.ev (ri b n 7 3) (.sh .shr .u64 (.sh .shl .u64 (.var 3) (.lit 32)) (.lit 32)) := by
    obtain ⟨hb0, hb1, hn, l0, l1⟩ := h
    simp (disch := omega) only [IE.ev, ri, rc_3, rc_4, loI, and_u64_32, shl_u64_32, shr_u64_32, wrap_i64, wrap_u64] <;> omega
  exact ⟨3, IE.ev (ri b n 7 3) (.sh .shr .u64 (.sh .shl .u64 (.var 3) (.lit 32)) (.lit 32)), 0, fun w hG => pair_of (W := wF (FloatKind.nearest .f32 n)) (C := cF (FloatKind.nearest .f32 n)) (ρ := ri b n 7 3) (fun _ h => by cases h) (tk_C1_7 b n h ) (UI_ok (nearest_num n) hc hi) (run_C3_7 _ _ _ aR aS) rfl rfl rfl (vs := [.int .i64 3, agV 7 b]) rfl rfl (tupE 3 0 e) w hG⟩
def L_C7_7 : List CF := []
theorem run_C7_7 : RunE L_C7_7 T_C1_7 (UI 7) [(5, [.v (.int .i64 7), ag0 7], .tuple [.agg [.v (.int .i64 7), .sym (.int .u64 (.var 0))], .v (.int .i64 0)]), (6, [.v (.int .i64 7), ag0 7], .tuple [.agg [.v (.int .i64 7), .sym (.int .u64 (.bin .and .u64 (.cv .u64 (.var 4)) (.lit 4294967295)))], .v (.int .i64 0)])] := fun W C ρ aR aS => by unfold runE; kernel_rfl
theorem ag_C7_7 {aR aS : Addr} (b n : Int) (h : HN 7 b n)  (hc : Chk aR aS 7 b 0) (hi : IntV aR aS 7 b n) : AgC aR aS 7 7 b := by
  have e : (IE.ev (ri b n 7 7) (.bin .and .u64 (.cv .u64 (.var 4)) (.lit 4294967295)) : Int) = IE.ev (ri b n 7 7) (.var 0) := by
    obtain ⟨hb0, hb1, hn, l0, l1⟩ := h
    simp (disch := omega) only [IE.ev, ri, rc_0, rc_4, and_u64_32, wrap_i64, wrap_u64] <;> omega
  exact ⟨7, IE.ev (ri b n 7 7) (.var 0), 0, fun w hG => pair_of (W := wF (FloatKind.nearest .f32 n)) (C := cF (FloatKind.nearest .f32 n)) (ρ := ri b n 7 7) (fun _ h => by cases h) (tk_C1_7 b n h ) (UI_ok (nearest_num n) hc hi) (run_C7_7 _ _ _ aR aS) rfl rfl rfl (vs := [.int .i64 7, agV 7 b]) rfl rfl (tupE 7 0 e) w hG⟩
def L_C9_7p : List CF := [⟨.lss, (.cv .i64 (.var 2)), .lit 0, false⟩]
theorem ok_C9_7p (b n : Int) (h : HN 7 b n) (h0 : 0 ≤ n) : ∀ f ∈ L_C9_7p, f.ok (ri b n 7 9) := by
  obtain ⟨hb0, hb1, hn, l0, l1⟩ := h
  intro f hf
  simp only [L_C9_7p, List.mem_cons, List.not_mem_nil, or_false] at hf
  subst hf
  · exact ⟨rfl, cmp_lss_f (by simp (disch := omega) only [IE.ev, ri, rc_2, hiI_pos, wrap_i64] <;> omega)⟩
theorem run_C9_7p : RunE L_C9_7p T_C9_7p (UI 7) [(5, [.v (.int .i64 9), ag0 7], .tuple [.agg [.v (.int .i64 9), .sym (.int .u64 (.var 5))], .v (.int .i64 0)]), (6, [.v (.int .i64 9), ag0 7], .tuple [.agg [.v (.int .i64 9), .sym (.int .u64 (.var 5))], .v (.int .i64 0)])] := fun W C ρ aR aS => by unfold runE; kernel_rfl
theorem ag_C9_7p {aR aS : Addr} (b n : Int) (h : HN 7 b n) (h0 : 0 ≤ n) (hc : Chk aR aS 7 b 0) (hi : IntV aR aS 7 b n) : AgC aR aS 9 7 b := ⟨9, IE.ev (ri b n 7 9) (.var 5), 0, fun w hG => pair_of (W := wF (FloatKind.nearest .f32 n)) (C := cF (FloatKind.nearest .f32 n)) (ρ := ri b n 7 9) (ok_C9_7p b n h h0) (tk_C9_7p b n h h0) (UI_ok (nearest_num n) hc hi) (run_C9_7p _ _ _ aR aS) rfl rfl rfl (vs := [.int .i64 9, agV 7 b]) rfl rfl rfl w hG⟩
def L_C4_8 : List CF := []
theorem run_C4_8 : RunE L_C4_8 T_C1_8 (UI 8) [(5, [.v (.int .i64 4), ag0 8], .tuple [.agg [.v (.int .i64 4), .sym (.int .u64 (.sh .shr .u64 (.sh .shl .u64 (.var 3) (.lit 0)) (.lit 0)))], .v (.int .i64 0)]), (6, [.v (.int .i64 4), ag0 8], .tuple [.agg [.v (.int .i64 4), .sym (.int .u64 (.bin .and .u64 (.cv .u64 (.var 4)) (.lit 18446744073709551615)))], .v (.int .i64 0)])] := fun W C ρ aR aS => by unfold runE; kernel_rfl
theorem ag_C4_8 {aR aS : Addr} (b n : Int) (h : HN 8 b n)  (hc : Chk aR aS 8 b 0) (hi : IntV aR aS 8 b n) : AgC aR aS 4 8 b := by
  have e : (IE.ev (ri b n 8 4) (.bin .and .u64 (.cv .u64 (.var 4)) (.lit 18446744073709551615)) : Int) = IE.ev (ri b n 8 4) (.sh .shr .u64 (.sh .shl .u64 (.var 3) (.lit 0)) (.lit 0)) := by
    obtain ⟨hb0, hb1, hn, l0, l1⟩ := h
    simp (disch := omega) only [IE.ev, ri, rc_3, rc_4, loI, and_u64_64, shl_u64_0, shr_u64_0, wrap_i64, wrap_u64] <;> omega
  exact ⟨4, IE.ev (ri b n 8 4) (.sh .shr .u64 (.sh .shl .u64 (.var 3) (.lit 0)) (.lit 0)), 0, fun w hG => pair_of (W := wF (FloatKind.nearest .f32 n)) (C := cF (FloatKind.nearest .f32 n)) (ρ := ri b n 8 4) (fun _ h => by cases h) (tk_C1_8 b n h ) (UI_ok (nearest_num n) hc hi) (run_C4_8 _ _ _ aR aS) rfl rfl rfl (vs := [.int .i64 4, agV 8 b]) rfl rfl (tupE 4 0 e) w hG⟩
def L_C8_8 : List CF := []
theorem run_C8_8 : RunE L_C8_8 T_C1_8 (UI 8) [(5, [.v (.int .i64 8), ag0 8], .tuple [.agg [.v (.int .i64 8), .sym (.int .u64 (.var 0))], .v (.int .i64 0)]), (6, [.v (.int .i64 8), ag0 8], .tuple [.agg [.v (.int .i64 8), .sym (.int .u64 (.bin .and .u64 (.cv .u64 (.var 4)) (.lit 18446744073709551615)))], .v (.int .i64 0)])] := fun W C ρ aR aS => by unfold runE; kernel_rfl
theorem ag_C8_8 {aR aS : Addr} (b n : Int) (h : HN 8 b n)  (hc : Chk aR aS 8 b 0) (hi : IntV aR aS 8 b n) : AgC aR aS 8 8 b := by
  have e : (IE.ev (ri b n 8 8) (.bin .and .u64 (.cv .u64 (.var 4)) (.lit 18446744073709551615)) : Int) = IE.ev (ri b n 8 8) (.var 0) := by
    obtain ⟨hb0, hb1, hn, l0, l1⟩ := h
    simp (disch := omega) only [IE.ev, ri, rc_0, rc_4, and_u64_64, wrap_i64, wrap_u64] <;> omega
  exact ⟨8, IE.ev (ri b n 8 8) (.var 0), 0, fun w hG => pair_of (W := wF (FloatKind.nearest .f32 n)) (C := cF (FloatKind.nearest .f32 n)) (ρ := ri b n 8 8) (fun _ h => by cases h) (tk_C1_8 b n h ) (UI_ok (nearest_num n) hc hi) (run_C8_8 _ _ _ aR aS) rfl rfl rfl (vs := [.int .i64 8, agV 8 b]) rfl rfl (tupE 8 0 e) w hG⟩
def L_C9_8m : List CF := [⟨.lss, (.cv .i64 (.var 2)), .lit 0, true⟩]
theorem ok_C9_8m (b n : Int) (h : HN 8 b n) (h0 : n < 0) : ∀ f ∈ L_C9_8m, f.ok (ri b n 8 9) := by
  obtain ⟨hb0, hb1, hn, l0, l1⟩ := h
  intro f hf
  simp only [L_C9_8m, List.mem_cons, List.not_mem_nil, or_false] at hf
  subst hf
  · exact ⟨rfl, cmp_lss_t (by simp (disch := omega) only [IE.ev, ri, rc_2, hiI_neg, wrap_i64] <;> omega)⟩
theorem run_C9_8m : RunE L_C9_8m T_C9_8m (UI 8) [(5, [.v (.int .i64 9), ag0 8], .tuple [.agg [.v (.int .i64 9), .sym (.int .u64 (.var 5))], .v (.int .i64 0)]), (6, [.v (.int .i64 9), ag0 8], .tuple [.agg [.v (.int .i64 9), .sym (.int .u64 (.var 5))], .v (.int .i64 0)])] := fun W C ρ aR aS => by unfold runE; kernel_rfl
theorem ag_C9_8m {aR aS : Addr} (b n : Int) (h : HN 8 b n) (h0 : n < 0) (hc : Chk aR aS 8 b 0) (hi : IntV aR aS 8 b n) : AgC aR aS 9 8 b := ⟨9, IE.ev (ri b n 8 9) (.var 5), 0, fun w hG => pair_of (W := wF (FloatKind.nearest .f32 n)) (C := cF (FloatKind.nearest .f32 n)) (ρ := ri b n 8 9) (ok_C9_8m b n h h0) (tk_C9_8m b n h h0) (UI_ok (nearest_num n) hc hi) (run_C9_8m _ _ _ aR aS) rfl rfl rfl (vs := [.int .i64 9, agV 8 b]) rfl rfl rfl w hG⟩
def L_C1_9ib : List CF := []
theorem run_C1_9ib : RunE L_C1_9ib T_C1_9ib UF [(5, [.v (.int .i64 1), ag0 9], .tuple [.agg [.v (.int .i64 1), .sym (.int .u64 (.sh .shr .u64 (.sh .shl .u64 (.var 8) (.lit 56)) (.lit 56)))], .v (.int .i64 0)]), (6, [.v (.int .i64 1), ag0 9], .v (.tuple #[.agg #[.int .i64 1, .int .u64 0], .int .i64 0]))] := fun W C ρ aR aS => by unfold runE; kernel_rfl
theorem ag_C1_9ib {aR aS : Addr} (F : Nat) (h : HF F) (h0 : tB F = 0) (h1 : keyB F ≤ 0) (hc : Chk aR aS 9 F 0) : AgC aR aS 1 9 (F : Int) := by
  have e : (0 : Int) = IE.ev (rf F 1) (.sh .shr .u64 (.sh .shl .u64 (.var 8) (.lit 56)) (.lit 56)) := by
    obtain ⟨hF, hr, hz⟩ := h
    simp (disch := omega) only [IE.ev, rf, rc_8, shl_u64_56, shr_u64_56, wrap_u64] <;> omega
  exact ⟨1, IE.ev (rf F 1) (.sh .shr .u64 (.sh .shl .u64 (.var 8) (.lit 56)) (.lit 56)), 0, fun w hG => pair_of (W := wF F) (C := cF F) (ρ := rf F 1) (fun _ h => by cases h) (tk_C1_9ib F h h0 h1) (UF_ok h.1 h.2.1 h.2.2 hc) (run_C1_9ib _ _ _ aR aS) rfl rfl rfl (vs := [.int .i64 1, agV 9 (F : Int)]) rfl rfl (tupE 1 0 e) w hG⟩
def L_C2_9bb : List CF := []
theorem run_C2_9bb : RunE L_C2_9bb T_C1_9bb UF [(5, [.v (.int .i64 2), ag0 9], .v (.tuple #[.agg #[.int .i64 2, .int .u64 0], .int .i64 0])), (6, [.v (.int .i64 2), ag0 9], .v (.tuple #[.agg #[.int .i64 2, .int .u64 0], .int .i64 0]))] := fun W C ρ aR aS => by unfold runE; kernel_rfl
theorem ag_C2_9bb {aR aS : Addr} (F : Nat) (h : HF F) (h0 : tB F < 0) (h1 : keyB F ≤ 0) (hc : Chk aR aS 9 F 0) : AgC aR aS 2 9 (F : Int) := ⟨2, 0, 0, fun w hG => pair_of (W := wF F) (C := cF F) (ρ := rf F 2) (fun _ h => by cases h) (tk_C1_9bb F h h0 h1) (UF_ok h.1 h.2.1 h.2.2 hc) (run_C2_9bb _ _ _ aR aS) rfl rfl rfl (vs := [.int .i64 2, agV 9 (F : Int)]) rfl rfl rfl w hG⟩
def L_C2_9aa : List CF := []
theorem run_C2_9aa : RunE L_C2_9aa T_C2_9aa UF [(5, [.v (.int .i64 2), ag0 9], .v (.tuple #[.agg #[.int .i64 2, .int .u64 65535], .int .i64 0])), (6, [.v (.int .i64 2), ag0 9], .v (.tuple #[.agg #[.int .i64 2, .int .u64 65535], .int .i64 0]))] := fun W C ρ aR aS => by unfold runE; kernel_rfl
theorem ag_C2_9aa {aR aS : Addr} (F : Nat) (h : HF F) (h0 : 65536 ≤ tB F) (h1 : 1199570688 ≤ keyB F) (hc : Chk aR aS 9 F 0) : AgC aR aS 2 9 (F : Int) := ⟨2, 65535, 0, fun w hG => pair_of (W := wF F) (C := cF F) (ρ := rf F 2) (fun _ h => by cases h) (tk_C2_9aa F h h0 h1) (UF_ok h.1 h.2.1 h.2.2 hc) (run_C2_9aa _ _ _ aR aS) rfl rfl rfl (vs := [.int .i64 2, agV 9 (F : Int)]) rfl rfl rfl w hG⟩
def L_C3_9aa : List CF := []
theorem run_C3_9aa : RunE L_C3_9aa T_C3_9aa UF [(5, [.v (.int .i64 3), ag0 9], .v (.tuple #[.agg #[.int .i64 3, .int .u64 4294967295], .int .i64 0])), (6, [.v (.int .i64 3), ag0 9], .v (.tuple #[.agg #[.int .i64 3, .int .u64 4294967295], .int .i64 0]))] := fun W C ρ aR aS => by unfold runE; kernel_rfl
theorem ag_C3_9aa {aR aS : Addr} (F : Nat) (h : HF F) (h0 : 4294967296 ≤ tB F) (h1 : 1333788672 ≤ keyB F) (hc : Chk aR aS 9 F 0) : AgC aR aS 3 9 (F : Int) := ⟨3, 4294967295, 0, fun w hG => pair_of (W := wF F) (C := cF F) (ρ := rf F 3) (fun _ h => by cases h) (tk_C3_9aa F h h0 h1) (UF_ok h.1 h.2.1 h.2.2 hc) (run_C3_9aa _ _ _ aR aS) rfl rfl rfl (vs := [.int .i64 3, agV 9 (F : Int)]) rfl rfl rfl w hG⟩
def L_C4_9aa : List CF := []
theorem run_C4_9aa : RunE L_C4_9aa T_C4_9aa UF [(5, [.v (.int .i64 4), ag0 9], .v (.tuple #[.agg #[.int .i64 4, .int .u64 18446744073709551615], .int .i64 0])), (6, [.v (.int .i64 4), ag0 9], .v (.tuple #[.agg #[.int .i64 4, .int .u64 18446744073709551615], .int .i64 0]))] := fun W C ρ aR aS => by unfold runE; kernel_rfl
theorem ag_C4_9aa {aR aS : Addr} (F : Nat) (h : HF F) (h0 : 18446744073709551616 ≤ tB F) (h1 : 1602224128 ≤ keyB F) (hc : Chk aR aS 9 F 0) : AgC aR aS 4 9 (F : Int) := ⟨4, 18446744073709551615, 0, fun w hG => pair_of (W := wF F) (C := cF F) (ρ := rf F 4) (fun _ h => by cases h) (tk_C4_9aa F h h0 h1) (UF_ok h.1 h.2.1 h.2.2 hc) (run_C4_9aa _ _ _ aR aS) rfl rfl rfl (vs := [.int .i64 4, agV 9 (F : Int)]) rfl rfl rfl w hG⟩
def L_C5_9ia : List CF := []
theorem run_C5_9ia : RunE L_C5_9ia T_C5_9ia UF [(5, [.v (.int .i64 5), ag0 9], .tuple [.agg [.v (.int .i64 5), .sym (.int .u64 (.sh .shr .u64 (.sh .shl .u64 (.cv .u64 (.var 8)) (.lit 56)) (.lit 56)))], .v (.int .i64 0)]), (6, [.v (.int .i64 5), ag0 9], .v (.tuple #[.agg #[.int .i64 5, .int .u64 127], .int .i64 0]))] := fun W C ρ aR aS => by unfold runE; kernel_rfl
theorem ag_C5_9ia {aR aS : Addr} (F : Nat) (h : HF F) (h0 : tB F = 127) (h1 : -1124073472 < keyB F) (h2 : 1123942400 ≤ keyB F) (hc : Chk aR aS 9 F 0) : AgC aR aS 5 9 (F : Int) := by
  have e : (127 : Int) = IE.ev (rf F 5) (.sh .shr .u64 (.sh .shl .u64 (.cv .u64 (.var 8)) (.lit 56)) (.lit 56)) := by
    obtain ⟨hF, hr, hz⟩ := h
    simp (disch := omega) only [IE.ev, rf, rc_8, shl_u64_56, shr_u64_56, wrap_u64] <;> omega
  exact ⟨5, IE.ev (rf F 5) (.sh .shr .u64 (.sh .shl .u64 (.cv .u64 (.var 8)) (.lit 56)) (.lit 56)), 0, fun w hG => pair_of (W := wF F) (C := cF F) (ρ := rf F 5) (fun _ h => by cases h) (tk_C5_9ia F h h0 h1 h2) (UF_ok h.1 h.2.1 h.2.2 hc) (run_C5_9ia _ _ _ aR aS) rfl rfl rfl (vs := [.int .i64 5, agV 9 (F : Int)]) rfl rfl (tupE 5 0 e) w hG⟩
def L_C6_9ii : List CF := []
theorem run_C6_9ii : RunE L_C6_9ii T_C6_9ii UF [(5, [.v (.int .i64 6), ag0 9], .tuple [.agg [.v (.int .i64 6), .sym (.int .u64 (.sh .shr .u64 (.sh .shl .u64 (.cv .u64 (.var 8)) (.lit 48)) (.lit 48)))], .v (.int .i64 0)]), (6, [.v (.int .i64 6), ag0 9], .tuple [.agg [.v (.int .i64 6), .sym (.int .u64 (.bin .and .u64 (.cv .u64 (.var 8)) (.lit 65535)))], .v (.int .i64 0)])] := fun W C ρ aR aS => by unfold runE; kernel_rfl
theorem ag_C6_9ii {aR aS : Addr} (F : Nat) (h : HF F) (h0 : -32768 ≤ tB F) (h1 : tB F < 32768) (h2 : -1191182336 < keyB F) (h3 : keyB F < 1191181824) (hc : Chk aR aS 9 F 0) : AgC aR aS 6 9 (F : Int) := by
  have e : (IE.ev (rf F 6) (.bin .and .u64 (.cv .u64 (.var 8)) (.lit 65535)) : Int) = IE.ev (rf F 6) (.sh .shr .u64 (.sh .shl .u64 (.cv .u64 (.var 8)) (.lit 48)) (.lit 48)) := by
    obtain ⟨hF, hr, hz⟩ := h
    simp (disch := omega) only [IE.ev, rf, rc_8, and_u64_16, shl_u64_48, shr_u64_48, wrap_u64] <;> omega
  exact ⟨6, IE.ev (rf F 6) (.sh .shr .u64 (.sh .shl .u64 (.cv .u64 (.var 8)) (.lit 48)) (.lit 48)), 0, fun w hG => pair_of (W := wF F) (C := cF F) (ρ := rf F 6) (fun _ h => by cases h) (tk_C6_9ii F h h0 h1 h2 h3) (UF_ok h.1 h.2.1 h.2.2 hc) (run_C6_9ii _ _ _ aR aS) rfl rfl rfl (vs := [.int .i64 6, agV 9 (F : Int)]) rfl rfl (tupE 6 0 e) w hG⟩
def L_C7_9ib : List CF := []
theorem run_C7_9ib : RunE L_C7_9ib T_C7_9ib UF [(5, [.v (.int .i64 7), ag0 9], .tuple [.agg [.v (.int .i64 7), .sym (.int .u64 (.sh .shr .u64 (.sh .shl .u64 (.cv .u64 (.var 8)) (.lit 32)) (.lit 32)))], .v (.int .i64 0)]), (6, [.v (.int .i64 7), ag0 9], .v (.tuple #[.agg #[.int .i64 7, .int .u64 2147483648], .int .i64 0]))] := fun W C ρ aR aS => by unfold runE; kernel_rfl
theorem ag_C7_9ib {aR aS : Addr} (F : Nat) (h : HF F) (h0 : tB F = (-2147483648)) (h1 : keyB F ≤ -1325400064) (hc : Chk aR aS 9 F 0) : AgC aR aS 7 9 (F : Int) := by
  have e : (2147483648 : Int) = IE.ev (rf F 7) (.sh .shr .u64 (.sh .shl .u64 (.cv .u64 (.var 8)) (.lit 32)) (.lit 32)) := by
    obtain ⟨hF, hr, hz⟩ := h
    simp (disch := omega) only [IE.ev, rf, rc_8, shl_u64_32, shr_u64_32, wrap_u64] <;> omega
  exact ⟨7, IE.ev (rf F 7) (.sh .shr .u64 (.sh .shl .u64 (.cv .u64 (.var 8)) (.lit 32)) (.lit 32)), 0, fun w hG => pair_of (W := wF F) (C := cF F) (ρ := rf F 7) (fun _ h => by cases h) (tk_C7_9ib F h h0 h1) (UF_ok h.1 h.2.1 h.2.2 hc) (run_C7_9ib _ _ _ aR aS) rfl rfl rfl (vs := [.int .i64 7, agV 9 (F : Int)]) rfl rfl (tupE 7 0 e) w hG⟩
def L_C8_9ib : List CF := []
theorem run_C8_9ib : RunE L_C8_9ib T_C8_9ib UF [(5, [.v (.int .i64 8), ag0 9], .tuple [.agg [.v (.int .i64 8), .sym (.int .u64 (.sh .shr .u64 (.sh .shl .u64 (.cv .u64 (.var 8)) (.lit 0)) (.lit 0)))], .v (.int .i64 0)]), (6, [.v (.int .i64 8), ag0 9], .v (.tuple #[.agg #[.int .i64 8, .int .u64 9223372036854775808], .int .i64 0]))] := fun W C ρ aR aS => by unfold runE; kernel_rfl
theorem ag_C8_9ib {aR aS : Addr} (F : Nat) (h : HF F) (h0 : tB F = (-9223372036854775808)) (h1 : keyB F ≤ -1593835520) (hc : Chk aR aS 9 F 0) : AgC aR aS 8 9 (F : Int) := by
  have e : (9223372036854775808 : Int) = IE.ev (rf F 8) (.sh .shr .u64 (.sh .shl .u64 (.cv .u64 (.var 8)) (.lit 0)) (.lit 0)) := by
    obtain ⟨hF, hr, hz⟩ := h
    simp (disch := omega) only [IE.ev, rf, rc_8, shl_u64_0, shr_u64_0, wrap_u64] <;> omega
  exact ⟨8, IE.ev (rf F 8) (.sh .shr .u64 (.sh .shl .u64 (.cv .u64 (.var 8)) (.lit 0)) (.lit 0)), 0, fun w hG => pair_of (W := wF F) (C := cF F) (ρ := rf F 8) (fun _ h => by cases h) (tk_C8_9ib F h h0 h1) (UF_ok h.1 h.2.1 h.2.2 hc) (run_C8_9ib _ _ _ aR aS) rfl rfl rfl (vs := [.int .i64 8, agV 9 (F : Int)]) rfl rfl (tupE 8 0 e) w hG⟩
def L_C0_9n : List CF := [⟨.neq, .var 0, .lit 0, true⟩]
theorem ok_C0_9n (F : Nat) (h : HF F) (h0 : F ≠ 0) : ∀ f ∈ L_C0_9n, f.ok (rf F 0) := by
  obtain ⟨hF, hr, hz⟩ := h
  intro f hf
  simp only [L_C0_9n, List.mem_cons, List.not_mem_nil, or_false] at hf
  subst hf
  · exact ⟨rfl, cmp_neq_t (by simp (disch := omega) only [IE.ev, rf, rc_0] <;> omega)⟩
theorem run_C0_9n : RunE L_C0_9n [] UF [(5, [.v (.int .i64 0), ag0 9], .v (.tuple #[.agg #[.int .i64 0, .int .u64 1], .int .i64 0])), (6, [.v (.int .i64 0), ag0 9], .v (.tuple #[.agg #[.int .i64 0, .int .u64 1], .int .i64 0]))] := fun W C ρ aR aS => by unfold runE; kernel_rfl
theorem ag_C0_9n {aR aS : Addr} (F : Nat) (h : HF F) (h0 : F ≠ 0) (hc : Chk aR aS 9 F 0) : AgC aR aS 0 9 (F : Int) := ⟨0, 1, 0, fun w hG => pair_of (W := wF F) (C := cF F) (ρ := rf F 0) (ok_C0_9n F h h0) (fun _ h => by cases h) (UF_ok h.1 h.2.1 h.2.2 hc) (run_C0_9n _ _ _ aR aS) rfl rfl rfl (vs := [.int .i64 0, agV 9 (F : Int)]) rfl rfl rfl w hG⟩
def L_C1_10 : List CF := []
theorem run_C1_10 : RunE L_C1_10 [] (UC 10) [(5, [.v (.int .i64 1), ag0 10], .v (.tuple #[.agg #[.int .i64 0, .int .u64 0], .int .i64 12])), (6, [.v (.int .i64 1), ag0 10], .v (.tuple #[.agg #[.int .i64 0, .int .u64 0], .int .i64 12]))] := fun W C ρ aR aS => by unfold runE; kernel_rfl
theorem ag_C1_10 {aR aS : Addr} (b : Int) (hc : Chk aR aS 10 b 0) : AgC aR aS 1 10 b := ⟨0, 0, 12, fun w hG => pair_of (W := wF 0) (C := cF 0) (ρ := rc b 0 0 0 10 1 0) (fun _ h => by cases h) (fun _ h => by cases h) (UC_ok hc) (run_C1_10 _ _ _ aR aS) rfl rfl rfl (vs := [.int .i64 1, agV 10 b]) rfl rfl rfl w hG⟩
def L_C3_10 : List CF := []
theorem run_C3_10 : RunE L_C3_10 [] (UC 10) [(5, [.v (.int .i64 3), ag0 10], .v (.tuple #[.agg #[.int .i64 0, .int .u64 0], .int .i64 12])), (6, [.v (.int .i64 3), ag0 10], .v (.tuple #[.agg #[.int .i64 0, .int .u64 0], .int .i64 12]))] := fun W C ρ aR aS => by unfold runE; kernel_rfl
theorem ag_C3_10 {aR aS : Addr} (b : Int) (hc : Chk aR aS 10 b 0) : AgC aR aS 3 10 b := ⟨0, 0, 12, fun w hG => pair_of (W := wF 0) (C := cF 0) (ρ := rc b 0 0 0 10 3 0) (fun _ h => by cases h) (fun _ h => by cases h) (UC_ok hc) (run_C3_10 _ _ _ aR aS) rfl rfl rfl (vs := [.int .i64 3, agV 10 b]) rfl rfl rfl w hG⟩
def L_C5_10 : List CF := []
theorem run_C5_10 : RunE L_C5_10 [] (UC 10) [(5, [.v (.int .i64 5), ag0 10], .v (.tuple #[.agg #[.int .i64 0, .int .u64 0], .int .i64 12])), (6, [.v (.int .i64 5), ag0 10], .v (.tuple #[.agg #[.int .i64 0, .int .u64 0], .int .i64 12]))] := fun W C ρ aR aS => by unfold runE; kernel_rfl
theorem ag_C5_10 {aR aS : Addr} (b : Int) (hc : Chk aR aS 10 b 0) : AgC aR aS 5 10 b := ⟨0, 0, 12, fun w hG => pair_of (W := wF 0) (C := cF 0) (ρ := rc b 0 0 0 10 5 0) (fun _ h => by cases h) (fun _ h => by cases h) (UC_ok hc) (run_C5_10 _ _ _ aR aS) rfl rfl rfl (vs := [.int .i64 5, agV 10 b]) rfl rfl rfl w hG⟩
def L_C7_10 : List CF := []
theorem run_C7_10 : RunE L_C7_10 [] (UC 10) [(5, [.v (.int .i64 7), ag0 10], .v (.tuple #[.agg #[.int .i64 0, .int .u64 0], .int .i64 12])), (6, [.v (.int .i64 7), ag0 10], .v (.tuple #[.agg #[.int .i64 0, .int .u64 0], .int .i64 12]))] := fun W C ρ aR aS => by unfold runE; kernel_rfl
theorem ag_C7_10 {aR aS : Addr} (b : Int) (hc : Chk aR aS 10 b 0) : AgC aR aS 7 10 b := ⟨0, 0, 12, fun w hG => pair_of (W := wF 0) (C := cF 0) (ρ := rc b 0 0 0 10 7 0) (fun _ h => by cases h) (fun _ h => by cases h) (UC_ok hc) (run_C7_10 _ _ _ aR aS) rfl rfl rfl (vs := [.int .i64 7, agV 10 b]) rfl rfl rfl w hG⟩
def L_C9_10 : List CF := []
theorem run_C9_10 : RunE L_C9_10 [] (UC 10) [(5, [.v (.int .i64 9), ag0 10], .v (.tuple #[.agg #[.int .i64 0, .int .u64 0], .int .i64 12])), (6, [.v (.int .i64 9), ag0 10], .v (.tuple #[.agg #[.int .i64 0, .int .u64 0], .int .i64 12]))] := fun W C ρ aR aS => by unfold runE; kernel_rfl
theorem ag_C9_10 {aR aS : Addr} (b : Int) (hc : Chk aR aS 10 b 0) : AgC aR aS 9 10 b := ⟨0, 0, 12, fun w hG => pair_of (W := wF 0) (C := cF 0) (ρ := rc b 0 0 0 10 9 0) (fun _ h => by cases h) (fun _ h => by cases h) (UC_ok hc) (run_C9_10 _ _ _ aR aS) rfl rfl rfl (vs := [.int .i64 9, agV 10 b]) rfl rfl rfl w hG⟩
end
end Go.Proofs.YtbhhdjlmbmeiaaaGreatDoor
