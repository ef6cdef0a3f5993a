import Derived.Test.YtbhhdjlmbmeiaaaGreatDoorHT
namespace Go.Proofs.YtbhhdjlmbmeiaaaGreatDoor
noncomputable section
open Go Go.RX
open Go.RowKit (Below)
set_option maxRecDepth 1000000
set_option maxHeartbeats 4000000
def L_C4_0 : List CF := []
theorem run_C4_0 : RunE L_C4_0 T_C1_0 (UI 0) [(5, [.v (.int .i64 4), ag0 0], .tuple [.agg [.v (.int .i64 4), .sym (.int .u64 (.sh .shr .u64 (.sh .shl .u64 (.var 3) (.lit 0)) (.lit 0)))], .v (.int .i64 0)]), (6, [.v (.int .i64 4), ag0 0], .tuple [.agg [.v (.int .i64 4), .sym (.int .u64 (.bin .and .u64 (.cv .u64 (.var 4)) (.lit 18446744073709551615)))], .v (.int .i64 0)])] := fun W C ρ aR aS => by unfold runE; kernel_rfl
theorem ag_C4_0 {aR aS : Addr} (b n : Int) (h : HN 0 b n)  (hc : Chk aR aS 0 b 0) (hi : IntV aR aS 0 b n) : AgC aR aS 4 0 b := by
  have e : (IE.ev (ri b n 0 4) (.bin .and .u64 (.cv .u64 (.var 4)) (.lit 18446744073709551615)) : Int) = IE.ev (ri b n 0 4) (.sh .shr .u64 (.sh .shl .u64 (.var 3) (.lit 0)) (.lit 0)) := by
    obtain ⟨hb0, hb1, hn, l0, l1⟩ := h
    simp (disch := omega) only [IE.ev, ri, rc_3, rc_4, loI, and_u64_64, shl_u64_0, shr_u64_0, wrap_i64, wrap_u64] <;> omega
  exact ⟨4, IE.ev (ri b n 0 4) (.sh .shr .u64 (.sh .shl .u64 (.var 3) (.lit 0)) (.lit 0)), 0, fun w hG => pair_of (W := wF (FloatKind.nearest .f32 n)) (C := cF (FloatKind.nearest .f32 n)) (ρ := ri b n 0 4) (fun _ h => by cases h) (tk_C1_0 b n h ) (UI_ok (nearest_num n) hc hi) (run_C4_0 _ _ _ aR aS) rfl rfl rfl (vs := [.int .i64 4, agV 0 b]) rfl rfl (tupE 4 0 e) w hG⟩
def L_C8_0 : List CF := []
theorem run_C8_0 : RunE L_C8_0 T_C1_0 (UI 0) [(5, [.v (.int .i64 8), ag0 0], .tuple [.agg [.v (.int .i64 8), .sym (.int .u64 (.sh .shr .u64 (.sh .shl .u64 (.var 3) (.lit 0)) (.lit 0)))], .v (.int .i64 0)]), (6, [.v (.int .i64 8), ag0 0], .tuple [.agg [.v (.int .i64 8), .sym (.int .u64 (.bin .and .u64 (.cv .u64 (.var 4)) (.lit 18446744073709551615)))], .v (.int .i64 0)])] := fun W C ρ aR aS => by unfold runE; kernel_rfl
theorem ag_C8_0 {aR aS : Addr} (b n : Int) (h : HN 0 b n)  (hc : Chk aR aS 0 b 0) (hi : IntV aR aS 0 b n) : AgC aR aS 8 0 b := by
  have e : (IE.ev (ri b n 0 8) (.bin .and .u64 (.cv .u64 (.var 4)) (.lit 18446744073709551615)) : Int) = IE.ev (ri b n 0 8) (.sh .shr .u64 (.sh .shl .u64 (.var 3) (.lit 0)) (.lit 0)) := by
    obtain ⟨hb0, hb1, hn, l0, l1⟩ := h
    simp (disch := omega) only [IE.ev, ri, rc_3, rc_4, loI, and_u64_64, shl_u64_0, shr_u64_0, wrap_i64, wrap_u64] <;> omega
  exact ⟨8, IE.ev (ri b n 0 8) (.sh .shr .u64 (.sh .shl .u64 (.var 3) (.lit 0)) (.lit 0)), 0, fun w hG => pair_of (W := wF (FloatKind.nearest .f32 n)) (C := cF (FloatKind.nearest .f32 n)) (ρ := ri b n 0 8) (fun _ h => by cases h) (tk_C1_0 b n h ) (UI_ok (nearest_num n) hc hi) (run_C8_0 _ _ _ aR aS) rfl rfl rfl (vs := [.int .i64 8, agV 0 b]) rfl rfl (tupE 8 0 e) w hG⟩
def L_C10_0p : List CF := [⟨.lss, (.cv .i64 (.var 2)), .lit 0, false⟩]
theorem ok_C10_0p (b n : Int) (h : HN 0 b n) (_ : 0 ≤ n) : ∀ f ∈ L_C10_0p, f.ok (ri b n 0 10) := by
  obtain ⟨hb0, hb1, hn, l0, l1⟩ := h
  intro f hf
  simp only [L_C10_0p, List.mem_cons, List.not_mem_nil, or_false] at hf
  subst hf
  · exact ⟨rfl, cmp_lss_f (by simp (disch := omega) only [IE.ev, ri, rc_2, hiI_pos, wrap_i64] <;> omega)⟩
theorem run_C10_0p : RunE L_C10_0p T_C10_0p (UI 0) [(5, [.v (.int .i64 10), ag0 0], .tuple [.agg [.v (.int .i64 10), .sym (.int .u64 (.bin .or .u64 (.var 5) (.lit 0)))], .v (.int .i64 0)]), (6, [.v (.int .i64 10), ag0 0], .tuple [.agg [.v (.int .i64 10), .sym (.int .u64 (.var 5))], .v (.int .i64 0)])] := fun W C ρ aR aS => by unfold runE; kernel_rfl
theorem ag_C10_0p {aR aS : Addr} (b n : Int) (h : HN 0 b n) (h0 : 0 ≤ n) (hc : Chk aR aS 0 b 0) (hi : IntV aR aS 0 b n) : AgC aR aS 10 0 b := by
  have e : (IE.ev (ri b n 0 10) (.var 5) : Int) = IE.ev (ri b n 0 10) (.bin .or .u64 (.var 5) (.lit 0)) := by
    obtain ⟨hb0, hb1, hn, l0, l1⟩ := h
    have hw := normW_lt (nearest_num n).1
    have hz0 : ∀ x : Int, 0 ≤ x → x < 18446744073709551616 → binI .or .u64 x 0 = x := or_u64_64
    simp (disch := omega) only [IE.ev, ri, rc_5, hz0] <;> omega
  exact ⟨10, IE.ev (ri b n 0 10) (.bin .or .u64 (.var 5) (.lit 0)), 0, fun w hG => pair_of (W := wF (FloatKind.nearest .f32 n)) (C := cF (FloatKind.nearest .f32 n)) (ρ := ri b n 0 10) (ok_C10_0p b n h h0) (tk_C10_0p b n h h0) (UI_ok (nearest_num n) hc hi) (run_C10_0p _ _ _ aR aS) rfl rfl rfl (vs := [.int .i64 10, agV 0 b]) rfl rfl (tupE 10 0 e) w hG⟩
def L_C1_1 : List CF := []
theorem run_C1_1 : RunE L_C1_1 T_C1_1 (UI 1) [(5, [.v (.int .i64 1), ag0 1], .tuple [.agg [.v (.int .i64 1), .sym (.int .u64 (.var 0))], .v (.int .i64 0)]), (6, [.v (.int .i64 1), ag0 1], .tuple [.agg [.v (.int .i64 1), .sym (.int .u64 (.bin .and .u64 (.cv .u64 (.var 4)) (.lit 255)))], .v (.int .i64 0)])] := fun W C ρ aR aS => by unfold runE; kernel_rfl
theorem ag_C1_1 {aR aS : Addr} (b n : Int) (h : HN 1 b n)  (hc : Chk aR aS 1 b 0) (hi : IntV aR aS 1 b n) : AgC aR aS 1 1 b := by
  have e : (IE.ev (ri b n 1 1) (.bin .and .u64 (.cv .u64 (.var 4)) (.lit 255)) : Int) = IE.ev (ri b n 1 1) (.var 0) := by
    obtain ⟨hb0, hb1, hn, l0, l1⟩ := h
    simp (disch := omega) only [IE.ev, ri, rc_0, rc_4, and_u64_8, wrap_i64, wrap_u64] <;> omega
  exact ⟨1, IE.ev (ri b n 1 1) (.var 0), 0, fun w hG => pair_of (W := wF (FloatKind.nearest .f32 n)) (C := cF (FloatKind.nearest .f32 n)) (ρ := ri b n 1 1) (fun _ h => by cases h) (tk_C1_1 b n h ) (UI_ok (nearest_num n) hc hi) (run_C1_1 _ _ _ aR aS) rfl rfl rfl (vs := [.int .i64 1, agV 1 b]) rfl rfl (tupE 1 0 e) w hG⟩
def L_C5_1 : List CF := []
theorem run_C5_1 : RunE L_C5_1 T_C1_1 (UI 1) [(5, [.v (.int .i64 5), ag0 1], .tuple [.agg [.v (.int .i64 5), .sym (.int .u64 (.sh .shr .u64 (.sh .shl .u64 (.var 3) (.lit 56)) (.lit 56)))], .v (.int .i64 0)]), (6, [.v (.int .i64 5), ag0 1], .tuple [.agg [.v (.int .i64 5), .sym (.int .u64 (.bin .and .u64 (.cv .u64 (.var 4)) (.lit 255)))], .v (.int .i64 0)])] := fun W C ρ aR aS => by unfold runE; kernel_rfl
theorem ag_C5_1 {aR aS : Addr} (b n : Int) (h : HN 1 b n)  (hc : Chk aR aS 1 b 0) (hi : IntV aR aS 1 b n) : AgC aR aS 5 1 b := by
  have e : (IE.ev (ri b n 1 5) (.bin .and .u64 (.cv .u64 (.var 4)) (.lit 255)) : Int) = IE.ev (ri b n 1 5) (.sh .shr .u64 (.sh .shl .u64 (.var 3) (.lit 56)) (.lit 56)) := by
    obtain ⟨hb0, hb1, hn, l0, l1⟩ := h
    simp (disch := omega) only [IE.ev, ri, rc_3, rc_4, loI, and_u64_8, shl_u64_56, shr_u64_56, wrap_i64, wrap_u64] <;> omega
  exact ⟨5, IE.ev (ri b n 1 5) (.sh .shr .u64 (.sh .shl .u64 (.var 3) (.lit 56)) (.lit 56)), 0, fun w hG => pair_of (W := wF (FloatKind.nearest .f32 n)) (C := cF (FloatKind.nearest .f32 n)) (ρ := ri b n 1 5) (fun _ h => by cases h) (tk_C1_1 b n h ) (UI_ok (nearest_num n) hc hi) (run_C5_1 _ _ _ aR aS) rfl rfl rfl (vs := [.int .i64 5, agV 1 b]) rfl rfl (tupE 5 0 e) w hG⟩
def L_C0_1z : List CF := [⟨.neq, .var 0, .lit 0, false⟩]
theorem ok_C0_1z (b n : Int) (h : HN 1 b n) (h0 : b = 0) : ∀ f ∈ L_C0_1z, f.ok (ri b n 1 0) := by
  obtain ⟨hb0, hb1, hn, l0, l1⟩ := h
  intro f hf
  simp only [L_C0_1z, List.mem_cons, List.not_mem_nil, or_false] at hf
  subst hf
  · exact ⟨rfl, cmp_neq_f (by simp (disch := omega) only [IE.ev, ri, rc_0] <;> omega)⟩
theorem run_C0_1z : RunE L_C0_1z [] (UI 1) [(5, [.v (.int .i64 0), ag0 1], .v (.tuple #[.agg #[.int .i64 0, .int .u64 0], .int .i64 0])), (6, [.v (.int .i64 0), ag0 1], .v (.tuple #[.agg #[.int .i64 0, .int .u64 0], .int .i64 0]))] := fun W C ρ aR aS => by unfold runE; kernel_rfl
theorem ag_C0_1z {aR aS : Addr} (b n : Int) (h : HN 1 b n) (h0 : b = 0) (hc : Chk aR aS 1 b 0) (hi : IntV aR aS 1 b n) : AgC aR aS 0 1 b := ⟨0, 0, 0, fun w hG => pair_of (W := wF (FloatKind.nearest .f32 n)) (C := cF (FloatKind.nearest .f32 n)) (ρ := ri b n 1 0) (ok_C0_1z b n h h0) (fun _ h => by cases h) (UI_ok (nearest_num n) hc hi) (run_C0_1z _ _ _ aR aS) rfl rfl rfl (vs := [.int .i64 0, agV 1 b]) rfl rfl rfl w hG⟩
def L_C1_2 : List CF := []
theorem run_C1_2 : RunE L_C1_2 T_C1_2 (UI 2) [(5, [.v (.int .i64 1), ag0 2], .tuple [.agg [.v (.int .i64 1), .sym (.int .u64 (.sh .shr .u64 (.sh .shl .u64 (.var 3) (.lit 56)) (.lit 56)))], .v (.int .i64 0)]), (6, [.v (.int .i64 1), ag0 2], .tuple [.agg [.v (.int .i64 1), .sym (.int .u64 (.bin .and .u64 (.cv .u64 (.var 4)) (.lit 255)))], .v (.int .i64 0)])] := fun W C ρ aR aS => by unfold runE; kernel_rfl
theorem ag_C1_2 {aR aS : Addr} (b n : Int) (h : HN 2 b n)  (hc : Chk aR aS 2 b 0) (hi : IntV aR aS 2 b n) : AgC aR aS 1 2 b := by
  have e : (IE.ev (ri b n 2 1) (.bin .and .u64 (.cv .u64 (.var 4)) (.lit 255)) : Int) = IE.ev (ri b n 2 1) (.sh .shr .u64 (.sh .shl .u64 (.var 3) (.lit 56)) (.lit 56)) := by
    obtain ⟨hb0, hb1, hn, l0, l1⟩ := h
    simp (disch := omega) only [IE.ev, ri, rc_3, rc_4, loI, and_u64_8, shl_u64_56, shr_u64_56, wrap_i64, wrap_u64] <;> omega
  exact ⟨1, IE.ev (ri b n 2 1) (.sh .shr .u64 (.sh .shl .u64 (.var 3) (.lit 56)) (.lit 56)), 0, fun w hG => pair_of (W := wF (FloatKind.nearest .f32 n)) (C := cF (FloatKind.nearest .f32 n)) (ρ := ri b n 2 1) (fun _ h => by cases h) (tk_C1_2 b n h ) (UI_ok (nearest_num n) hc hi) (run_C1_2 _ _ _ aR aS) rfl rfl rfl (vs := [.int .i64 1, agV 2 b]) rfl rfl (tupE 1 0 e) w hG⟩
def L_C5_2 : List CF := []
theorem run_C5_2 : RunE L_C5_2 T_C1_2 (UI 2) [(5, [.v (.int .i64 5), ag0 2], .tuple [.agg [.v (.int .i64 5), .sym (.int .u64 (.sh .shr .u64 (.sh .shl .u64 (.var 3) (.lit 56)) (.lit 56)))], .v (.int .i64 0)]), (6, [.v (.int .i64 5), ag0 2], .tuple [.agg [.v (.int .i64 5), .sym (.int .u64 (.bin .and .u64 (.cv .u64 (.var 4)) (.lit 255)))], .v (.int .i64 0)])] := fun W C ρ aR aS => by unfold runE; kernel_rfl
theorem ag_C5_2 {aR aS : Addr} (b n : Int) (h : HN 2 b n)  (hc : Chk aR aS 2 b 0) (hi : IntV aR aS 2 b n) : AgC aR aS 5 2 b := by
  have e : (IE.ev (ri b n 2 5) (.bin .and .u64 (.cv .u64 (.var 4)) (.lit 255)) : Int) = IE.ev (ri b n 2 5) (.sh .shr .u64 (.sh .shl .u64 (.var 3) (.lit 56)) (.lit 56)) := by
    obtain ⟨hb0, hb1, hn, l0, l1⟩ := h
    simp (disch := omega) only [IE.ev, ri, rc_3, rc_4, loI, and_u64_8, shl_u64_56, shr_u64_56, wrap_i64, wrap_u64] <;> omega
  exact ⟨5, IE.ev (ri b n 2 5) (.sh .shr .u64 (.sh .shl .u64 (.var 3) (.lit 56)) (.lit 56)), 0, fun w hG => pair_of (W := wF (FloatKind.nearest .f32 n)) (C := cF (FloatKind.nearest .f32 n)) (ρ := ri b n 2 5) (fun _ h => by cases h) (tk_C1_2 b n h ) (UI_ok (nearest_num n) hc hi) (run_C5_2 _ _ _ aR aS) rfl rfl rfl (vs := [.int .i64 5, agV 2 b]) rfl rfl (tupE 5 0 e) w hG⟩
def L_C0_2z : List CF := [⟨.neq, .var 0, .lit 0, false⟩]
theorem ok_C0_2z (b n : Int) (h : HN 2 b n) (h0 : b = 0) : ∀ f ∈ L_C0_2z, f.ok (ri b n 2 0) := by
  obtain ⟨hb0, hb1, hn, l0, l1⟩ := h
  intro f hf
  simp only [L_C0_2z, List.mem_cons, List.not_mem_nil, or_false] at hf
  subst hf
  · exact ⟨rfl, cmp_neq_f (by simp (disch := omega) only [IE.ev, ri, rc_0] <;> omega)⟩
theorem run_C0_2z : RunE L_C0_2z [] (UI 2) [(5, [.v (.int .i64 0), ag0 2], .v (.tuple #[.agg #[.int .i64 0, .int .u64 0], .int .i64 0])), (6, [.v (.int .i64 0), ag0 2], .v (.tuple #[.agg #[.int .i64 0, .int .u64 0], .int .i64 0]))] := fun W C ρ aR aS => by unfold runE; kernel_rfl
theorem ag_C0_2z {aR aS : Addr} (b n : Int) (h : HN 2 b n) (h0 : b = 0) (hc : Chk aR aS 2 b 0) (hi : IntV aR aS 2 b n) : AgC aR aS 0 2 b := ⟨0, 0, 0, fun w hG => pair_of (W := wF (FloatKind.nearest .f32 n)) (C := cF (FloatKind.nearest .f32 n)) (ρ := ri b n 2 0) (ok_C0_2z b n h h0) (fun _ h => by cases h) (UI_ok (nearest_num n) hc hi) (run_C0_2z _ _ _ aR aS) rfl rfl rfl (vs := [.int .i64 0, agV 2 b]) rfl rfl rfl w hG⟩
def L_C3_3 : List CF := []
theorem run_C3_3 : RunE L_C3_3 T_C1_3 (UI 3) [(5, [.v (.int .i64 3), ag0 3], .tuple [.agg [.v (.int .i64 3), .sym (.int .u64 (.var 0))], .v (.int .i64 0)]), (6, [.v (.int .i64 3), ag0 3], .tuple [.agg [.v (.int .i64 3), .sym (.int .u64 (.bin .and .u64 (.cv .u64 (.var 4)) (.lit 4294967295)))], .v (.int .i64 0)])] := fun W C ρ aR aS => by unfold runE; kernel_rfl
theorem ag_C3_3 {aR aS : Addr} (b n : Int) (h : HN 3 b n)  (hc : Chk aR aS 3 b 0) (hi : IntV aR aS 3 b n) : AgC aR aS 3 3 b := by
  have e : (IE.ev (ri b n 3 3) (.bin .and .u64 (.cv .u64 (.var 4)) (.lit 4294967295)) : Int) = IE.ev (ri b n 3 3) (.var 0) := by
    obtain ⟨hb0, hb1, hn, l0, l1⟩ := h
    simp (disch := omega) only [IE.ev, ri, rc_0, rc_4, and_u64_32, wrap_i64, wrap_u64] <;> omega
  exact ⟨3, IE.ev (ri b n 3 3) (.var 0), 0, fun w hG => pair_of (W := wF (FloatKind.nearest .f32 n)) (C := cF (FloatKind.nearest .f32 n)) (ρ := ri b n 3 3) (fun _ h => by cases h) (tk_C1_3 b n h ) (UI_ok (nearest_num n) hc hi) (run_C3_3 _ _ _ aR aS) rfl rfl rfl (vs := [.int .i64 3, agV 3 b]) rfl rfl (tupE 3 0 e) w hG⟩
def L_C7_3 : List CF := []
theorem run_C7_3 : RunE L_C7_3 T_C1_3 (UI 3) [(5, [.v (.int .i64 7), ag0 3], .tuple [.agg [.v (.int .i64 7), .sym (.int .u64 (.sh .shr .u64 (.sh .shl .u64 (.var 3) (.lit 32)) (.lit 32)))], .v (.int .i64 0)]), (6, [.v (.int .i64 7), ag0 3], .tuple [.agg [.v (.int .i64 7), .sym (.int .u64 (.bin .and .u64 (.cv .u64 (.var 4)) (.lit 4294967295)))], .v (.int .i64 0)])] := fun W C ρ aR aS => by unfold runE; kernel_rfl
theorem ag_C7_3 {aR aS : Addr} (b n : Int) (h : HN 3 b n)  (hc : Chk aR aS 3 b 0) (hi : IntV aR aS 3 b n) : AgC aR aS 7 3 b := by
  have e : (IE.ev (ri b n 3 7) (.bin .and .u64 (.cv .u64 (.var 4)) (.lit 4294967295)) : Int) = IE.ev (ri b n 3 7) (.sh .shr .u64 (.sh .shl .u64 (.var 3) (.lit 32)) (.lit 32)) := by
    obtain ⟨hb0, hb1, hn, l0, l1⟩ := h
    simp (disch := omega) only [IE.ev, ri, rc_3, rc_4, loI, and_u64_32, shl_u64_32, shr_u64_32, wrap_i64, wrap_u64] <;> omega
  exact ⟨7, IE.ev (ri b n 3 7) (.sh .shr .u64 (.sh .shl .u64 (.var 3) (.lit 32)) (.lit 32)), 0, fun w hG => pair_of (W := wF (FloatKind.nearest .f32 n)) (C := cF (FloatKind.nearest .f32 n)) (ρ := ri b n 3 7) (fun _ h => by cases h) (tk_C1_3 b n h ) (UI_ok (nearest_num n) hc hi) (run_C7_3 _ _ _ aR aS) rfl rfl rfl (vs := [.int .i64 7, agV 3 b]) rfl rfl (tupE 7 0 e) w hG⟩
def L_C9_3p : List CF := [⟨.lss, (.cv .i64 (.var 2)), .lit 0, false⟩]
theorem ok_C9_3p (b n : Int) (h : HN 3 b n) (_ : 0 ≤ n) : ∀ f ∈ L_C9_3p, f.ok (ri b n 3 9) := by
  obtain ⟨hb0, hb1, hn, l0, l1⟩ := h
  intro f hf
  simp only [L_C9_3p, List.mem_cons, List.not_mem_nil, or_false] at hf
  subst hf
  · exact ⟨rfl, cmp_lss_f (by simp (disch := omega) only [IE.ev, ri, rc_2, hiI_pos, wrap_i64] <;> omega)⟩
theorem run_C9_3p : RunE L_C9_3p T_C9_3p (UI 3) [(5, [.v (.int .i64 9), ag0 3], .tuple [.agg [.v (.int .i64 9), .sym (.int .u64 (.var 5))], .v (.int .i64 0)]), (6, [.v (.int .i64 9), ag0 3], .tuple [.agg [.v (.int .i64 9), .sym (.int .u64 (.var 5))], .v (.int .i64 0)])] := fun W C ρ aR aS => by unfold runE; kernel_rfl
theorem ag_C9_3p {aR aS : Addr} (b n : Int) (h : HN 3 b n) (h0 : 0 ≤ n) (hc : Chk aR aS 3 b 0) (hi : IntV aR aS 3 b n) : AgC aR aS 9 3 b := ⟨9, IE.ev (ri b n 3 9) (.var 5), 0, fun w hG => pair_of (W := wF (FloatKind.nearest .f32 n)) (C := cF (FloatKind.nearest .f32 n)) (ρ := ri b n 3 9) (ok_C9_3p b n h h0) (tk_C9_3p b n h h0) (UI_ok (nearest_num n) hc hi) (run_C9_3p _ _ _ aR aS) rfl rfl rfl (vs := [.int .i64 9, agV 3 b]) rfl rfl rfl w hG⟩
def L_C3_4 : List CF := []
theorem run_C3_4 : RunE L_C3_4 T_C1_4 (UI 4) [(5, [.v (.int .i64 3), ag0 4], .tuple [.agg [.v (.int .i64 3), .sym (.int .u64 (.sh .shr .u64 (.sh .shl .u64 (.var 3) (.lit 32)) (.lit 32)))], .v (.int .i64 0)]), (6, [.v (.int .i64 3), ag0 4], .tuple [.agg [.v (.int .i64 3), .sym (.int .u64 (.bin .and .u64 (.cv .u64 (.var 4)) (.lit 4294967295)))], .v (.int .i64 0)])] := fun W C ρ aR aS => by unfold runE; kernel_rfl
theorem ag_C3_4 {aR aS : Addr} (b n : Int) (h : HN 4 b n)  (hc : Chk aR aS 4 b 0) (hi : IntV aR aS 4 b n) : AgC aR aS 3 4 b := by
  have e : (IE.ev (ri b n 4 3) (.bin .and .u64 (.cv .u64 (.var 4)) (.lit 4294967295)) : Int) = IE.ev (ri b n 4 3) (.sh .shr .u64 (.sh .shl .u64 (.var 3) (.lit 32)) (.lit 32)) := by
    obtain ⟨hb0, hb1, hn, l0, l1⟩ := h
    simp (disch := omega) only [IE.ev, ri, rc_3, rc_4, loI, and_u64_32, shl_u64_32, shr_u64_32, wrap_i64, wrap_u64] <;> omega
  exact ⟨3, IE.ev (ri b n 4 3) (.sh .shr .u64 (.sh .shl .u64 (.var 3) (.lit 32)) (.lit 32)), 0, fun w hG => pair_of (W := wF (FloatKind.nearest .f32 n)) (C := cF (FloatKind.nearest .f32 n)) (ρ := ri b n 4 3) (fun _ h => by cases h) (tk_C1_4 b n h ) (UI_ok (nearest_num n) hc hi) (run_C3_4 _ _ _ aR aS) rfl rfl rfl (vs := [.int .i64 3, agV 4 b]) rfl rfl (tupE 3 0 e) w hG⟩
def L_C7_4 : List CF := []
theorem run_C7_4 : RunE L_C7_4 T_C1_4 (UI 4) [(5, [.v (.int .i64 7), ag0 4], .tuple [.agg [.v (.int .i64 7), .sym (.int .u64 (.sh .shr .u64 (.sh .shl .u64 (.var 3) (.lit 32)) (.lit 32)))], .v (.int .i64 0)]), (6, [.v (.int .i64 7), ag0 4], .tuple [.agg [.v (.int .i64 7), .sym (.int .u64 (.bin .and .u64 (.cv .u64 (.var 4)) (.lit 4294967295)))], .v (.int .i64 0)])] := fun W C ρ aR aS => by unfold runE; kernel_rfl
theorem ag_C7_4 {aR aS : Addr} (b n : Int) (h : HN 4 b n)  (hc : Chk aR aS 4 b 0) (hi : IntV aR aS 4 b n) : AgC aR aS 7 4 b := by
  have e : (IE.ev (ri b n 4 7) (.bin .and .u64 (.cv .u64 (.var 4)) (.lit 4294967295)) : Int) = IE.ev (ri b n 4 7) (.sh .shr .u64 (.sh .shl .u64 (.var 3) (.lit 32)) (.lit 32)) := by
    obtain ⟨hb0, hb1, hn, l0, l1⟩ := h
    simp (disch := omega) only [IE.ev, ri, rc_3, rc_4, loI, and_u64_32, shl_u64_32, shr_u64_32, wrap_i64, wrap_u64] <;> omega
  exact ⟨7, IE.ev (ri b n 4 7) (.sh .shr .u64 (.sh .shl .u64 (.var 3) (.lit 32)) (.lit 32)), 0, fun w hG => pair_of (W := wF (FloatKind.nearest .f32 n)) (C := cF (FloatKind.nearest .f32 n)) (ρ := ri b n 4 7) (fun _ h => by cases h) (tk_C1_4 b n h ) (UI_ok (nearest_num n) hc hi) (run_C7_4 _ _ _ aR aS) rfl rfl rfl (vs := [.int .i64 7, agV 4 b]) rfl rfl (tupE 7 0 e) w hG⟩
def L_C9_4p : List CF := [⟨.lss, (.cv .i64 (.var 2)), .lit 0, false⟩]
theorem ok_C9_4p (b n : Int) (h : HN 4 b n) (_ : 0 ≤ n) : ∀ f ∈ L_C9_4p, f.ok (ri b n 4 9) := by
  obtain ⟨hb0, hb1, hn, l0, l1⟩ := h
  intro f hf
  simp only [L_C9_4p, List.mem_cons, List.not_mem_nil, or_false] at hf
  subst hf
  · exact ⟨rfl, cmp_lss_f (by simp (disch := omega) only [IE.ev, ri, rc_2, hiI_pos, wrap_i64] <;> omega)⟩
theorem run_C9_4p : RunE L_C9_4p T_C9_4p (UI 4) [(5, [.v (.int .i64 9), ag0 4], .tuple [.agg [.v (.int .i64 9), .sym (.int .u64 (.var 5))], .v (.int .i64 0)]), (6, [.v (.int .i64 9), ag0 4], .tuple [.agg [.v (.int .i64 9), .sym (.int .u64 (.var 5))], .v (.int .i64 0)])] := fun W C ρ aR aS => by unfold runE; kernel_rfl
theorem ag_C9_4p {aR aS : Addr} (b n : Int) (h : HN 4 b n) (h0 : 0 ≤ n) (hc : Chk aR aS 4 b 0) (hi : IntV aR aS 4 b n) : AgC aR aS 9 4 b := ⟨9, IE.ev (ri b n 4 9) (.var 5), 0, fun w hG => pair_of (W := wF (FloatKind.nearest .f32 n)) (C := cF (FloatKind.nearest .f32 n)) (ρ := ri b n 4 9) (ok_C9_4p b n h h0) (tk_C9_4p b n h h0) (UI_ok (nearest_num n) hc hi) (run_C9_4p _ _ _ aR aS) rfl rfl rfl (vs := [.int .i64 9, agV 4 b]) rfl rfl rfl w hG⟩
def L_C1_5 : List CF := []
theorem run_C1_5 : RunE L_C1_5 T_C1_5 (UI 5) [(5, [.v (.int .i64 1), ag0 5], .tuple [.agg [.v (.int .i64 1), .sym (.int .u64 (.sh .shr .u64 (.sh .shl .u64 (.var 3) (.lit 56)) (.lit 56)))], .v (.int .i64 0)]), (6, [.v (.int .i64 1), ag0 5], .tuple [.agg [.v (.int .i64 1), .sym (.int .u64 (.bin .and .u64 (.cv .u64 (.var 4)) (.lit 255)))], .v (.int .i64 0)])] := fun W C ρ aR aS => by unfold runE; kernel_rfl
theorem ag_C1_5 {aR aS : Addr} (b n : Int) (h : HN 5 b n)  (hc : Chk aR aS 5 b 0) (hi : IntV aR aS 5 b n) : AgC aR aS 1 5 b := by
  have e : (IE.ev (ri b n 5 1) (.bin .and .u64 (.cv .u64 (.var 4)) (.lit 255)) : Int) = IE.ev (ri b n 5 1) (.sh .shr .u64 (.sh .shl .u64 (.var 3) (.lit 56)) (.lit 56)) := by
    obtain ⟨hb0, hb1, hn, l0, l1⟩ := h
    simp (disch := omega) only [IE.ev, ri, rc_3, rc_4, loI, and_u64_8, shl_u64_56, shr_u64_56, wrap_i64, wrap_u64] <;> omega
  exact ⟨1, IE.ev (ri b n 5 1) (.sh .shr .u64 (.sh .shl .u64 (.var 3) (.lit 56)) (.lit 56)), 0, fun w hG => pair_of (W := wF (FloatKind.nearest .f32 n)) (C := cF (FloatKind.nearest .f32 n)) (ρ := ri b n 5 1) (fun _ h => by cases h) (tk_C1_5 b n h ) (UI_ok (nearest_num n) hc hi) (run_C1_5 _ _ _ aR aS) rfl rfl rfl (vs := [.int .i64 1, agV 5 b]) rfl rfl (tupE 1 0 e) w hG⟩
def L_C5_5 : List CF := []
theorem run_C5_5 : RunE L_C5_5 T_C1_5 (UI 5) [(5, [.v (.int .i64 5), ag0 5], .tuple [.agg [.v (.int .i64 5), .sym (.int .u64 (.var 0))], .v (.int .i64 0)]), (6, [.v (.int .i64 5), ag0 5], .tuple [.agg [.v (.int .i64 5), .sym (.int .u64 (.bin .and .u64 (.cv .u64 (.var 4)) (.lit 255)))], .v (.int .i64 0)])] := fun W C ρ aR aS => by unfold runE; kernel_rfl
theorem ag_C5_5 {aR aS : Addr} (b n : Int) (h : HN 5 b n)  (hc : Chk aR aS 5 b 0) (hi : IntV aR aS 5 b n) : AgC aR aS 5 5 b := by
  have e : (IE.ev (ri b n 5 5) (.bin .and .u64 (.cv .u64 (.var 4)) (.lit 255)) : Int) = IE.ev (ri b n 5 5) (.var 0) := by
    obtain ⟨hb0, hb1, hn, l0, l1⟩ := h
    simp (disch := omega) only [IE.ev, ri, rc_0, rc_4, and_u64_8, wrap_i64, wrap_u64] <;> omega
  exact ⟨5, IE.ev (ri b n 5 5) (.var 0), 0, fun w hG => pair_of (W := wF (FloatKind.nearest .f32 n)) (C := cF (FloatKind.nearest .f32 n)) (ρ := ri b n 5 5) (fun _ h => by cases h) (tk_C1_5 b n h ) (UI_ok (nearest_num n) hc hi) (run_C5_5 _ _ _ aR aS) rfl rfl rfl (vs := [.int .i64 5, agV 5 b]) rfl rfl (tupE 5 0 e) w hG⟩
def L_C0_5z : List CF := [⟨.neq, .var 0, .lit 0, false⟩]
theorem ok_C0_5z (b n : Int) (h : HN 5 b n) (h0 : b = 0) : ∀ f ∈ L_C0_5z, f.ok (ri b n 5 0) := by
  obtain ⟨hb0, hb1, hn, l0, l1⟩ := h
  intro f hf
  simp only [L_C0_5z, List.mem_cons, List.not_mem_nil, or_false] at hf
  subst hf
  · exact ⟨rfl, cmp_neq_f (by simp (disch := omega) only [IE.ev, ri, rc_0] <;> omega)⟩
theorem run_C0_5z : RunE L_C0_5z [] (UI 5) [(5, [.v (.int .i64 0), ag0 5], .v (.tuple #[.agg #[.int .i64 0, .int .u64 0], .int .i64 0])), (6, [.v (.int .i64 0), ag0 5], .v (.tuple #[.agg #[.int .i64 0, .int .u64 0], .int .i64 0]))] := fun W C ρ aR aS => by unfold runE; kernel_rfl
theorem ag_C0_5z {aR aS : Addr} (b n : Int) (h : HN 5 b n) (h0 : b = 0) (hc : Chk aR aS 5 b 0) (hi : IntV aR aS 5 b n) : AgC aR aS 0 5 b := ⟨0, 0, 0, fun w hG => pair_of (W := wF (FloatKind.nearest .f32 n)) (C := cF (FloatKind.nearest .f32 n)) (ρ := ri b n 5 0) (ok_C0_5z b n h h0) (fun _ h => by cases h) (UI_ok (nearest_num n) hc hi) (run_C0_5z _ _ _ aR aS) rfl rfl rfl (vs := [.int .i64 0, agV 5 b]) rfl rfl rfl w hG⟩
def L_C10_5p : List CF := [⟨.lss, (.cv .i64 (.var 2)), .lit 0, false⟩]
theorem ok_C10_5p (b n : Int) (h : HN 5 b n) (h0 : 0 ≤ n) : ∀ f ∈ L_C10_5p, f.ok (ri b n 5 10) := by
  obtain ⟨hb0, hb1, hn, l0, l1⟩ := h
  intro f hf
  simp only [L_C10_5p, List.mem_cons, List.not_mem_nil, or_false] at hf
  subst hf
  · exact ⟨rfl, cmp_lss_f (by simp (disch := omega) only [IE.ev, ri, rc_2, hiI_pos, wrap_i64] <;> omega)⟩
theorem run_C10_5p : RunE L_C10_5p T_C10_5p (UI 5) [(5, [.v (.int .i64 10), ag0 5], .tuple [.agg [.v (.int .i64 10), .sym (.int .u64 (.bin .or .u64 (.var 5) (.lit 0)))], .v (.int .i64 0)]), (6, [.v (.int .i64 10), ag0 5], .tuple [.agg [.v (.int .i64 10), .sym (.int .u64 (.var 5))], .v (.int .i64 0)])] := fun W C ρ aR aS => by unfold runE; kernel_rfl
theorem ag_C10_5p {aR aS : Addr} (b n : Int) (h : HN 5 b n) (h0 : 0 ≤ n) (hc : Chk aR aS 5 b 0) (hi : IntV aR aS 5 b n) : AgC aR aS 10 5 b := by
  have e : (IE.ev (ri b n 5 10) (.var 5) : Int) = IE.ev (ri b n 5 10) (.bin .or .u64 (.var 5) (.lit 0)) := by
    obtain ⟨hb0, hb1, hn, l0, l1⟩ := h
    have hw := normW_lt (nearest_num n).1
    have hz0 : ∀ x : Int, 0 ≤ x → x < 18446744073709551616 → binI .or .u64 x 0 = x := or_u64_64
    simp (disch := omega) only [IE.ev, ri, rc_5, hz0] <;> omega
  exact ⟨10, IE.ev (ri b n 5 10) (.bin .or .u64 (.var 5) (.lit 0)), 0, fun w hG => pair_of (W := wF (FloatKind.nearest .f32 n)) (C := cF (FloatKind.nearest .f32 n)) (ρ := ri b n 5 10) (ok_C10_5p b n h h0) (tk_C10_5p b n h h0) (UI_ok (nearest_num n) hc hi) (run_C10_5p _ _ _ aR aS) rfl rfl rfl (vs := [.int .i64 10, agV 5 b]) rfl rfl (tupE 10 0 e) w hG⟩
def L_C4_6 : List CF := []
theorem run_C4_6 : RunE L_C4_6 T_C1_6 (UI 6) [(5, [.v (.int .i64 4), ag0 6], .tuple [.agg [.v (.int .i64 4), .sym (.int .u64 (.sh .shr .u64 (.sh .shl .u64 (.var 3) (.lit 0)) (.lit 0)))], .v (.int .i64 0)]), (6, [.v (.int .i64 4), ag0 6], .tuple [.agg [.v (.int .i64 4), .sym (.int .u64 (.bin .and .u64 (.cv .u64 (.var 4)) (.lit 18446744073709551615)))], .v (.int .i64 0)])] := fun W C ρ aR aS => by unfold runE; kernel_rfl
theorem ag_C4_6 {aR aS : Addr} (b n : Int) (h : HN 6 b n)  (hc : Chk aR aS 6 b 0) (hi : IntV aR aS 6 b n) : AgC aR aS 4 6 b := by
  have e : (IE.ev (ri b n 6 4) (.bin .and .u64 (.cv .u64 (.var 4)) (.lit 18446744073709551615)) : Int) = IE.ev (ri b n 6 4) (.sh .shr .u64 (.sh .shl .u64 (.var 3) (.lit 0)) (.lit 0)) := by
    obtain ⟨hb0, hb1, hn, l0, l1⟩ := h
    simp (disch := omega) only [IE.ev, ri, rc_3, rc_4, loI, and_u64_64, shl_u64_0, shr_u64_0, wrap_i64, wrap_u64] <;> omega
  exact ⟨4, IE.ev (ri b n 6 4) (.sh .shr .u64 (.sh .shl .u64 (.var 3) (.lit 0)) (.lit 0)), 0, fun w hG => pair_of (W := wF (FloatKind.nearest .f32 n)) (C := cF (FloatKind.nearest .f32 n)) (ρ := ri b n 6 4) (fun _ h => by cases h) (tk_C1_6 b n h ) (UI_ok (nearest_num n) hc hi) (run_C4_6 _ _ _ aR aS) rfl rfl rfl (vs := [.int .i64 4, agV 6 b]) rfl rfl (tupE 4 0 e) w hG⟩
def L_C8_6 : List CF := []
theorem run_C8_6 : RunE L_C8_6 T_C1_6 (UI 6) [(5, [.v (.int .i64 8), ag0 6], .tuple [.agg [.v (.int .i64 8), .sym (.int .u64 (.sh .shr .u64 (.sh .shl .u64 (.var 3) (.lit 0)) (.lit 0)))], .v (.int .i64 0)]), (6, [.v (.int .i64 8), ag0 6], .tuple [.agg [.v (.int .i64 8), .sym (.int .u64 (.bin .and .u64 (.cv .u64 (.var 4)) (.lit 18446744073709551615)))], .v (.int .i64 0)])] := fun W C ρ aR aS => by unfold runE; kernel_rfl
theorem ag_C8_6 {aR aS : Addr} (b n : Int) (h : HN 6 b n)  (hc : Chk aR aS 6 b 0) (hi : IntV aR aS 6 b n) : AgC aR aS 8 6 b := by
  have e : (IE.ev (ri b n 6 8) (.bin .and .u64 (.cv .u64 (.var 4)) (.lit 18446744073709551615)) : Int) = IE.ev (ri b n 6 8) (.sh .shr .u64 (.sh .shl .u64 (.var 3) (.lit 0)) (.lit 0)) := by
    obtain ⟨hb0, hb1, hn, l0, l1⟩ := h
    simp (disch := omega) only [IE.ev, ri, rc_3, rc_4, loI, and_u64_64, shl_u64_0, shr_u64_0, wrap_i64, wrap_u64] <;> omega
  exact ⟨8, IE.ev (ri b n 6 8) (.sh .shr .u64 (.sh .shl .u64 (.var 3) (.lit 0)) (.lit 0)), 0, fun w hG => pair_of (W := wF (FloatKind.nearest .f32 n)) (C := cF (FloatKind.nearest .f32 n)) (ρ := ri b n 6 8) (fun _ h => by cases h) (tk_C1_6 b n h ) (UI_ok (nearest_num n) hc hi) (run_C8_6 _ _ _ aR aS) rfl rfl rfl (vs := [.int .i64 8, agV 6 b]) rfl rfl (tupE 8 0 e) w hG⟩
def L_C9_6m : List CF := [⟨.lss, (.cv .i64 (.var 2)), .lit 0, true⟩]
theorem ok_C9_6m (b n : Int) (h : HN 6 b n) (h0 : n < 0) : ∀ f ∈ L_C9_6m, f.ok (ri b n 6 9) := by
  obtain ⟨hb0, hb1, hn, l0, l1⟩ := h
  intro f hf
  simp only [L_C9_6m, List.mem_cons, List.not_mem_nil, or_false] at hf
  subst hf
  · exact ⟨rfl, cmp_lss_t (by simp (disch := omega) only [IE.ev, ri, rc_2, hiI_neg, wrap_i64] <;> omega)⟩
theorem run_C9_6m : RunE L_C9_6m T_C9_6m (UI 6) [(5, [.v (.int .i64 9), ag0 6], .tuple [.agg [.v (.int .i64 9), .sym (.int .u64 (.var 5))], .v (.int .i64 0)]), (6, [.v (.int .i64 9), ag0 6], .tuple [.agg [.v (.int .i64 9), .sym (.int .u64 (.var 5))], .v (.int .i64 0)])] := fun W C ρ aR aS => by unfold runE; kernel_rfl
theorem ag_C9_6m {aR aS : Addr} (b n : Int) (h : HN 6 b n) (h0 : n < 0) (hc : Chk aR aS 6 b 0) (hi : IntV aR aS 6 b n) : AgC aR aS 9 6 b := ⟨9, IE.ev (ri b n 6 9) (.var 5), 0, fun w hG => pair_of (W := wF (FloatKind.nearest .f32 n)) (C := cF (FloatKind.nearest .f32 n)) (ρ := ri b n 6 9) (ok_C9_6m b n h h0) (tk_C9_6m b n h h0) (UI_ok (nearest_num n) hc hi) (run_C9_6m _ _ _ aR aS) rfl rfl rfl (vs := [.int .i64 9, agV 6 b]) rfl rfl rfl w hG⟩
def L_C4_7 : List CF := []
theorem run_C4_7 : RunE L_C4_7 T_C1_7 (UI 7) [(5, [.v (.int .i64 4), ag0 7], .tuple [.agg [.v (.int .i64 4), .sym (.int .u64 (.sh .shr .u64 (.sh .shl .u64 (.var 3) (.lit 0)) (.lit 0)))], .v (.int .i64 0)]), (6, [.v (.int .i64 4), ag0 7], .tuple [.agg [.v (.int .i64 4), .sym (.int .u64 (.bin .and .u64 (.cv .u64 (.var 4)) (.lit 18446744073709551615)))], .v (.int .i64 0)])] := fun W C ρ aR aS => by unfold runE; kernel_rfl
theorem ag_C4_7 {aR aS : Addr} (b n : Int) (h : HN 7 b n)  (hc : Chk aR aS 7 b 0) (hi : IntV aR aS 7 b n) : AgC aR aS 4 7 b := by
  have e : (IE.ev (ri b n 7 4) (.bin .and .u64 (.cv .u64 (.var 4)) (.lit 18446744073709551615)) : Int) = IE.ev (ri b n 7 4) (.sh .shr .u64 (.sh .shl .u64 (.var 3) (.lit 0)) (.lit 0)) := by
    obtain ⟨hb0, hb1, hn, l0, l1⟩ := h
    simp (disch := omega) only [IE.ev, ri, rc_3, rc_4, loI, and_u64_64, shl_u64_0, shr_u64_0, wrap_i64, wrap_u64] <;> omega
  exact ⟨4, IE.ev (ri b n 7 4) (.sh .shr .u64 (.sh .shl .u64 (.var 3) (.lit 0)) (.lit 0)), 0, fun w hG => pair_of (W := wF (FloatKind.nearest .f32 n)) (C := cF (FloatKind.nearest .f32 n)) (ρ := ri b n 7 4) (fun _ h => by cases h) (tk_C1_7 b n h ) (UI_ok (nearest_num n) hc hi) (run_C4_7 _ _ _ aR aS) rfl rfl rfl (vs := [.int .i64 4, agV 7 b]) rfl rfl (tupE 4 0 e) w hG⟩
def L_C8_7 : List CF := []
theorem run_C8_7 : RunE L_C8_7 T_C1_7 (UI 7) [(5, [.v (.int .i64 8), ag0 7], .tuple [.agg [.v (.int .i64 8), .sym (.int .u64 (.sh .shr .u64 (.sh .shl .u64 (.var 3) (.lit 0)) (.lit 0)))], .v (.int .i64 0)]), (6, [.v (.int .i64 8), ag0 7], .tuple [.agg [.v (.int .i64 8), .sym (.int .u64 (.bin .and .u64 (.cv .u64 (.var 4)) (.lit 18446744073709551615)))], .v (.int .i64 0)])] := fun W C ρ aR aS => by unfold runE; kernel_rfl
theorem ag_C8_7 {aR aS : Addr} (b n : Int) (h : HN 7 b n)  (hc : Chk aR aS 7 b 0) (hi : IntV aR aS 7 b n) : AgC aR aS 8 7 b := by
  have e : (IE.ev (ri b n 7 8) (.bin .and .u64 (.cv .u64 (.var 4)) (.lit 18446744073709551615)) : Int) = IE.ev (ri b n 7 8) (.sh .shr .u64 (.sh .shl .u64 (.var 3) (.lit 0)) (.lit 0)) := by
    obtain ⟨hb0, hb1, hn, l0, l1⟩ := h
    simp (disch := omega) only [IE.ev, ri, rc_3, rc_4, loI, and_u64_64, shl_u64_0, shr_u64_0, wrap_i64, wrap_u64] <;> omega
  exact ⟨8, IE.ev (ri b n 7 8) (.sh .shr .u64 (.sh .shl .u64 (.var 3) (.lit 0)) (.lit 0)), 0, fun w hG => pair_of (W := wF (FloatKind.nearest .f32 n)) (C := cF (FloatKind.nearest .f32 n)) (ρ := ri b n 7 8) (fun _ h => by cases h) (tk_C1_7 b n h ) (UI_ok (nearest_num n) hc hi) (run_C8_7 _ _ _ aR aS) rfl rfl rfl (vs := [.int .i64 8, agV 7 b]) rfl rfl (tupE 8 0 e) w hG⟩
def L_C9_7m : List CF := [⟨.lss, (.cv .i64 (.var 2)), .lit 0, true⟩]
theorem ok_C9_7m (b n : Int) (h : HN 7 b n) (h0 : n < 0) : ∀ f ∈ L_C9_7m, f.ok (ri b n 7 9) := by
  obtain ⟨hb0, hb1, hn, l0, l1⟩ := h
  intro f hf
  simp only [L_C9_7m, List.mem_cons, List.not_mem_nil, or_false] at hf
  subst hf
  · exact ⟨rfl, cmp_lss_t (by simp (disch := omega) only [IE.ev, ri, rc_2, hiI_neg, wrap_i64] <;> omega)⟩
theorem run_C9_7m : RunE L_C9_7m T_C9_7m (UI 7) [(5, [.v (.int .i64 9), ag0 7], .tuple [.agg [.v (.int .i64 9), .sym (.int .u64 (.var 5))], .v (.int .i64 0)]), (6, [.v (.int .i64 9), ag0 7], .tuple [.agg [.v (.int .i64 9), .sym (.int .u64 (.var 5))], .v (.int .i64 0)])] := fun W C ρ aR aS => by unfold runE; kernel_rfl
theorem ag_C9_7m {aR aS : Addr} (b n : Int) (h : HN 7 b n) (h0 : n < 0) (hc : Chk aR aS 7 b 0) (hi : IntV aR aS 7 b n) : AgC aR aS 9 7 b := ⟨9, IE.ev (ri b n 7 9) (.var 5), 0, fun w hG => pair_of (W := wF (FloatKind.nearest .f32 n)) (C := cF (FloatKind.nearest .f32 n)) (ρ := ri b n 7 9) (ok_C9_7m b n h h0) (tk_C9_7m b n h h0) (UI_ok (nearest_num n) hc hi) (run_C9_7m _ _ _ aR aS) rfl rfl rfl (vs := [.int .i64 9, agV 7 b]) rfl rfl rfl w hG⟩
def L_C1_8 : List CF := []
theorem run_C1_8 : RunE L_C1_8 T_C1_8 (UI 8) [(5, [.v (.int .i64 1), ag0 8], .tuple [.agg [.v (.int .i64 1), .sym (.int .u64 (.sh .shr .u64 (.sh .shl .u64 (.var 3) (.lit 56)) (.lit 56)))], .v (.int .i64 0)]), (6, [.v (.int .i64 1), ag0 8], .tuple [.agg [.v (.int .i64 1), .sym (.int .u64 (.bin .and .u64 (.cv .u64 (.var 4)) (.lit 255)))], .v (.int .i64 0)])] := fun W C ρ aR aS => by unfold runE; kernel_rfl
theorem ag_C1_8 {aR aS : Addr} (b n : Int) (h : HN 8 b n)  (hc : Chk aR aS 8 b 0) (hi : IntV aR aS 8 b n) : AgC aR aS 1 8 b := by
  have e : (IE.ev (ri b n 8 1) (.bin .and .u64 (.cv .u64 (.var 4)) (.lit 255)) : Int) = IE.ev (ri b n 8 1) (.sh .shr .u64 (.sh .shl .u64 (.var 3) (.lit 56)) (.lit 56)) := by
    obtain ⟨hb0, hb1, hn, l0, l1⟩ := h
    simp (disch := omega) only [IE.ev, ri, rc_3, rc_4, loI, and_u64_8, shl_u64_56, shr_u64_56, wrap_i64, wrap_u64] <;> omega
  exact ⟨1, IE.ev (ri b n 8 1) (.sh .shr .u64 (.sh .shl .u64 (.var 3) (.lit 56)) (.lit 56)), 0, fun w hG => pair_of (W := wF (FloatKind.nearest .f32 n)) (C := cF (FloatKind.nearest .f32 n)) (ρ := ri b n 8 1) (fun _ h => by cases h) (tk_C1_8 b n h ) (UI_ok (nearest_num n) hc hi) (run_C1_8 _ _ _ aR aS) rfl rfl rfl (vs := [.int .i64 1, agV 8 b]) rfl rfl (tupE 1 0 e) w hG⟩
def L_C5_8 : List CF := []
theorem run_C5_8 : RunE L_C5_8 T_C1_8 (UI 8) [(5, [.v (.int .i64 5), ag0 8], .tuple [.agg [.v (.int .i64 5), .sym (.int .u64 (.sh .shr .u64 (.sh .shl .u64 (.var 3) (.lit 56)) (.lit 56)))], .v (.int .i64 0)]), (6, [.v (.int .i64 5), ag0 8], .tuple [.agg [.v (.int .i64 5), .sym (.int .u64 (.bin .and .u64 (.cv .u64 (.var 4)) (.lit 255)))], .v (.int .i64 0)])] := fun W C ρ aR aS => by unfold runE; kernel_rfl
theorem ag_C5_8 {aR aS : Addr} (b n : Int) (h : HN 8 b n)  (hc : Chk aR aS 8 b 0) (hi : IntV aR aS 8 b n) : AgC aR aS 5 8 b := by
  have e : (IE.ev (ri b n 8 5) (.bin .and .u64 (.cv .u64 (.var 4)) (.lit 255)) : Int) = IE.ev (ri b n 8 5) (.sh .shr .u64 (.sh .shl .u64 (.var 3) (.lit 56)) (.lit 56)) := by
    obtain ⟨hb0, hb1, hn, l0, l1⟩ := h
    simp (disch := omega) only [IE.ev, ri, rc_3, rc_4, loI, and_u64_8, shl_u64_56, shr_u64_56, wrap_i64, wrap_u64] <;> omega
  exact ⟨5, IE.ev (ri b n 8 5) (.sh .shr .u64 (.sh .shl .u64 (.var 3) (.lit 56)) (.lit 56)), 0, fun w hG => pair_of (W := wF (FloatKind.nearest .f32 n)) (C := cF (FloatKind.nearest .f32 n)) (ρ := ri b n 8 5) (fun _ h => by cases h) (tk_C1_8 b n h ) (UI_ok (nearest_num n) hc hi) (run_C5_8 _ _ _ aR aS) rfl rfl rfl (vs := [.int .i64 5, agV 8 b]) rfl rfl (tupE 5 0 e) w hG⟩
def L_C0_8z : List CF := [⟨.neq, .var 0, .lit 0, false⟩]
theorem ok_C0_8z (b n : Int) (h : HN 8 b n) (h0 : b = 0) : ∀ f ∈ L_C0_8z, f.ok (ri b n 8 0) := by
  obtain ⟨hb0, hb1, hn, l0, l1⟩ := h
  intro f hf
  simp only [L_C0_8z, List.mem_cons, List.not_mem_nil, or_false] at hf
  subst hf
  · exact ⟨rfl, cmp_neq_f (by simp (disch := omega) only [IE.ev, ri, rc_0] <;> omega)⟩
theorem run_C0_8z : RunE L_C0_8z [] (UI 8) [(5, [.v (.int .i64 0), ag0 8], .v (.tuple #[.agg #[.int .i64 0, .int .u64 0], .int .i64 0])), (6, [.v (.int .i64 0), ag0 8], .v (.tuple #[.agg #[.int .i64 0, .int .u64 0], .int .i64 0]))] := fun W C ρ aR aS => by unfold runE; kernel_rfl
theorem ag_C0_8z {aR aS : Addr} (b n : Int) (h : HN 8 b n) (h0 : b = 0) (hc : Chk aR aS 8 b 0) (hi : IntV aR aS 8 b n) : AgC aR aS 0 8 b := ⟨0, 0, 0, fun w hG => pair_of (W := wF (FloatKind.nearest .f32 n)) (C := cF (FloatKind.nearest .f32 n)) (ρ := ri b n 8 0) (ok_C0_8z b n h h0) (fun _ h => by cases h) (UI_ok (nearest_num n) hc hi) (run_C0_8z _ _ _ aR aS) rfl rfl rfl (vs := [.int .i64 0, agV 8 b]) rfl rfl rfl w hG⟩
def L_C10_8p : List CF := [⟨.lss, (.cv .i64 (.var 2)), .lit 0, false⟩]
theorem ok_C10_8p (b n : Int) (h : HN 8 b n) (h0 : 0 ≤ n) : ∀ f ∈ L_C10_8p, f.ok (ri b n 8 10) := by
  obtain ⟨hb0, hb1, hn, l0, l1⟩ := h
  intro f hf
  simp only [L_C10_8p, List.mem_cons, List.not_mem_nil, or_false] at hf
  subst hf
  · exact ⟨rfl, cmp_lss_f (by simp (disch := omega) only [IE.ev, ri, rc_2, hiI_pos, wrap_i64] <;> omega)⟩
theorem run_C10_8p : RunE L_C10_8p T_C10_8p (UI 8) [(5, [.v (.int .i64 10), ag0 8], .tuple [.agg [.v (.int .i64 10), .sym (.int .u64 (.bin .or .u64 (.var 5) (.lit 0)))], .v (.int .i64 0)]), (6, [.v (.int .i64 10), ag0 8], .tuple [.agg [.v (.int .i64 10), .sym (.int .u64 (.var 5))], .v (.int .i64 0)])] := fun W C ρ aR aS => by unfold runE; kernel_rfl
theorem ag_C10_8p {aR aS : Addr} (b n : Int) (h : HN 8 b n) (h0 : 0 ≤ n) (hc : Chk aR aS 8 b 0) (hi : IntV aR aS 8 b n) : AgC aR aS 10 8 b := by
  have e : (IE.ev (ri b n 8 10) (.var 5) : Int) = IE.ev (ri b n 8 10) (.bin .or .u64 (.var 5) (.lit 0)) := by
    obtain ⟨hb0, hb1, hn, l0, l1⟩ := h
    have hw := normW_lt (nearest_num n).1
    have hz0 : ∀ x : Int, 0 ≤ x → x < 18446744073709551616 → binI .or .u64 x 0 = x := or_u64_64
    simp (disch := omega) only [IE.ev, ri, rc_5, hz0] <;> omega
  exact ⟨10, IE.ev (ri b n 8 10) (.bin .or .u64 (.var 5) (.lit 0)), 0, fun w hG => pair_of (W := wF (FloatKind.nearest .f32 n)) (C := cF (FloatKind.nearest .f32 n)) (ρ := ri b n 8 10) (ok_C10_8p b n h h0) (tk_C10_8p b n h h0) (UI_ok (nearest_num n) hc hi) (run_C10_8p _ _ _ aR aS) rfl rfl rfl (vs := [.int .i64 10, agV 8 b]) rfl rfl (tupE 10 0 e) w hG⟩
def L_C1_9ii : List CF := []
theorem run_C1_9ii : RunE L_C1_9ii T_C1_9ii UF [(5, [.v (.int .i64 1), ag0 9], .tuple [.agg [.v (.int .i64 1), .sym (.int .u64 (.sh .shr .u64 (.sh .shl .u64 (.var 8) (.lit 56)) (.lit 56)))], .v (.int .i64 0)]), (6, [.v (.int .i64 1), ag0 9], .tuple [.agg [.v (.int .i64 1), .sym (.int .u64 (.bin .and .u64 (.var 8) (.lit 255)))], .v (.int .i64 0)])] := fun W C ρ aR aS => by unfold runE; kernel_rfl
theorem ag_C1_9ii {aR aS : Addr} (F : Nat) (h : HF F) (h0 : 0 ≤ tB F) (h1 : tB F < 256) (h2 : 0 < keyB F) (h3 : keyB F < 1132396544) (hc : Chk aR aS 9 F 0) : AgC aR aS 1 9 (F : Int) := by
  have e : (IE.ev (rf F 1) (.bin .and .u64 (.var 8) (.lit 255)) : Int) = IE.ev (rf F 1) (.sh .shr .u64 (.sh .shl .u64 (.var 8) (.lit 56)) (.lit 56)) := by
    obtain ⟨hF, hr, hz⟩ := h
    simp (disch := omega) only [IE.ev, rf, rc_8, and_u64_8, shl_u64_56, shr_u64_56, wrap_u64] <;> omega
  exact ⟨1, IE.ev (rf F 1) (.sh .shr .u64 (.sh .shl .u64 (.var 8) (.lit 56)) (.lit 56)), 0, fun w hG => pair_of (W := wF F) (C := cF F) (ρ := rf F 1) (fun _ h => by cases h) (tk_C1_9ii F h h0 h1 h2 h3) (UF_ok h.1 h.2.1 h.2.2 hc) (run_C1_9ii _ _ _ aR aS) rfl rfl rfl (vs := [.int .i64 1, agV 9 (F : Int)]) rfl rfl (tupE 1 0 e) w hG⟩
def L_C2_9ib : List CF := []
theorem run_C2_9ib : RunE L_C2_9ib T_C2_9ib UF [(5, [.v (.int .i64 2), ag0 9], .tuple [.agg [.v (.int .i64 2), .sym (.int .u64 (.sh .shr .u64 (.sh .shl .u64 (.var 8) (.lit 48)) (.lit 48)))], .v (.int .i64 0)]), (6, [.v (.int .i64 2), ag0 9], .v (.tuple #[.agg #[.int .i64 2, .int .u64 0], .int .i64 0]))] := fun W C ρ aR aS => by unfold runE; kernel_rfl
theorem ag_C2_9ib {aR aS : Addr} (F : Nat) (h : HF F) (h0 : tB F = 0) (h1 : keyB F ≤ 0) (hc : Chk aR aS 9 F 0) : AgC aR aS 2 9 (F : Int) := by
  have e : (0 : Int) = IE.ev (rf F 2) (.sh .shr .u64 (.sh .shl .u64 (.var 8) (.lit 48)) (.lit 48)) := by
    obtain ⟨hF, hr, hz⟩ := h
    simp (disch := omega) only [IE.ev, rf, rc_8, shl_u64_48, shr_u64_48, wrap_u64] <;> omega
  exact ⟨2, IE.ev (rf F 2) (.sh .shr .u64 (.sh .shl .u64 (.var 8) (.lit 48)) (.lit 48)), 0, fun w hG => pair_of (W := wF F) (C := cF F) (ρ := rf F 2) (fun _ h => by cases h) (tk_C2_9ib F h h0 h1) (UF_ok h.1 h.2.1 h.2.2 hc) (run_C2_9ib _ _ _ aR aS) rfl rfl rfl (vs := [.int .i64 2, agV 9 (F : Int)]) rfl rfl (tupE 2 0 e) w hG⟩
def L_C3_9bb : List CF := []
theorem run_C3_9bb : RunE L_C3_9bb T_C1_9bb UF [(5, [.v (.int .i64 3), ag0 9], .v (.tuple #[.agg #[.int .i64 3, .int .u64 0], .int .i64 0])), (6, [.v (.int .i64 3), ag0 9], .v (.tuple #[.agg #[.int .i64 3, .int .u64 0], .int .i64 0]))] := fun W C ρ aR aS => by unfold runE; kernel_rfl
theorem ag_C3_9bb {aR aS : Addr} (F : Nat) (h : HF F) (h0 : tB F < 0) (h1 : keyB F ≤ 0) (hc : Chk aR aS 9 F 0) : AgC aR aS 3 9 (F : Int) := ⟨3, 0, 0, fun w hG => pair_of (W := wF F) (C := cF F) (ρ := rf F 3) (fun _ h => by cases h) (tk_C1_9bb F h h0 h1) (UF_ok h.1 h.2.1 h.2.2 hc) (run_C3_9bb _ _ _ aR aS) rfl rfl rfl (vs := [.int .i64 3, agV 9 (F : Int)]) rfl rfl rfl w hG⟩
def L_C4_9bb : List CF := []
theorem run_C4_9bb : RunE L_C4_9bb T_C1_9bb UF [(5, [.v (.int .i64 4), ag0 9], .v (.tuple #[.agg #[.int .i64 4, .int .u64 0], .int .i64 0])), (6, [.v (.int .i64 4), ag0 9], .v (.tuple #[.agg #[.int .i64 4, .int .u64 0], .int .i64 0]))] := fun W C ρ aR aS => by unfold runE; kernel_rfl
theorem ag_C4_9bb {aR aS : Addr} (F : Nat) (h : HF F) (h0 : tB F < 0) (h1 : keyB F ≤ 0) (hc : Chk aR aS 9 F 0) : AgC aR aS 4 9 (F : Int) := ⟨4, 0, 0, fun w hG => pair_of (W := wF F) (C := cF F) (ρ := rf F 4) (fun _ h => by cases h) (tk_C1_9bb F h h0 h1) (UF_ok h.1 h.2.1 h.2.2 hc) (run_C4_9bb _ _ _ aR aS) rfl rfl rfl (vs := [.int .i64 4, agV 9 (F : Int)]) rfl rfl rfl w hG⟩
def L_C5_9bb : List CF := []
theorem run_C5_9bb : RunE L_C5_9bb T_C5_9bb UF [(5, [.v (.int .i64 5), ag0 9], .v (.tuple #[.agg #[.int .i64 5, .int .u64 128], .int .i64 0])), (6, [.v (.int .i64 5), ag0 9], .v (.tuple #[.agg #[.int .i64 5, .int .u64 128], .int .i64 0]))] := fun W C ρ aR aS => by unfold runE; kernel_rfl
theorem ag_C5_9bb {aR aS : Addr} (F : Nat) (h : HF F) (h0 : tB F < -128) (h1 : keyB F ≤ -1124073472) (hc : Chk aR aS 9 F 0) : AgC aR aS 5 9 (F : Int) := ⟨5, 128, 0, fun w hG => pair_of (W := wF F) (C := cF F) (ρ := rf F 5) (fun _ h => by cases h) (tk_C5_9bb F h h0 h1) (UF_ok h.1 h.2.1 h.2.2 hc) (run_C5_9bb _ _ _ aR aS) rfl rfl rfl (vs := [.int .i64 5, agV 9 (F : Int)]) rfl rfl rfl w hG⟩
def L_C5_9aa : List CF := []
theorem run_C5_9aa : RunE L_C5_9aa T_C5_9aa UF [(5, [.v (.int .i64 5), ag0 9], .v (.tuple #[.agg #[.int .i64 5, .int .u64 127], .int .i64 0])), (6, [.v (.int .i64 5), ag0 9], .v (.tuple #[.agg #[.int .i64 5, .int .u64 127], .int .i64 0]))] := fun W C ρ aR aS => by unfold runE; kernel_rfl
theorem ag_C5_9aa {aR aS : Addr} (F : Nat) (h : HF F) (h0 : 128 ≤ tB F) (h1 : 1123942400 ≤ keyB F) (hc : Chk aR aS 9 F 0) : AgC aR aS 5 9 (F : Int) := ⟨5, 127, 0, fun w hG => pair_of (W := wF F) (C := cF F) (ρ := rf F 5) (fun _ h => by cases h) (tk_C5_9aa F h h0 h1) (UF_ok h.1 h.2.1 h.2.2 hc) (run_C5_9aa _ _ _ aR aS) rfl rfl rfl (vs := [.int .i64 5, agV 9 (F : Int)]) rfl rfl rfl w hG⟩
def L_C6_9ia : List CF := []
theorem run_C6_9ia : RunE L_C6_9ia T_C6_9ia UF [(5, [.v (.int .i64 6), ag0 9], .tuple [.agg [.v (.int .i64 6), .sym (.int .u64 (.sh .shr .u64 (.sh .shl .u64 (.cv .u64 (.var 8)) (.lit 48)) (.lit 48)))], .v (.int .i64 0)]), (6, [.v (.int .i64 6), ag0 9], .v (.tuple #[.agg #[.int .i64 6, .int .u64 32767], .int .i64 0]))] := fun W C ρ aR aS => by unfold runE; kernel_rfl
theorem ag_C6_9ia {aR aS : Addr} (F : Nat) (h : HF F) (h0 : tB F = 32767) (h1 : -1191182336 < keyB F) (h2 : 1191181824 ≤ keyB F) (hc : Chk aR aS 9 F 0) : AgC aR aS 6 9 (F : Int) := by
  have e : (32767 : Int) = IE.ev (rf F 6) (.sh .shr .u64 (.sh .shl .u64 (.cv .u64 (.var 8)) (.lit 48)) (.lit 48)) := by
    obtain ⟨hF, hr, hz⟩ := h
    simp (disch := omega) only [IE.ev, rf, rc_8, shl_u64_48, shr_u64_48, wrap_u64] <;> omega
  exact ⟨6, IE.ev (rf F 6) (.sh .shr .u64 (.sh .shl .u64 (.cv .u64 (.var 8)) (.lit 48)) (.lit 48)), 0, fun w hG => pair_of (W := wF F) (C := cF F) (ρ := rf F 6) (fun _ h => by cases h) (tk_C6_9ia F h h0 h1 h2) (UF_ok h.1 h.2.1 h.2.2 hc) (run_C6_9ia _ _ _ aR aS) rfl rfl rfl (vs := [.int .i64 6, agV 9 (F : Int)]) rfl rfl (tupE 6 0 e) w hG⟩
def L_C7_9ii : List CF := []
theorem run_C7_9ii : RunE L_C7_9ii T_C7_9ii UF [(5, [.v (.int .i64 7), ag0 9], .tuple [.agg [.v (.int .i64 7), .sym (.int .u64 (.sh .shr .u64 (.sh .shl .u64 (.cv .u64 (.var 8)) (.lit 32)) (.lit 32)))], .v (.int .i64 0)]), (6, [.v (.int .i64 7), ag0 9], .tuple [.agg [.v (.int .i64 7), .sym (.int .u64 (.bin .and .u64 (.cv .u64 (.var 8)) (.lit 4294967295)))], .v (.int .i64 0)])] := fun W C ρ aR aS => by unfold runE; kernel_rfl
theorem ag_C7_9ii {aR aS : Addr} (F : Nat) (h : HF F) (h0 : -2147483648 ≤ tB F) (h1 : tB F < 2147483648) (h2 : -1325400064 < keyB F) (h3 : keyB F < 1325400064) (hc : Chk aR aS 9 F 0) : AgC aR aS 7 9 (F : Int) := by
  have e : (IE.ev (rf F 7) (.bin .and .u64 (.cv .u64 (.var 8)) (.lit 4294967295)) : Int) = IE.ev (rf F 7) (.sh .shr .u64 (.sh .shl .u64 (.cv .u64 (.var 8)) (.lit 32)) (.lit 32)) := by
    obtain ⟨hF, hr, hz⟩ := h
    simp (disch := omega) only [IE.ev, rf, rc_8, and_u64_32, shl_u64_32, shr_u64_32, wrap_u64] <;> omega
  exact ⟨7, IE.ev (rf F 7) (.sh .shr .u64 (.sh .shl .u64 (.cv .u64 (.var 8)) (.lit 32)) (.lit 32)), 0, fun w hG => pair_of (W := wF F) (C := cF F) (ρ := rf F 7) (fun _ h => by cases h) (tk_C7_9ii F h h0 h1 h2 h3) (UF_ok h.1 h.2.1 h.2.2 hc) (run_C7_9ii _ _ _ aR aS) rfl rfl rfl (vs := [.int .i64 7, agV 9 (F : Int)]) rfl rfl (tupE 7 0 e) w hG⟩
def L_C8_9ii : List CF := []
theorem run_C8_9ii : RunE L_C8_9ii T_C8_9ii UF [(5, [.v (.int .i64 8), ag0 9], .tuple [.agg [.v (.int .i64 8), .sym (.int .u64 (.sh .shr .u64 (.sh .shl .u64 (.cv .u64 (.var 8)) (.lit 0)) (.lit 0)))], .v (.int .i64 0)]), (6, [.v (.int .i64 8), ag0 9], .tuple [.agg [.v (.int .i64 8), .sym (.int .u64 (.bin .and .u64 (.cv .u64 (.var 8)) (.lit 18446744073709551615)))], .v (.int .i64 0)])] := fun W C ρ aR aS => by unfold runE; kernel_rfl
theorem ag_C8_9ii {aR aS : Addr} (F : Nat) (h : HF F) (h0 : -9223372036854775808 ≤ tB F) (h1 : tB F < 9223372036854775808) (h2 : -1593835520 < keyB F) (h3 : keyB F < 1593835520) (hc : Chk aR aS 9 F 0) : AgC aR aS 8 9 (F : Int) := by
  have e : (IE.ev (rf F 8) (.bin .and .u64 (.cv .u64 (.var 8)) (.lit 18446744073709551615)) : Int) = IE.ev (rf F 8) (.sh .shr .u64 (.sh .shl .u64 (.cv .u64 (.var 8)) (.lit 0)) (.lit 0)) := by
    obtain ⟨hF, hr, hz⟩ := h
    simp (disch := omega) only [IE.ev, rf, rc_8, and_u64_64, shl_u64_0, shr_u64_0, wrap_u64] <;> omega
  exact ⟨8, IE.ev (rf F 8) (.sh .shr .u64 (.sh .shl .u64 (.cv .u64 (.var 8)) (.lit 0)) (.lit 0)), 0, fun w hG => pair_of (W := wF F) (C := cF F) (ρ := rf F 8) (fun _ h => by cases h) (tk_C8_9ii F h h0 h1 h2 h3) (UF_ok h.1 h.2.1 h.2.2 hc) (run_C8_9ii _ _ _ aR aS) rfl rfl rfl (vs := [.int .i64 8, agV 9 (F : Int)]) rfl rfl (tupE 8 0 e) w hG⟩
def L_C9_9 : List CF := []
theorem run_C9_9 : RunE L_C9_9 [] UF [(5, [.v (.int .i64 9), ag0 9], .tuple [.agg [.v (.int .i64 9), .sym (.int .u64 (.var 0))], .v (.int .i64 0)]), (6, [.v (.int .i64 9), ag0 9], .tuple [.agg [.v (.int .i64 9), .sym (.int .u64 (.var 0))], .v (.int .i64 0)])] := fun W C ρ aR aS => by unfold runE; kernel_rfl
theorem ag_C9_9 {aR aS : Addr} (F : Nat) (h : HF F)  (hc : Chk aR aS 9 F 0) : AgC aR aS 9 9 (F : Int) := ⟨9, IE.ev (rf F 9) (.var 0), 0, fun w hG => pair_of (W := wF F) (C := cF F) (ρ := rf F 9) (fun _ h => by cases h) (fun _ h => by cases h) (UF_ok h.1 h.2.1 h.2.2 hc) (run_C9_9 _ _ _ aR aS) rfl rfl rfl (vs := [.int .i64 9, agV 9 (F : Int)]) rfl rfl rfl w hG⟩
end
end Go.Proofs.YtbhhdjlmbmeiaaaGreatDoor
